/-
  NetSnake returns true at every description of a network, and its arguments read afterwards as they read before. Conditions: none.
-/
import Derived.Test.YtbhkenphcahifaaSB
import Derived.Test.YtbhkenphcahifaaSC
import Derived.Test.YtbhkenphcahifaaRows
import Derived.Test.YtbhkenphcahifaaOI
import Derived.WalkKit
import Derived.ProofKit
import Derived.OpenShut
import Derived.Carry
import Derived.SizedLaws
namespace Go.Proofs.Ytbhkenphcahifaa
open Go.RowKit Go.Shelf
attribute [local go_sem] Oper.semAt_some
set_option maxRecDepth 100000
set_option maxHeartbeats 4000000

theorem own_lower7 {w : World} {lo lo' e k n : Nat} {v : Value} {xs : List Value} (h : w.ownsRow lo e k v n xs) (hl : lo' ≤ lo) : w.ownsRow lo' e k v n xs := by
  refine ⟨h.1, ?_⟩
  rcases h.2 with h2 | ⟨g, cap, cur, h1, h3, h4⟩
  · exact .inl h2
  · exact .inr ⟨g, cap, cur, h1, Nat.le_trans hl h3, h4⟩
theorem m_snake1 (sa : Option Addr) (n sc : Nat) (m : Int) (w : World) : (method 288 105 (.agg #[.slice sa n sc, .int .i64 m]) "armada/net.snake").run Try.prog w = .ok (100, .agg #[.slice sa n sc, .int .i64 m]) w := by kernel_rfl
theorem m_snake2 (a b c : Int) (w : World) : (method 288 109 (.agg #[.int .i64 a, .int .i64 b, .int .i64 c]) "armada/net.snake").run Try.prog w = .ok (141, .agg #[.int .i64 a, .int .i64 b, .int .i64 c]) w := by kernel_rfl
theorem m_snake3 (a b c : Int) (w : World) : (method 288 113 (.agg #[.int .i64 a, .int .i64 b, .int .i64 c]) "armada/net.snake").run Try.prog w = .ok (155, .agg #[.int .i64 a, .int .i64 b, .int .i64 c]) w := by kernel_rfl
theorem treeSnake_any (a b : Int) (n : Nat) (hn : n ≤ 1000000) (w : World) : Calls Try.prog 141 #[.agg #[.int .i64 a, .int .i64 b, .int .i64 (n : Int)]] w fun e w' => ∃ v, e = .returned v ∧ NewInts w.heap.size w' v (ascI n n) ∧ Below w.heap.size w w' := by
  have HB := Lib.hid ((Below.refl w.heap.size w).alloc (Nat.le_refl _) (.cells #[.int .i64 a, .int .i64 b, .int .i64 (n : Int)] 109))
  have q0 := heap_alloc_new w (.cells #[.int .i64 a, .int .i64 b, .int .i64 (n : Int)] 109)
  have c2 := cellR 2 q0 rfl
  have HA := Lib.hid (fun W => ascending_any n hn W)
  have hsz : w.heap.size ≤ (w.alloc (.cells #[.int .i64 a, .int .i64 b, .int .i64 (n : Int)] 109)).heap.size := by simp
  clear q0
  go_enter Try.func141, Try.ntmps141
  go_wp2_with fail
  generalize w.alloc (.cells #[.int .i64 a, .int .i64 b, .int .i64 (n : Int)] 109) = X at *
  refine (HA.out _).mono ?_
  rintro e w1 ⟨v, rfl, hv, hb⟩
  have HR : Hid (NewInts w.heap.size w1 v (ascI n n) ∧ Below w.heap.size w w1) := ⟨⟨own_lower7 hv.own hsz, hv.len⟩, HB.out.trans (hb.mono hsz)⟩
  clear HA hv hb c2 HB
  go_wp2_with fail
  go_ret
  exact ⟨_, rfl, HR.out.1, HR.out.2⟩
theorem dragSnake_any (a b c : Int) (n : Nat) (hn : n ≤ 1000000) (hac : a * c = (n : Int)) (w : World) : Calls Try.prog 155 #[.agg #[.int .i64 a, .int .i64 b, .int .i64 c]] w fun e w' => ∃ v, e = .returned v ∧ NewInts w.heap.size w' v (ascI n n) ∧ Below w.heap.size w w' := by
  have HB := Lib.hid ((Below.refl w.heap.size w).alloc (Nat.le_refl _) (.cells #[.int .i64 a, .int .i64 b, .int .i64 c] 113))
  have q0 := heap_alloc_new w (.cells #[.int .i64 a, .int .i64 b, .int .i64 c] 113)
  have c0 := cellR 0 q0 rfl
  have c2 := cellR 2 q0 rfl
  have HA := Lib.hid (fun W => ascending_any n hn W)
  have hw : wrap64 (a * c) = (n : Int) := by rw [hac]; exact wrap_small _ (by omega) (by omega)
  have hsz : w.heap.size ≤ (w.alloc (.cells #[.int .i64 a, .int .i64 b, .int .i64 c] 113)).heap.size := by simp
  clear q0 hac
  go_enter Try.func155, Try.ntmps155
  go_wp2_with fail
  generalize w.alloc (.cells #[.int .i64 a, .int .i64 b, .int .i64 c] 113) = X at *
  refine (HA.out _).mono ?_
  rintro e w1 ⟨v, rfl, hv, hb⟩
  have HR : Hid (NewInts w.heap.size w1 v (ascI n n) ∧ Below w.heap.size w w1) := ⟨⟨own_lower7 hv.own hsz, hv.len⟩, HB.out.trans (hb.mono hsz)⟩
  clear HA hv hb c0 c2 HB hw
  go_wp2_with fail
  go_ret
  exact ⟨_, rfl, HR.out.1, HR.out.2⟩

/-- Snake over any maker of the kind's snake -/
theorem Snake1_any {w : World} {sa : Option Addr} {l : List Int} (h : Ints w sa l) (sc : Nat) (hosts : Int) (hv : vOk 1 l hosts) {L : List Int}
    (hS : ∀ W, Below w.heap.size w W → Calls Try.prog 100 #[.agg #[.slice sa l.length sc, .int .i64 (prodI l)]] W fun e w' => ∃ v, e = .returned v ∧ NewInts W.heap.size w' v L ∧ Below W.heap.size W w') :
    Calls Try.prog 37 #[.agg #[.int .i64 1, .slice sa l.length sc, .int .i64 hosts]] w fun e w' => ∃ v, e = .returned (.tuple #[v, .int .i64 0]) ∧ NewInts w.heap.size w' v L ∧ Below w.heap.size w w' := by
  have HO : Hid (∀ W, Below w.heap.size w W → Calls Try.prog 42 #[.agg #[.int .i64 1, .slice sa l.length sc, .int .i64 hosts]] W fun e w' => Below W.heap.size W w' ∧ ((vOk 1 l hosts ∧ e = .returned (.tuple #[netV 1 sa sc l, .int .i64 0])) ∨ (¬ vOk 1 l hosts ∧ e = .returned (.tuple #[.nilIface, .int .i64 2])))) := fun W hb => networkOf_any (h.keep hb) sc 1 hosts
  have HSS := Lib.hid hS
  have hm := m_snake1 sa l.length sc (prodI l)
  have HNV : Hid (netV 1 sa sc l = .iface 105 (.agg #[.slice sa l.length sc, .int .i64 (prodI l)])) := rfl
  have HB := Lib.hid ((Below.refl w.heap.size w).alloc (Nat.le_refl _) (.cells #[.int .i64 1, .slice sa l.length sc, .int .i64 hosts] 24))
  have q0 := heap_alloc_new w (.cells #[.int .i64 1, .slice sa l.length sc, .int .i64 hosts] 24)
  have c0 := cellR 0 q0 rfl
  have c1 := cellR 1 q0 rfl
  have c2 := cellR 2 q0 rfl
  clear h q0 hS
  go_enter Try.func37, Try.ntmps37
  go_wp2_with fail
  generalize w.alloc (.cells #[.int .i64 1, .slice sa l.length sc, .int .i64 hosts] 24) = X at *
  refine (HO.out _ HB.out).mono ?_
  rintro e w1 ⟨hb1, ⟨hn, rfl⟩ | ⟨hn, rfl⟩⟩
  · have HB1 := Lib.hid (HB.out.trans (hb1.mono HB.out.size))
    rw [HNV.out]
    have HS1 := Lib.hid (HSS.out _ HB1.out)
    clear c0 c1 c2 HB hb1 HO hn HNV HSS
    go_wp2_with fail
    refine HS1.out.mono ?_
    rintro e w2 ⟨v, rfl, hv2, hb2⟩
    have HR : Hid (NewInts w.heap.size w2 v L ∧ Below w.heap.size w w2) := ⟨⟨own_lower7 hv2.own HB1.out.size, hv2.len⟩, HB1.out.trans (hb2.mono HB1.out.size)⟩
    clear HS1 hv2 hb2 HB1
    go_wp2_with fail
    exact bodyPost_ret (v := .tuple #[v, .int .i64 0]) (by simp [results, Try.results37]) rfl ⟨v, rfl, HR.out.1, HR.out.2⟩
  · exact absurd hv hn
theorem Snake2_any {w : World} {sa : Option Addr} {l : List Int} (h : Ints w sa l) (sc : Nat) (hosts : Int) (hv : vOk 2 l hosts) {L : List Int}
    (hS : ∀ W, Below w.heap.size w W → Calls Try.prog 141 #[.agg #[.int .i64 (l.getD 0 0), .int .i64 (l.getD 1 0), .int .i64 (wordsI l)]] W fun e w' => ∃ v, e = .returned v ∧ NewInts W.heap.size w' v L ∧ Below W.heap.size W w') :
    Calls Try.prog 37 #[.agg #[.int .i64 2, .slice sa l.length sc, .int .i64 hosts]] w fun e w' => ∃ v, e = .returned (.tuple #[v, .int .i64 0]) ∧ NewInts w.heap.size w' v L ∧ Below w.heap.size w w' := by
  have HO : Hid (∀ W, Below w.heap.size w W → Calls Try.prog 42 #[.agg #[.int .i64 2, .slice sa l.length sc, .int .i64 hosts]] W fun e w' => Below W.heap.size W w' ∧ ((vOk 2 l hosts ∧ e = .returned (.tuple #[netV 2 sa sc l, .int .i64 0])) ∨ (¬ vOk 2 l hosts ∧ e = .returned (.tuple #[.nilIface, .int .i64 2])))) := fun W hb => networkOf_any (h.keep hb) sc 2 hosts
  have HSS := Lib.hid hS
  have hm := m_snake2 (l.getD 0 0) (l.getD 1 0) (wordsI l)
  have HNV : Hid (netV 2 sa sc l = .iface 109 (.agg #[.int .i64 (l.getD 0 0), .int .i64 (l.getD 1 0), .int .i64 (wordsI l)])) := rfl
  have HB := Lib.hid ((Below.refl w.heap.size w).alloc (Nat.le_refl _) (.cells #[.int .i64 2, .slice sa l.length sc, .int .i64 hosts] 24))
  have q0 := heap_alloc_new w (.cells #[.int .i64 2, .slice sa l.length sc, .int .i64 hosts] 24)
  have c0 := cellR 0 q0 rfl
  have c1 := cellR 1 q0 rfl
  have c2 := cellR 2 q0 rfl
  clear h q0 hS
  go_enter Try.func37, Try.ntmps37
  go_wp2_with fail
  generalize w.alloc (.cells #[.int .i64 2, .slice sa l.length sc, .int .i64 hosts] 24) = X at *
  refine (HO.out _ HB.out).mono ?_
  rintro e w1 ⟨hb1, ⟨hn, rfl⟩ | ⟨hn, rfl⟩⟩
  · have HB1 := Lib.hid (HB.out.trans (hb1.mono HB.out.size))
    rw [HNV.out]
    have HS1 := Lib.hid (HSS.out _ HB1.out)
    clear c0 c1 c2 HB hb1 HO hn HNV HSS
    go_wp2_with fail
    refine HS1.out.mono ?_
    rintro e w2 ⟨v, rfl, hv2, hb2⟩
    have HR : Hid (NewInts w.heap.size w2 v L ∧ Below w.heap.size w w2) := ⟨⟨own_lower7 hv2.own HB1.out.size, hv2.len⟩, HB1.out.trans (hb2.mono HB1.out.size)⟩
    clear HS1 hv2 hb2 HB1
    go_wp2_with fail
    exact bodyPost_ret (v := .tuple #[v, .int .i64 0]) (by simp [results, Try.results37]) rfl ⟨v, rfl, HR.out.1, HR.out.2⟩
  · exact absurd hv hn
theorem Snake3_any {w : World} {sa : Option Addr} {l : List Int} (h : Ints w sa l) (sc : Nat) (hosts : Int) (hv : vOk 3 l hosts) {L : List Int}
    (hS : ∀ W, Below w.heap.size w W → Calls Try.prog 155 #[.agg #[.int .i64 (l.getD 0 0), .int .i64 (l.getD 1 0), .int .i64 (l.getD 0 0 * l.getD 1 0 + 1)]] W fun e w' => ∃ v, e = .returned v ∧ NewInts W.heap.size w' v L ∧ Below W.heap.size W w') :
    Calls Try.prog 37 #[.agg #[.int .i64 3, .slice sa l.length sc, .int .i64 hosts]] w fun e w' => ∃ v, e = .returned (.tuple #[v, .int .i64 0]) ∧ NewInts w.heap.size w' v L ∧ Below w.heap.size w w' := by
  have HO : Hid (∀ W, Below w.heap.size w W → Calls Try.prog 42 #[.agg #[.int .i64 3, .slice sa l.length sc, .int .i64 hosts]] W fun e w' => Below W.heap.size W w' ∧ ((vOk 3 l hosts ∧ e = .returned (.tuple #[netV 3 sa sc l, .int .i64 0])) ∨ (¬ vOk 3 l hosts ∧ e = .returned (.tuple #[.nilIface, .int .i64 2])))) := fun W hb => networkOf_any (h.keep hb) sc 3 hosts
  have HSS := Lib.hid hS
  have hm := m_snake3 (l.getD 0 0) (l.getD 1 0) (l.getD 0 0 * l.getD 1 0 + 1)
  have HNV : Hid (netV 3 sa sc l = .iface 113 (.agg #[.int .i64 (l.getD 0 0), .int .i64 (l.getD 1 0), .int .i64 (l.getD 0 0 * l.getD 1 0 + 1)])) := rfl
  have HB := Lib.hid ((Below.refl w.heap.size w).alloc (Nat.le_refl _) (.cells #[.int .i64 3, .slice sa l.length sc, .int .i64 hosts] 24))
  have q0 := heap_alloc_new w (.cells #[.int .i64 3, .slice sa l.length sc, .int .i64 hosts] 24)
  have c0 := cellR 0 q0 rfl
  have c1 := cellR 1 q0 rfl
  have c2 := cellR 2 q0 rfl
  clear h q0 hS
  go_enter Try.func37, Try.ntmps37
  go_wp2_with fail
  generalize w.alloc (.cells #[.int .i64 3, .slice sa l.length sc, .int .i64 hosts] 24) = X at *
  refine (HO.out _ HB.out).mono ?_
  rintro e w1 ⟨hb1, ⟨hn, rfl⟩ | ⟨hn, rfl⟩⟩
  · have HB1 := Lib.hid (HB.out.trans (hb1.mono HB.out.size))
    rw [HNV.out]
    have HS1 := Lib.hid (HSS.out _ HB1.out)
    clear c0 c1 c2 HB hb1 HO hn HNV HSS
    go_wp2_with fail
    refine HS1.out.mono ?_
    rintro e w2 ⟨v, rfl, hv2, hb2⟩
    have HR : Hid (NewInts w.heap.size w2 v L ∧ Below w.heap.size w w2) := ⟨⟨own_lower7 hv2.own HB1.out.size, hv2.len⟩, HB1.out.trans (hb2.mono HB1.out.size)⟩
    clear HS1 hv2 hb2 HB1
    go_wp2_with fail
    exact bodyPost_ret (v := .tuple #[v, .int .i64 0]) (by simp [results, Try.results37]) rfl ⟨v, rfl, HR.out.1, HR.out.2⟩
  · exact absurd hv hn
end Go.Proofs.Ytbhkenphcahifaa

namespace Go.Proofs.Ytbhkenphcahifaa
open Go.RowKit Go.Shelf
attribute [local go_sem] Oper.semAt_some
set_option maxRecDepth 100000
set_option maxHeartbeats 4000000

/-- no valid network has more than 256 switches -/
theorem sw_max {kind : Int} {l : List Int} {hosts : Int} (hv : vOk kind l hosts) : swI kind l ≤ 256 := by
  rcases hv with ⟨rfl, h⟩ | ⟨rfl, h⟩ | ⟨rfl, h⟩
  · exact h.2.2.2
  · obtain ⟨_, h1, h2, h3, _⟩ := h
    show l.getD 1 0 * wordsI l ≤ 256
    have hw : wordsI l = (((l.getD 0 0).toNat ^ ((l.getD 1 0).toNat - 1) : Nat) : Int) := rfl
    rw [hw]
    generalize l.getD 0 0 = A at *
    generalize l.getD 1 0 = C at *
    obtain ⟨k, rfl⟩ := Int.eq_ofNat_of_zero_le (show 0 ≤ A by omega)
    obtain ⟨n, rfl⟩ := Int.eq_ofNat_of_zero_le (show 0 ≤ C by omega)
    simp only [Int.toNat_natCast] at h3 ⊢
    have hn : n = 1 ∨ n = 2 ∨ n = 3 ∨ n = 4 := by omega
    have hk : k = 2 ∨ k = 3 ∨ k = 4 ∨ k = 5 ∨ k = 6 ∨ k = 7 ∨ k = 8 := by omega
    rcases hn with rfl | rfl | rfl | rfl <;> rcases hk with rfl | rfl | rfl | rfl | rfl | rfl | rfl <;> first | decide | (exfalso; revert h3; decide)
  · exact h.2.2.2.2
theorem Snake_bad {w : World} {sa : Option Addr} {l : List Int} (h : Ints w sa l) (sc : Nat) (kind hosts : Int) (hv : ¬ vOk kind l hosts) :
    Calls Try.prog 37 #[.agg #[.int .i64 kind, .slice sa l.length sc, .int .i64 hosts]] w fun e w' => e = .returned (.tuple #[.slice none 0 0, .int .i64 2]) ∧ Below w.heap.size w w' := by
  have HO : Hid (∀ W, Below w.heap.size w W → Calls Try.prog 42 #[.agg #[.int .i64 kind, .slice sa l.length sc, .int .i64 hosts]] W fun e w' => Below W.heap.size W w' ∧ ((vOk kind l hosts ∧ e = .returned (.tuple #[netV kind sa sc l, .int .i64 0])) ∨ (¬ vOk kind l hosts ∧ e = .returned (.tuple #[.nilIface, .int .i64 2])))) := fun W hb => networkOf_any (h.keep hb) sc kind hosts
  have HB := Lib.hid ((Below.refl w.heap.size w).alloc (Nat.le_refl _) (.cells #[.int .i64 kind, .slice sa l.length sc, .int .i64 hosts] 24))
  have q0 := heap_alloc_new w (.cells #[.int .i64 kind, .slice sa l.length sc, .int .i64 hosts] 24)
  have c0 := cellR 0 q0 rfl
  have c1 := cellR 1 q0 rfl
  have c2 := cellR 2 q0 rfl
  clear h q0
  go_enter Try.func37, Try.ntmps37
  go_wp2_with fail
  generalize w.alloc (.cells #[.int .i64 kind, .slice sa l.length sc, .int .i64 hosts] 24) = X at *
  refine (HO.out _ HB.out).mono ?_
  rintro e w1 ⟨hb1, ⟨hn, rfl⟩ | ⟨hn, rfl⟩⟩
  · exact absurd hn hv
  · have HB1 := Lib.hid (HB.out.trans (hb1.mono HB.out.size))
    clear c0 c1 c2 HB hb1 HO hn
    go_wp2_with fail
    exact bodyPost_ret (v := .tuple #[.slice none 0 0, .int .i64 2]) (by simp [results, Try.results37]) rfl ⟨rfl, HB1.out⟩

/-- which homes were met in the first places -/
def Met (n : Nat) (L : List Int) (i : Nat) (bs : List Bool) : Prop := bs.length = n ∧ ∀ j : Nat, j < n → bs.getD j true = decide ((j : Int) ∈ L.take i)
theorem met_zero (n : Nat) (L : List Int) : Met n L 0 (List.replicate n false) := ⟨by simp, fun j hj => by simp [List.getD, hj]⟩
theorem met_next {n : Nat} {L : List Int} {i : Nat} {bs : List Bool} (h : Met n L i bs) (hi : i < L.length) {m : Nat} (hm : L[i] = (m : Int)) (hmn : m < n) : Met n L (i + 1) (bs.set m true) := by
  refine ⟨by rw [List.length_set]; exact h.1, fun j hj => ?_⟩
  rw [List.take_succ_eq_append_getElem hi]
  by_cases hjm : m = j
  · subst hjm
    rw [getD_set_same _ _ _ _ (by rw [h.1]; exact hmn)]
    symm; rw [decide_eq_true_iff]; simp [hm]
  · rw [getD_set_other _ _ _ _ _ hjm, h.2 j hj]
    have : ((j : Int) ∈ L.take i ++ [L[i]]) = ((j : Int) ∈ L.take i) := by
      rw [hm]; simp; intro e; omega
    simp only [this]
theorem met_not {n : Nat} {L : List Int} {i : Nat} {bs : List Bool} (h : Met n L i bs) (hL : L.Nodup) (hi : i < L.length) {m : Nat} (hm : L[i] = (m : Int)) (hmn : m < n) : bs.getD m true = false := by
  rw [h.2 m hmn, decide_eq_false_iff_not, ← hm]
  intro e
  obtain ⟨k, hk, he⟩ := List.getElem_of_mem e
  simp at hk
  have h2 : L[k]'(by omega) = L[i] := by rw [← he]; simp
  have := (List.getElem_inj hL).1 h2
  omega
end Go.Proofs.Ytbhkenphcahifaa

namespace Go.Proofs.Ytbhkenphcahifaa
open Go.RowKit Go.Shelf
attribute [local go_sem] Oper.semAt_some
set_option maxRecDepth 100000
set_option maxHeartbeats 4000000

theorem asc_nodup (n : Nat) : (ascI n n).Nodup := by
  unfold ascI
  refine List.pairwise_map.2 ((List.nodup_range (n := n)).imp_of_mem ?_)
  intro a b ha hb hne
  rw [if_pos (by simpa using ha), if_pos (by simpa using hb)]
  omega
/-- the law where the neighbors are not asked -/
theorem NetSnake_23 {w : World} {sa : Option Addr} {l : List Int} (h : Ints w sa l) (sc : Nat) (kind hosts : Int) (hv : vOk kind l hosts) (hk1 : kind ≠ 1) {L : List Int} (hlen : (L.length : Int) = hoI kind l) (hin : ∀ x ∈ L, 0 ≤ x ∧ x < hoI kind l) (hnd : L.Nodup)
    (hS : ∀ W, Below w.heap.size w W → Calls Try.prog 37 #[.agg #[.int .i64 kind, .slice sa l.length sc, .int .i64 hosts]] W fun e w' => ∃ v, e = .returned (.tuple #[v, .int .i64 0]) ∧ NewInts W.heap.size w' v L ∧ Below W.heap.size W w') :
    Calls Try.prog 9 #[.agg #[.int .i64 kind, .slice sa l.length sc, .int .i64 hosts]] w fun e w' => e = .returned (.bool true) ∧ Below w.heap.size w w' := by
  have HB := Lib.hid ((Below.refl w.heap.size w).alloc (Nat.le_refl _) (.cells #[.int .i64 kind, .slice sa l.length sc, .int .i64 hosts] 24))
  have Q0 := Lib.hid (heap_alloc_new w (.cells #[.int .i64 kind, .slice sa l.length sc, .int .i64 hosts] 24))
  have c0 := cellR 0 Q0.out rfl
  have c1 := cellR 1 Q0.out rfl
  have c2 := cellR 2 Q0.out rfl
  have H25 := Lib.hid (size_any (h.keep HB.out) sc kind hosts 256)
  have HSS := Lib.hid hS
  have HWK := Lib.hid works_any
  have hsw := sw_max hv
  obtain ⟨b1, b2, b3, b4, b5, b6⟩ := v_bound hv
  rw [show szM kind l hosts 256 = swI kind l from if_pos ⟨hv, hsw⟩, show hoM kind l hosts 256 = hoI kind l from if_pos ⟨hv, hsw⟩] at H25
  have hkb : (kind == 1) = false := by simpa using hk1
  obtain ⟨n, hn⟩ := Int.eq_ofNat_of_zero_le (show 0 ≤ swI kind l by omega)
  obtain ⟨m, hm⟩ := Int.eq_ofNat_of_zero_le (show 0 ≤ hoI kind l by omega)
  have HL : Hid (L.length = m ∧ L.Nodup ∧ ∀ i (hi : i < L.length), ∃ x : Nat, L[i] = (x : Int) ∧ x < m ∧ x < n) := by
    refine ⟨by omega, hnd, fun i hi => ?_⟩
    obtain ⟨x0, x1⟩ := hin L[i] (List.getElem_mem hi)
    obtain ⟨x, hx⟩ := Int.eq_ofNat_of_zero_le x0
    exact ⟨x, hx, by omega, by omega⟩
  rw [hn, hm] at H25
  have hn1 : 1 ≤ n := by omega
  have hnb : ((n : Int) == 0) = false := by simp; omega
  have hmk := make_bools n (by omega)
  have hnl : n ≤ 256 := by omega
  have hml : m ≤ 256 := by omega
  clear h hv hk1 hlen hin hnd hS b1 b2 b3 b4 b5 b6 hn hm hsw
  generalize l.length = N at *
  go_enter Try.func9, Try.ntmps9
  go_wp2_with fail
  generalize w.alloc (.cells #[.int .i64 kind, .slice sa N sc, .int .i64 hosts] 24) = X at *
  refine H25.out.mono ?_
  rintro e w1 ⟨rfl, hb⟩
  replace c0 := kcell hb c0
  replace c1 := kcell hb c1
  replace c2 := kcell hb c2
  replace Q0 := Lib.hid (heapB hb Q0.out)
  replace HB := Lib.hid (HB.out.trans (hb.mono HB.out.size))
  have HS1 := Lib.hid (HSS.out _ HB.out)
  clear H25 HSS hb
  go_wp2_with fail
  refine HS1.out.mono ?_
  rintro e w2 ⟨v, rfl, hv2, hb⟩
  obtain ⟨pa, pk, rfl, hi⟩ := hv2.ints
  rw [HL.out.1]
  have HI := Lib.hid hi
  replace Q0 := Lib.hid (heapB hb Q0.out)
  replace HB := Lib.hid (HB.out.trans (hb.mono HB.out.size))
  clear hv2 hi hb HS1 c0 c1 c2
  have hmm : ((m : Int) != (m : Int)) = false := by simp
  have hba : BAt (w2.alloc (.cells (boolA (List.replicate n false)) 4)) w2.heap.size (List.replicate n false) := heap_alloc_new w2 _
  have HM0 : Hid (∃ bs, Met n L 0 bs ∧ BAt (w2.alloc (.cells (boolA (List.replicate n false)) 4)) w2.heap.size bs ∧ Below w2.heap.size w2 (w2.alloc (.cells (boolA (List.replicate n false)) 4))) := ⟨_, met_zero n L, hba, (Below.refl _ _).alloc (Nat.le_refl _) _⟩
  obtain ⟨g, hg⟩ : ∃ g, g = w2.heap.size := ⟨_, rfl⟩
  have HG := Lib.hid hg
  clear hba
  go_wp2_with fail
  rw [← hg] at HM0 ⊢
  clear hmk hg hmm
  generalize w2.alloc (.cells (boolA (List.replicate n false)) 4) = Y at *
  go_loopw [8] (fun iv wr => ∃ (i : Nat), i ≤ m ∧ iv = .int .i64 (i : Int) ∧ Hid (∃ bs, Met n L i bs ∧ BAt wr g bs ∧ Below g w2 wr)) (fun iv _ => m - (intOf iv).toNat)
  case atStart => exact ⟨0, Nat.zero_le _, rfl, HM0⟩
  case round =>
    clear HM0
    obtain ⟨i, hi, rfl, HR⟩ := hrel
    obtain ⟨bs, hmt, hbt, hbl⟩ := HR.out
    have HBL : Hid (Below w2.heap.size w2 wr) := HG.out ▸ hbl
    by_cases hlt : i < m
    · have hiL : i < L.length := by rw [HL.out.1]; exact hlt
      obtain ⟨x, hx, hxm, hxn⟩ := HL.out.2.2 i hiL
      obtain ⟨gp, op, rfl, hc⟩ := (HI.out.keep HBL.out).at_ (ne_nil_of_lt hiL)
      have e0 := hc i hiL
      rw [hx] at e0
      have hbn := met_not hmt HL.out.2.1 hiL hx hxn
      have e1 := hbt.cell x (by rw [hmt.1]; exact hxn)
      rw [hbn] at e1
      have o1 := hbt.open_ x
      have l1 := hbt.lt
      have k0 := cellR 0 (heapB HBL.out Q0.out) rfl
      have HN : Hid (∃ bs, Met n L (i + 1) bs ∧ BAt (wr.setCell ⟨g, x, none⟩ (.bool true)) g bs ∧ Below g w2 (wr.setCell ⟨g, x, none⟩ (.bool true))) := ⟨_, met_next hmt hiL hx hxn, hbt.set x true, hbl.setCell (p := ⟨g, x, none⟩) (Nat.le_refl _) _⟩
      have k0' : (wr.setCell ⟨g, x, none⟩ (.bool true)).cell? ⟨w.heap.size, 0, none⟩ = some (.int .i64 kind) := by
        have hlt0 := (Array.getElem?_eq_some_iff.1 Q0.out).1
        have h7 := HN.out
        obtain ⟨_, _, _, h8⟩ := h7
        have h9 : (wr.setCell ⟨g, x, none⟩ (.bool true)).heap[w.heap.size]? = w2.heap[w.heap.size]? := h8.block _ (by rw [HG.out]; exact hlt0)
        exact cellR 0 (h9.trans Q0.out) rfl
      have d1 : decide ((x : Int) < 0) = false := decide_eq_false (by omega)
      have d2 : decide ((x : Int) ≥ (m : Int)) = false := decide_eq_false (by omega)
      clear HR hmt hbt hbl hc hiL hx hbn
      cases i with
      | zero =>
        rw [Nat.add_zero] at e0
        go_wp2_with fail
        go_roundw
        case rel => exact ⟨1, by omega, rfl, HN⟩
        case measure => simp [intOf]; omega
      | succ i =>
        have d3 : decide (((i + 1 : Nat) : Int) > 0) = true := decide_eq_true (by omega)
        go_wp2_with fail
        go_roundw
        case rel => exact ⟨i + 1 + 1, by omega, by go_num, HN⟩
        case measure => simp [intOf]; omega
    · clear HR hmt hbt hbl
      have HB2 : Hid (Below w.heap.size w wr) := HB.out.trans (HBL.out.mono HB.out.size)
      clear HBL
      go_wp2_with fail
      refine (HWK.out _).mono ?_
      rintro e w6 ⟨rfl, hb6⟩
      have HB6 := Lib.hid (HB2.out.trans (hb6.mono HB2.out.size))
      clear hb6 HB2
      go_wp2_with fail
      go_ret
      exact ⟨rfl, HB6.out⟩
theorem NetSnake_bad {w : World} {sa : Option Addr} {l : List Int} (h : Ints w sa l) (sc : Nat) (kind hosts : Int) (hv : ¬ vOk kind l hosts) :
    Calls Try.prog 9 #[.agg #[.int .i64 kind, .slice sa l.length sc, .int .i64 hosts]] w fun e w' => e = .returned (.bool true) ∧ Below w.heap.size w w' := by
  have HB := Lib.hid ((Below.refl w.heap.size w).alloc (Nat.le_refl _) (.cells #[.int .i64 kind, .slice sa l.length sc, .int .i64 hosts] 24))
  have c0 := cellR 0 (heap_alloc_new w (.cells #[.int .i64 kind, .slice sa l.length sc, .int .i64 hosts] 24)) rfl
  have c1 := cellR 1 (heap_alloc_new w (.cells #[.int .i64 kind, .slice sa l.length sc, .int .i64 hosts] 24)) rfl
  have c2 := cellR 2 (heap_alloc_new w (.cells #[.int .i64 kind, .slice sa l.length sc, .int .i64 hosts] 24)) rfl
  have H25 := Lib.hid (size_any (h.keep HB.out) sc kind hosts 256)
  have HSS : Hid (∀ W, Below w.heap.size w W → Calls Try.prog 37 #[.agg #[.int .i64 kind, .slice sa l.length sc, .int .i64 hosts]] W fun e w' => e = .returned (.tuple #[.slice none 0 0, .int .i64 2]) ∧ Below W.heap.size W w') := fun W hb => Snake_bad (h.keep hb) sc kind hosts hv
  have HWK := Lib.hid works_any
  rw [show szM kind l hosts 256 = 0 from if_neg fun e => hv e.1, show hoM kind l hosts 256 = 0 from if_neg fun e => hv e.1] at H25
  clear h hv
  generalize l.length = N at *
  go_enter Try.func9, Try.ntmps9
  go_wp2_with fail
  generalize w.alloc (.cells #[.int .i64 kind, .slice sa N sc, .int .i64 hosts] 24) = X at *
  refine H25.out.mono ?_
  rintro e w1 ⟨rfl, hb⟩
  replace c0 := kcell hb c0
  replace c1 := kcell hb c1
  replace c2 := kcell hb c2
  replace HB := Lib.hid (HB.out.trans (hb.mono HB.out.size))
  have HS1 := Lib.hid (HSS.out _ HB.out)
  clear H25 HSS hb
  go_wp2_with fail
  refine HS1.out.mono ?_
  rintro e w2 ⟨rfl, hb⟩
  replace HB := Lib.hid (HB.out.trans (hb.mono HB.out.size))
  clear hb HS1 c0 c1 c2
  go_wp2_with fail
  refine (HWK.out _).mono ?_
  rintro e w6 ⟨rfl, hb6⟩
  have HB6 := Lib.hid (HB.out.trans (hb6.mono HB.out.size))
  clear hb6 HB
  go_wp2_with fail
  go_ret
  exact ⟨rfl, HB6.out⟩
/-- the law in trees and dragonflies -/
theorem NetSnake_tree {w : World} {sa : Option Addr} {l : List Int} (h : Ints w sa l) (sc : Nat) (hosts : Int) (hv : vOk 2 l hosts) :
    Calls Try.prog 9 #[.agg #[.int .i64 2, .slice sa l.length sc, .int .i64 hosts]] w fun e w' => e = .returned (.bool true) ∧ Below w.heap.size w w' := by
  obtain ⟨b1, b2, _⟩ := v_bound hv
  obtain ⟨n, hn⟩ := Int.eq_ofNat_of_zero_le (show 0 ≤ hoI 2 l by omega)
  have hw : wordsI l = (n : Int) := hn
  refine NetSnake_23 h sc 2 hosts hv (by decide) (L := ascI n n) (by rw [asc_len]; exact hn.symm) (fun x hx => ?_) (asc_nodup n) (fun W hb => Snake2_any (h.keep hb) sc hosts hv (fun W2 _ => by rw [hw]; exact treeSnake_any _ _ n (by omega) W2))
  unfold ascI at hx
  obtain ⟨j, hj, rfl⟩ := List.mem_map.1 hx
  have := List.mem_range.1 hj
  rw [if_pos this]; omega
theorem NetSnake_drag {w : World} {sa : Option Addr} {l : List Int} (h : Ints w sa l) (sc : Nat) (hosts : Int) (hv : vOk 3 l hosts) :
    Calls Try.prog 9 #[.agg #[.int .i64 3, .slice sa l.length sc, .int .i64 hosts]] w fun e w' => e = .returned (.bool true) ∧ Below w.heap.size w w' := by
  obtain ⟨b1, b2, _⟩ := v_bound hv
  obtain ⟨n, hn⟩ := Int.eq_ofNat_of_zero_le (show 0 ≤ hoI 3 l by omega)
  refine NetSnake_23 h sc 3 hosts hv (by decide) (L := ascI n n) (by rw [asc_len]; exact hn.symm) (fun x hx => ?_) (asc_nodup n) (fun W hb => Snake3_any (h.keep hb) sc hosts hv (fun W2 _ => dragSnake_any _ _ _ n (by omega) hn W2))
  unfold ascI at hx
  obtain ⟨j, hj, rfl⟩ := List.mem_map.1 hx
  have := List.mem_range.1 hj
  rw [if_pos this]; omega
end Go.Proofs.Ytbhkenphcahifaa

namespace Go.Proofs.Ytbhkenphcahifaa
open Go.RowKit Go.Shelf
set_option maxRecDepth 100000
set_option maxHeartbeats 4000000

/-- the direction in which a coordinate moves -/
def dirB (c : List Int) (i : Nat) : Int := if evenB c i = true then 1 else -1
theorem dir_within {l c : List Int} (hc : InT l c) {i : Nat} (hi : i < l.length) : (0 ≤ c.getD i 0 + dirB c i ∧ c.getD i 0 + dirB c i ≤ l.getD i 0 - 1) ↔ dgI l c i < l.getD i 0 - 1 := by
  obtain ⟨h0, h1⟩ := hc.2 i hi
  unfold dirB dgI
  split <;> omega
theorem dir_next {c : List Int} {i : Nat} (hi : i < c.length) (j : Nat) : dirB (nextC c i) j = if i < j then - dirB c j else dirB c j := by
  unfold dirB nextC
  by_cases h : i < j
  · have hv : c.getD i 0 + (if evenB c i = true then 1 else -1) = c.getD i 0 + 1 ∨ c.getD i 0 + (if evenB c i = true then 1 else -1) = c.getD i 0 - 1 := by
      split
      · exact .inl rfl
      · exact .inr (by omega)
    rw [if_pos h, even_set_gt hi hv j h]
    cases evenB c j <;> simp
  · rw [if_neg h, even_set_le j (by omega)]
/-- the last dimension that can be changed -/
def ldS (l c : List Int) : Nat → Nat
  | 0 => 0
  | m + 1 => if dgI l c m < l.getD m 0 - 1 then m else ldS l c m
theorem ld_eq {l c : List Int} {i : Nat} : ∀ m, i < m → dgI l c i < l.getD i 0 - 1 → (∀ j, i < j → j < m → dgI l c j = l.getD j 0 - 1) → ldS l c m = i
  | 0, h, _, _ => by omega
  | m + 1, h, hd, he => by
    rw [ldS]
    by_cases hm : i = m
    · subst hm; rw [if_pos hd]
    · rw [if_neg (by have := he m (by omega) (by omega); omega)]
      exact ld_eq m (by omega) hd (fun j h1 h2 => he j h1 (by omega))
theorem ld_spec {l c : List Int} (hc : InT l c) : ∀ m, m ≤ l.length → (∀ j, j < m → dgI l c j = l.getD j 0 - 1) ∨ (ldS l c m < m ∧ dgI l c (ldS l c m) < l.getD (ldS l c m) 0 - 1 ∧ ∀ j, ldS l c m < j → j < m → dgI l c j = l.getD j 0 - 1)
  | 0, _ => .inl fun j h => by omega
  | m + 1, hm => by
    rw [ldS]
    split
    · rename_i h
      exact .inr ⟨by omega, h, fun j h1 h2 => by omega⟩
    · rename_i h
      have hd := dg_in hc (show m < l.length by omega)
      rcases ld_spec hc m (by omega) with h1 | ⟨h1, h2, h3⟩
      · refine .inl fun j hj => ?_
        by_cases hjm : j = m
        · subst hjm; omega
        · exact h1 j (by omega)
      · refine .inr ⟨by omega, h2, fun j k1 k2 => ?_⟩
        by_cases hjm : j = m
        · subst hjm; omega
        · exact h3 j k1 (by omega)
/-- the coordinates of the switches of the snake -/
def snC (l : List Int) : Nat → List Int
  | 0 => List.replicate l.length 0
  | k + 1 => nextC (snC l k) (ldS l (snC l k) l.length)
theorem even_zero (n : Nat) : ∀ i, evenB (List.replicate n 0) i = true
  | 0 => rfl
  | i + 1 => by
    rw [evenB, even_zero n i]
    have : (List.replicate n (0 : Int)).getD i 0 = 0 := by
      by_cases h : i < n
      · simp [List.getD, h]
      · simp [List.getD, h]
    rw [this]; rfl
theorem getD_zeros (n i : Nat) : (List.replicate n (0 : Int)).getD i 0 = 0 := by
  by_cases h : i < n
  · simp [List.getD, h]
  · simp [List.getD, h]
theorem sn_zero {l : List Int} (hb : ∀ i, i < l.length → 2 ≤ l.getD i 0 ∧ l.getD i 0 ≤ 16) : InT l (snC l 0) ∧ ∀ k, rkS l (snC l 0) k = 0 := by
  refine ⟨⟨by simp [snC], fun i hi => ?_⟩, fun k => ?_⟩
  · have := hb i hi
    rw [snC, getD_zeros]; omega
  · induction k with
    | zero => rfl
    | succ k ih => rw [rkS, ih, snC, dgI, even_zero, if_pos rfl, getD_zeros]; simp
theorem sn_rank {l : List Int} (hl : 1 ≤ l.length) (hb : ∀ i, i < l.length → 2 ≤ l.getD i 0 ∧ l.getD i 0 ≤ 16) : ∀ k : Nat, (k : Int) < prodI l → InT l (snC l k) ∧ rkS l (snC l k) l.length = k
  | 0, _ => ⟨(sn_zero hb).1, (sn_zero hb).2 _⟩
  | k + 1, hk => by
    obtain ⟨h1, h2⟩ := sn_rank hl hb k (by omega)
    rcases ld_spec h1 l.length (Nat.le_refl _) with h | ⟨a1, a2, a3⟩
    · have := rk_last (l := l) (c := snC l k) ⟨fun j h1 h2 => h j h2, fun h0 => h 0 h0⟩
      omega
    · have := rk_next h1 a1 a2 (fun j h1 h2 => a3 j h1 h2)
      rw [snC]
      exact ⟨this.1, by rw [this.2, h2]; simp⟩
/-- at a switch that is not the last one some dimension can be changed -/
theorem sn_dim {l : List Int} (hl : 1 ≤ l.length) (hb : ∀ i, i < l.length → 2 ≤ l.getD i 0 ∧ l.getD i 0 ≤ 16) {k : Nat} (hk : (k : Int) + 1 < prodI l) : ldS l (snC l k) l.length < l.length ∧ dgI l (snC l k) (ldS l (snC l k) l.length) < l.getD (ldS l (snC l k) l.length) 0 - 1 := by
  obtain ⟨h1, h2⟩ := sn_rank hl hb k (by omega)
  rcases ld_spec h1 l.length (Nat.le_refl _) with h | ⟨a1, a2, a3⟩
  · have := rk_last (l := l) (c := snC l k) ⟨fun j h1 h2 => h j h2, fun h0 => h 0 h0⟩
    omega
  · exact ⟨a1, a2⟩
/-- the snake -/
def snL (l : List Int) (n : Nat) : List Int := (List.range n).map fun k => numI l (snC l k)
theorem snL_len (l : List Int) (n : Nat) : (snL l n).length = n := by simp [snL]
theorem snL_succ (l : List Int) (n : Nat) : snL l (n + 1) = snL l n ++ [numI l (snC l n)] := by unfold snL; rw [List.range_succ, List.map_append]; rfl
theorem numK_lt {l a : List Int} (ha : ∀ i, i < l.length → 0 ≤ a.getD i 0 ∧ a.getD i 0 < l.getD i 0) : ∀ k, k ≤ l.length → 0 ≤ numK l a k ∧ numK l a k + 1 ≤ prodI (l.take k) := by
  intro k
  induction k with
  | zero => intro _; exact ⟨Int.le_refl _, by simp [numK, prodI]⟩
  | succ k ih =>
    intro hk
    obtain ⟨i1, i2⟩ := ih (by omega)
    obtain ⟨d0, d1⟩ := ha k (by omega)
    rw [List.take_succ_eq_append_getElem (by omega), prodI_snoc, numK]
    rw [show l[k] = l.getD k 0 by simp [List.getD, show k < l.length by omega]]
    have h0 : 0 ≤ numK l a k * l.getD k 0 := Int.mul_nonneg i1 (by omega)
    have h1 : (numK l a k + 1) * l.getD k 0 ≤ prodI (l.take k) * l.getD k 0 := Int.mul_le_mul_of_nonneg_right i2 (by omega)
    rw [Int.add_mul] at h1
    omega
theorem num_lt {l c : List Int} (hc : InT l c) : 0 ≤ numI l c ∧ numI l c < prodI l := by
  have := numK_lt hc.2 l.length (Nat.le_refl _)
  rw [List.take_length] at this
  unfold numI; omega
theorem num_inj {l c d : List Int} (hc : InT l c) (hd : InT l d) (h : numI l c = numI l d) : c = d := by rw [← coords_num hc, ← coords_num hd, h]
theorem snL_nodup {l : List Int} (hl : 1 ≤ l.length) (hb : ∀ i, i < l.length → 2 ≤ l.getD i 0 ∧ l.getD i 0 ≤ 16) {n : Nat} (hn : (n : Int) ≤ prodI l) : (snL l n).Nodup := by
  unfold snL
  refine List.pairwise_map.2 ((List.nodup_range (n := n)).imp_of_mem ?_)
  intro a b ha hb' hne h
  have h1 := List.mem_range.1 ha
  have h2 := List.mem_range.1 hb'
  obtain ⟨a1, a2⟩ := sn_rank hl hb a (by omega)
  obtain ⟨b1, b2⟩ := sn_rank hl hb b (by omega)
  have := num_inj a1 b1 h
  rw [this] at a2
  omega
theorem snL_in {l : List Int} (hl : 1 ≤ l.length) (hb : ∀ i, i < l.length → 2 ≤ l.getD i 0 ∧ l.getD i 0 ≤ 16) {n : Nat} (hn : (n : Int) ≤ prodI l) : ∀ x ∈ snL l n, 0 ≤ x ∧ x < prodI l := by
  intro x hx
  unfold snL at hx
  obtain ⟨k, hk, rfl⟩ := List.mem_map.1 hx
  have := List.mem_range.1 hk
  exact num_lt (sn_rank hl hb k (by omega)).1

/-- a digit of a number -/
theorem prodI_cons (x : Int) (l : List Int) : prodI (x :: l) = x * prodI l := by
  unfold prodI
  have key : ∀ (l : List Int) (a b : Int), l.foldl (· * ·) (a * b) = a * l.foldl (· * ·) b := by
    intro l
    induction l with
    | nil => intro a b; rfl
    | cons y l ih => intro a b; rw [List.foldl_cons, List.foldl_cons, Int.mul_assoc, ih]
  rw [List.foldl_cons, Int.one_mul]
  have := key l x 1
  rw [Int.mul_one] at this
  exact this
/-- how far apart the switches are whose coordinates differ by 1 -/
def strI (l : List Int) (i : Nat) : Int := prodI (l.drop (i + 1))
theorem str_step {l : List Int} {i : Nat} (hi : i < l.length) : prodI (l.drop i) = l.getD i 0 * strI l i := by
  rw [List.drop_eq_getElem_cons hi, prodI_cons, strI]
  congr 1
  simp [List.getD, hi]
theorem prod_pos {l : List Int} (hb : ∀ i, i < l.length → 2 ≤ l.getD i 0 ∧ l.getD i 0 ≤ 16) : ∀ m, m ≤ l.length → 1 ≤ prodI (l.drop (l.length - m)) := by
  intro m
  induction m with
  | zero => intro _; simp [prodI]
  | succ m ih =>
    intro hm
    have h := str_step (l := l) (i := l.length - (m + 1)) (by omega)
    have h2 := hb (l.length - (m + 1)) (by omega)
    rw [strI, show l.length - (m + 1) + 1 = l.length - m by omega] at h
    rw [h]
    have := ih (by omega)
    have : 1 * 1 ≤ l.getD (l.length - (m + 1)) 0 * prodI (l.drop (l.length - m)) := Int.mul_le_mul (by omega) this (by omega) (by omega)
    omega
theorem drop_pos {l : List Int} (hb : ∀ i, i < l.length → 2 ≤ l.getD i 0 ∧ l.getD i 0 ≤ 16) (i : Nat) (hi : i ≤ l.length) : 1 ≤ prodI (l.drop i) := by
  have := prod_pos hb (l.length - i) (by omega)
  rwa [show l.length - (l.length - i) = i by omega] at this
/-- what the coordinates behind a dimension add -/
def rstK (l c : List Int) (i : Nat) : Nat → Int
  | 0 => 0
  | m + 1 => rstK l c i m * l.getD (i + m) 0 + c.getD (i + m) 0
def prdK (l : List Int) (i : Nat) : Nat → Int
  | 0 => 1
  | m + 1 => prdK l i m * l.getD (i + m) 0
theorem numK_split (l c : List Int) (i : Nat) : ∀ m, numK l c (i + m) = numK l c i * prdK l i m + rstK l c i m
  | 0 => by simp [prdK, rstK]
  | m + 1 => by
    rw [← Nat.add_assoc, numK, numK_split l c i m, prdK, rstK, Int.add_mul, Int.mul_assoc, Int.add_assoc]
theorem prdK_eq (l : List Int) (i : Nat) : ∀ m, i + m ≤ l.length → prdK l i m = prodI ((l.drop i).take m)
  | 0, _ => by simp [prdK, prodI]
  | m + 1, h => by
    have hm : m < (l.drop i).length := by simp; omega
    rw [prdK, prdK_eq l i m (by omega), List.take_succ_eq_append_getElem hm, prodI_snoc]
    congr 1
    simp [List.getD, show i + m < l.length by omega]
theorem prdK_all (l : List Int) (i : Nat) (hi : i ≤ l.length) : prdK l i (l.length - i) = prodI (l.drop i) := by
  rw [prdK_eq l i _ (by omega)]
  congr 1
  exact List.take_of_length_le (by simp)
theorem rst_in {l c : List Int} (hc : InT l c) (i : Nat) : ∀ m, i + m ≤ l.length → 0 ≤ rstK l c i m ∧ rstK l c i m + 1 ≤ prdK l i m
  | 0, _ => ⟨Int.le_refl _, Int.le_refl _⟩
  | m + 1, h => by
    obtain ⟨i1, i2⟩ := rst_in hc i m (by omega)
    obtain ⟨d0, d1⟩ := hc.2 (i + m) (by omega)
    rw [rstK, prdK]
    have h0 : 0 ≤ rstK l c i m * l.getD (i + m) 0 := Int.mul_nonneg i1 (by omega)
    have h1 : (rstK l c i m + 1) * l.getD (i + m) 0 ≤ prdK l i m * l.getD (i + m) 0 := Int.mul_le_mul_of_nonneg_right i2 (by omega)
    rw [Int.add_mul] at h1
    omega
theorem num_split {l c : List Int} {i : Nat} (hi : i < l.length) : numI l c = (numK l c i * l.getD i 0 + c.getD i 0) * strI l i + rstK l c (i + 1) (l.length - (i + 1)) := by
  have := numK_split l c (i + 1) (l.length - (i + 1))
  rw [prdK_all l (i + 1) (by omega), show i + 1 + (l.length - (i + 1)) = l.length by omega] at this
  unfold numI strI
  rw [this, numK]
theorem num_digit {l c : List Int} (hc : InT l c) {i : Nat} (hi : i < l.length) : numI l c / strI l i % l.getD i 0 = c.getD i 0 := by
  obtain ⟨r0, r1⟩ := rst_in hc (i + 1) (l.length - (i + 1)) (by omega)
  rw [prdK_all l (i + 1) (by omega)] at r1
  obtain ⟨c0, c1⟩ := hc.2 i hi
  have hs : strI l i ≠ 0 := by unfold strI; omega
  rw [num_split hi, Int.add_comm, Int.add_mul_ediv_right _ _ hs, Int.ediv_eq_zero_of_lt r0 (by unfold strI; omega), Int.zero_add, Int.add_comm, Int.add_mul_emod_self_right, Int.emod_eq_of_lt c0 c1]
theorem numK_set {l c : List Int} {i : Nat} {v : Int} : ∀ k, k ≤ i → numK l (c.set i v) k = numK l c k
  | 0, _ => rfl
  | k + 1, h => by rw [numK, numK, numK_set k (by omega), getD_set_other _ _ _ _ _ (by omega)]
theorem rst_set {l c : List Int} {i j : Nat} {v : Int} (hj : i < j) : ∀ m, rstK l (c.set i v) j m = rstK l c j m
  | 0 => rfl
  | m + 1 => by rw [rstK, rstK, rst_set hj m, getD_set_other _ _ _ _ _ (by omega)]
theorem num_set {l c : List Int} {i : Nat} (hi : i < l.length) (hc : i < c.length) (v : Int) : numI l (c.set i v) = numI l c + strI l i * (v - c.getD i 0) := by
  rw [num_split hi, num_split hi, numK_set i (Nat.le_refl _), rst_set (by omega), getD_set_same _ _ _ _ hc]
  rw [Int.mul_sub, Int.add_mul, Int.add_mul, Int.mul_comm (strI l i), Int.mul_comm (strI l i)]
  omega
/-- the neighbors in one dimension -/
def nbA (l : List Int) (x : Int) (i : Nat) (s : Int) : Int := x + strI l i * ((x / strI l i % l.getD i 0 + s) % l.getD i 0 - x / strI l i % l.getD i 0)
def nbK (l : List Int) (x : Int) : Nat → List Int
  | 0 => []
  | k + 1 => nbK l x k ++ [nbA l x k 1, nbA l x k (-1)]
theorem nbK_len (l : List Int) (x : Int) : ∀ k, (nbK l x k).length = 2 * k
  | 0 => rfl
  | k + 1 => by rw [nbK, List.length_append, nbK_len l x k]; simp; omega
theorem nb_mem {l : List Int} {x : Int} {i : Nat} {s : Int} (hs : s = 1 ∨ s = -1) : ∀ k, i < k → nbA l x i s ∈ nbK l x k
  | 0, h => by omega
  | k + 1, h => by
    rw [nbK]
    by_cases hik : i = k
    · subst hik; rcases hs with rfl | rfl <;> simp
    · exact List.mem_append.2 (.inl (nb_mem hs k (by omega)))
/-- the switch before is a neighbor -/
theorem prev_mem {l c : List Int} (hc : InT l c) {i : Nat} (hi : i < l.length) (hn : InT l (nextC c i)) : numI l c ∈ nbK l (numI l (nextC c i)) l.length := by
  have hcl : i < c.length := by rw [hc.1]; exact hi
  have hd : dirB c i = 1 ∨ dirB c i = -1 := by unfold dirB; split <;> simp
  have he : nextC c i = c.set i (c.getD i 0 + dirB c i) := rfl
  have hg : (nextC c i).getD i 0 = c.getD i 0 + dirB c i := by rw [he]; exact getD_set_same _ _ _ _ hcl
  obtain ⟨c0, c1⟩ := hc.2 i hi
  have h1 : nbA l (numI l (nextC c i)) i (- dirB c i) = numI l c := by
    unfold nbA
    rw [num_digit hn hi, hg, show c.getD i 0 + dirB c i + - dirB c i = c.getD i 0 by omega, Int.emod_eq_of_lt c0 c1, he, num_set hi hcl, Int.add_assoc, ← Int.mul_add]
    rw [show c.getD i 0 + dirB c i - c.getD i 0 + (c.getD i 0 - (c.getD i 0 + dirB c i)) = 0 by omega]
    simp
  rw [← h1]
  exact nb_mem (by rcases hd with h | h <;> rw [h] <;> simp) _ hi
theorem snL_prev {l : List Int} (hl : 1 ≤ l.length) (hb : ∀ i, i < l.length → 2 ≤ l.getD i 0 ∧ l.getD i 0 ≤ 16) {k : Nat} (hk : (k : Int) + 1 < prodI l) : numI l (snC l k) ∈ nbK l (numI l (snC l (k + 1))) l.length := by
  have h1 := (sn_rank hl hb k (by omega)).1
  have h2 := (sn_rank hl hb (k + 1) (by omega)).1
  exact prev_mem h1 (sn_dim hl hb hk).1 h2
end Go.Proofs.Ytbhkenphcahifaa

namespace Go.Proofs.Ytbhkenphcahifaa
open Go.RowKit Go.Shelf
set_option maxRecDepth 100000
set_option maxHeartbeats 4000000

/-- the directions as they stand in memory -/
def dirL (l c : List Int) : List Int := (List.range l.length).map fun i => dirB c i
theorem dirL_len (l c : List Int) : (dirL l c).length = l.length := by simp [dirL]
theorem dirL_at (l c : List Int) {i : Nat} (hi : i < l.length) : (dirL l c).getD i 0 = dirB c i := by simp [dirL, List.getD, hi]
/-- some of them turned -/
def turnF (d : List Int) (L : List Nat) : List Int := L.foldl (fun d i => d.set i (wrap64 (-(d.getD i 0)))) d
theorem turnF_snoc (d : List Int) (L : List Nat) (i : Nat) : turnF d (L ++ [i]) = (turnF d L).set i (wrap64 (-((turnF d L).getD i 0))) := by simp [turnF]
theorem turnF_len (L : List Nat) : ∀ d : List Int, (turnF d L).length = d.length := by
  induction L with
  | nil => intro d; rfl
  | cons x L ih => intro d; show (turnF _ L).length = _; rw [ih]; simp
/-- can a dimension be changed, the directions being such -/
def goesB (l c d : List Int) (i : Nat) : Bool := decide (0 ≤ wrap64 (c.getD i 0 + d.getD i 0) ∧ wrap64 (c.getD i 0 + d.getD i 0) ≤ wrap64 (l.getD i 0 - 1))
/-- none of them could -/
def Pas (l c d : List Int) (L : List Nat) : Prop := ∀ p x q, L = p ++ x :: q → goesB l c (turnF d p) x = false
theorem Pas.nil (l c d : List Int) : Pas l c d [] := fun p x q h => by cases p <;> cases h
theorem Pas.snoc {l c d : List Int} {L : List Nat} {i : Nat} (h : Pas l c d L) (hi : goesB l c (turnF d L) i = false) : Pas l c d (L ++ [i]) := by
  intro p x q he
  rcases List.eq_nil_or_concat q with rfl | ⟨q', y, rfl⟩
  · have h1 := List.append_inj' he rfl
    obtain ⟨rfl, h2⟩ := h1
    cases h2
    exact hi
  · rw [List.concat_eq_append] at he
    have h2 : L ++ [i] = (p ++ x :: q') ++ [y] := by rw [he]; simp
    exact h p x q' (List.append_inj' h2 rfl).1
theorem wrap_neg {x : Int} (h : x = 1 ∨ x = -1) : wrap64 (-x) = -x := wrap_small _ (by omega) (by omega)
theorem dirB_or (c : List Int) (i : Nat) : dirB c i = 1 ∨ dirB c i = -1 := by unfold dirB; split <;> simp
/-- turned from the last one on -/
theorem turn_take {l c : List Int} : ∀ m, m ≤ l.length → ∀ j, j < l.length → (turnF (dirL l c) ((List.range l.length).reverse.take m)).getD j 0 = if l.length - m ≤ j then - dirB c j else dirB c j := by
  intro m
  induction m with
  | zero => intro _ j hj; rw [List.take_zero, if_neg (by omega)]; exact dirL_at l c hj
  | succ m ih =>
    intro hm j hj
    have hlen : m < (List.range l.length).reverse.length := by simp; omega
    rw [List.take_succ_eq_append_getElem hlen, turnF_snoc]
    have hx : (List.range l.length).reverse[m] = l.length - 1 - m := by simp
    rw [hx]
    have h0 := ih (by omega) (l.length - 1 - m) (by omega)
    rw [if_neg (by omega)] at h0
    rw [h0, wrap_neg (dirB_or c _)]
    by_cases hjm : l.length - 1 - m = j
    · subst hjm
      rw [getD_set_same _ _ _ _ (by rw [turnF_len, dirL_len]; omega), if_pos (by omega)]
    · rw [getD_set_other _ _ _ _ _ hjm, ih (by omega) j hj]
      by_cases h2 : l.length - m ≤ j
      · rw [if_pos h2, if_pos (by omega)]
      · rw [if_neg h2, if_neg (by omega)]
theorem goes_iff {l c d : List Int} (hb : ∀ i, i < l.length → 2 ≤ l.getD i 0 ∧ l.getD i 0 ≤ 16) (hc : InT l c) {i : Nat} (hi : i < l.length) (hd : d.getD i 0 = dirB c i) : (goesB l c d i = true ↔ dgI l c i < l.getD i 0 - 1) ∧ wrap64 (c.getD i 0 + d.getD i 0) = c.getD i 0 + dirB c i := by
  obtain ⟨b1, b2⟩ := hb i hi
  obtain ⟨c1, c2⟩ := hc.2 i hi
  have h1 : wrap64 (c.getD i 0 + dirB c i) = c.getD i 0 + dirB c i := wrap_small _ (by rcases dirB_or c i with h | h <;> rw [h] <;> omega) (by rcases dirB_or c i with h | h <;> rw [h] <;> omega)
  have h2 : wrap64 (l.getD i 0 - 1) = l.getD i 0 - 1 := wrap_small _ (by omega) (by omega)
  refine ⟨?_, by rw [hd, h1]⟩
  unfold goesB
  rw [hd, h1, h2, ← dir_within hc hi]
  simp
/-- what was passed stands at its end -/
theorem pas_end {l c : List Int} (hb : ∀ i, i < l.length → 2 ≤ l.getD i 0 ∧ l.getD i 0 ≤ 16) (hc : InT l c) {m : Nat} (hm : m ≤ l.length) (hp : Pas l c (dirL l c) ((List.range l.length).reverse.take m)) : ∀ j, l.length - m ≤ j → j < l.length → dgI l c j = l.getD j 0 - 1 := by
  intro j h1 h2
  have hs : (List.range l.length).reverse.take m = (List.range l.length).reverse.take (l.length - 1 - j) ++ j :: ((List.range l.length).reverse.take m).drop (l.length - j) := by
    have hlen : l.length - 1 - j < ((List.range l.length).reverse.take m).length := by simp; omega
    have h5 : ((List.range l.length).reverse.take m)[l.length - 1 - j] = j := by simp; omega
    have h3 := List.take_append_drop (l.length - 1 - j) ((List.range l.length).reverse.take m)
    rw [List.drop_eq_getElem_cons hlen, h5, List.take_take, Nat.min_eq_left (by omega), show l.length - 1 - j + 1 = l.length - j by omega] at h3
    exact h3.symm
  have h4 := hp _ _ _ hs
  have h5 := turn_take (l := l) (c := c) (l.length - 1 - j) (by omega) j h2
  rw [if_neg (by omega)] at h5
  have h6 := (goes_iff hb hc h2 h5).1
  have h7 := dg_in hc h2
  rw [h4] at h6
  have : ¬ dgI l c j < l.getD j 0 - 1 := fun h => by cases h6.2 h
  omega
/-- where it goes on -/
theorem goes_next {l c : List Int} (hb : ∀ i, i < l.length → 2 ≤ l.getD i 0 ∧ l.getD i 0 ≤ 16) (hc : InT l c) {L : List Nat} {x : Nat} (hx : x < l.length) (hpre : L ++ [x] <+: (List.range l.length).reverse) (hp : Pas l c (dirL l c) L) (hg : goesB l c (turnF (dirL l c) L) x = true) :
    ldS l c l.length = x ∧ c.set x (wrap64 (c.getD x 0 + (turnF (dirL l c) L).getD x 0)) = nextC c x ∧ turnF (dirL l c) L = dirL l (nextC c x) := by
  obtain ⟨r, hr⟩ := hpre
  have hlen := congrArg List.length hr
  simp at hlen
  have hL : L = (List.range l.length).reverse.take L.length := by
    rw [← hr, List.append_assoc, List.take_append_of_le_length (Nat.le_refl _), List.take_length]
  have hxe : x = l.length - 1 - L.length := by
    have h1 : (L ++ [x] ++ r)[L.length]? = some x := by simp
    rw [hr] at h1
    have h2 : L.length < (List.range l.length).reverse.length := by simp; omega
    rw [List.getElem?_eq_getElem h2] at h1
    have h3 := Option.some.inj h1
    rw [← h3]
    simp
  have hm : L.length ≤ l.length := by omega
  rw [hL] at hp hg ⊢
  have he := pas_end hb hc hm hp
  have ht := turn_take (l := l) (c := c) L.length hm
  have htx := ht x hx
  rw [if_neg (by omega)] at htx
  obtain ⟨g1, g2⟩ := goes_iff hb hc hx htx
  have hdg := g1.1 hg
  refine ⟨ld_eq _ hx hdg (fun j h1 h2 => he j (by omega) h2), by rw [g2]; rfl, ?_⟩
  refine List.ext_getElem (by rw [turnF_len, dirL_len, dirL_len]) fun j h1 h2 => ?_
  rw [turnF_len, dirL_len] at h1
  have k1 := ht j h1
  have k2 := dirL_at l (nextC c x) h1
  rw [dir_next (by rw [hc.1]; exact hx)] at k2
  have k3 : (turnF (dirL l c) ((List.range l.length).reverse.take L.length)).getD j 0 = (dirL l (nextC c x)).getD j 0 := by
    rw [k1, k2]
    by_cases h : x < j
    · rw [if_pos (by omega), if_pos h]
    · rw [if_neg (by omega), if_neg h]
  simpa [List.getD, turnF_len, dirL_len, h1] using k3
/-- at the last place alone nothing goes -/
theorem pas_last {l c : List Int} (hb : ∀ i, i < l.length → 2 ≤ l.getD i 0 ∧ l.getD i 0 ≤ 16) (hc : InT l c) (hp : Pas l c (dirL l c) (List.range l.length).reverse) : rkS l c l.length + 1 = prodI l := by
  have h := pas_end hb hc (m := l.length) (Nat.le_refl _) (by rw [List.take_of_length_le (by simp)]; exact hp)
  exact rk_last ⟨fun j h1 h2 => h j (by omega) h2, fun h0 => h 0 (by omega) h0⟩
end Go.Proofs.Ytbhkenphcahifaa

namespace Go.Proofs.Ytbhkenphcahifaa
open Go.RowKit Go.Shelf
attribute [local go_sem] Oper.semAt_some
set_option maxRecDepth 100000
set_option maxHeartbeats 4000000

/-- the marks that ranges over functions, one behind the other, leave behind -/
def mk (D : Nat) : Deferred := { target := .collected D, args := #[] }
/-- they are open, and each is its own -/
structure Marks (B : Nat) (Ds : List Nat) (w : World) : Prop where
  open_ : ∀ D ∈ Ds, B ≤ D ∧ w.heap[D]? = some (.deferred (some []))
  nodup : Ds.Nodup
theorem Marks.lt {B : Nat} {Ds : List Nat} {w : World} (h : Marks B Ds w) {D : Nat} (hD : D ∈ Ds) : D < w.heap.size := (Array.getElem?_eq_some_iff.1 (h.open_ D hD).2).1
theorem Marks.nil (B : Nat) (w : World) : Marks B [] w := ⟨fun D h => by simp at h, List.nodup_nil⟩
/-- nothing but the marks' blocks is changed -/
structure Shut (Ds : List Nat) (w w' : World) : Prop where
  os : w'.os = w.os
  tape : w'.tape = w.tape
  output : w'.output = w.output
  size : w'.heap.size = w.heap.size
  block : ∀ k, k ∉ Ds → w'.heap[k]? = w.heap[k]?
/-- a function leaves through its marks -/
theorem leaves_marks {F : Fence} {n : Nat} {P : Program} {fn : Func} {tmps : Array Value} {R : Ending → World → Prop} {B : Nat} : ∀ (Ds : List Nat) (w : World), Marks B Ds w → (∀ w', Shut Ds w w' → LeavesIn F n P fn tmps R [] .returning w') → LeavesInM F n P fn tmps R (Ds.map mk) .returning w
  | [], w, _, h => h w ⟨rfl, rfl, rfl, rfl, fun _ _ => rfl⟩
  | D :: Ds, w, hm, h => by
    have hD := (hm.open_ D (by simp)).2
    have hn := List.nodup_cons.1 hm.nodup
    refine ⟨by simp, .inl ⟨D, _, rfl, run_takeDeferred hD, ?_⟩⟩
    refine leaves_marks Ds _ ⟨fun E hE => ⟨(hm.open_ E (by simp [hE])).1, ?_⟩, hn.2⟩ fun w' hw => h w' ⟨hw.os, hw.tape, hw.output, ?_, fun k hk => ?_⟩
    · have hne : E ≠ D := by rintro rfl; exact hn.1 hE
      exact (World.putObj_heap_other hne).trans (hm.open_ E (by simp [hE])).2
    · rw [hw.size]; simp [World.putObj]
    · have h1 : k ≠ D := fun e => hk (by simp [e])
      exact (hw.block k (fun e => hk (by simp [e]))).trans (World.putObj_heap_other h1)
theorem Marks.push {B : Nat} {Ds : List Nat} {w w' : World} (h : Marks B Ds w) {D : Nat} (hD : w.heap.size ≤ D) (hk : ∀ E ∈ Ds, w'.heap[E]? = w.heap[E]?) (hd : w'.heap[D]? = some (.deferred (some []))) (hB : B ≤ w.heap.size) : Marks B (D :: Ds) w' := by
  refine ⟨fun E hE => ?_, List.nodup_cons.2 ⟨fun hE => ?_, h.nodup⟩⟩
  · rcases List.mem_cons.1 hE with rfl | hE
    · exact ⟨by omega, hd⟩
    · exact ⟨(h.open_ E hE).1, (hk E hE).trans (h.open_ E hE).2⟩
  · have := h.lt hE; omega
theorem Marks.keep {B : Nat} {Ds : List Nat} {w w' : World} (h : Marks B Ds w) (hk : ∀ E ∈ Ds, w'.heap[E]? = w.heap[E]?) : Marks B Ds w' := ⟨fun E hE => ⟨(h.open_ E hE).1, (hk E hE).trans (h.open_ E hE).2⟩, h.nodup⟩

abbrev encI : Int → Array Value := fun x => #[.int .i64 x]
/-- slices.Values' iterator -/
theorem valIter (n0 o Bs g cap : Nat) (L : List Int) (cur : Array Value) {w : World} (q0 : w.heap[Bs]? = some (.cells #[.slice (some ⟨g, 0, none⟩) L.length cap] 22 (0, 0))) (q1 : w.heap[g]? = some (.cells cur 3 (0, 0))) (hc : ∀ j (hj : j < L.length), cur[j]? = some (.int .i64 L[j])) (hL : L.length ≤ 100000) (n : Nat) :
    SeqW n 113 #[.pointer (some ⟨Bs, 0, none⟩)] encI (Kq n0 o) (Fq n0 o) (fun b => b = Bs ∨ b = g) L w := by
  intro ll J W hW hnd hP hY h0
  have HC : Hid (Cap n0 o [(Bs, .cells #[.slice (some ⟨g, 0, none⟩) L.length cap] 22 (0, 0)), (g, .cells cur 3 (0, 0))] W) := by
    intro p hp
    simp only [List.mem_cons, List.not_mem_nil, or_false] at hp
    rcases hp with rfl | rfl
    · exact ⟨hnd _ (.inl rfl), heapB hW q0⟩
    · exact ⟨hnd _ (.inr rfl), heapB hW q1⟩
  have HY := Lib.hid hY
  have HP := Lib.hid hP
  have HCC := Lib.hid hc
  clear hY hnd hW q0 q1 hP hc
  have k0 := cellR 0 HC.out.m0 rfl
  refine callsIn_of_wp Try.func113 rfl trivial ?_ rfl
  simp only [Try.ntmps113, List.size_toArray, List.length_cons, List.length_nil, Nat.reduceAdd, Nat.reduceSub, Array.replicate_succ, Array.replicate_zero, List.push_toArray, List.append_toArray, List.nil_append, List.cons_append]
  gi_wp2
  gi_loopw [7] (fun i wr => ∃ k : Nat, k ≤ L.length ∧ i = .int .i64 (k : Int) ∧ J (L.take k) wr ∧ Hid (Cap n0 o [(Bs, .cells #[.slice (some ⟨g, 0, none⟩) L.length cap] 22 (0, 0)), (g, .cells cur 3 (0, 0))] wr)) (fun i _ => L.length - (intOf i).toNat)
  case atStart => exact ⟨0, Nat.zero_le _, rfl, h0, HC⟩
  case round =>
    clear k0 HC h0
    obtain ⟨k, hk, rfl, hJ, HC⟩ := hrel
    by_cases hlt : k < L.length
    · have e0 := cellR k HC.out.m1 (HCC.out k hlt)
      obtain ⟨fn, tm, as_, bd, hy, hR⟩ := HY.out (L.take k) L[k] _ hJ (by simp; omega)
      rw [← List.take_succ_eq_append_getElem hlt] at hR
      gi_wp2
      refine ⟨fun h => (by cases h), ?_⟩
      refine hR.mono ?_
      rintro e W2 ⟨rfl, h1, hkq⟩
      replace HC := Lib.hid (HC.out.kq hkq)
      clear hy hR hkq hJ e0
      gi_wp2
      go_roundw
      case rel => exact ⟨k + 1, by omega, by go_num, h1, HC⟩
      case measure => simp [intOf]; omega
    · have hkn : k = L.length := by omega
      subst hkn
      rw [List.take_length] at hJ
      gi_wp2
      go_end0
      exact ⟨⟨_, rfl⟩, hJ⟩
/-- a function that yields a list -/
def VIter (lo gf : Nat) (lb : Array Value) (L : List Int) (s0 : Nat) (w : World) : Prop :=
  (∀ args w, (callFunc gf args).run Try.prog w = .ok (.enter gf args) w) ∧ ∃ Nd : Nat → Prop, (∀ b, Nd b → s0 ≤ b ∧ ∃ o, w.heap[b]? = some o ∧ o.isCells = true) ∧ ∀ n n0 o, lo ≤ n0 → SeqW n gf lb encI (Kq n0 o) (Fq n0 o) Nd L w
/-- such a function, made -/
def VMake (lo f : Nat) (args : Array Value) (L : List Int) (B : Nat) (W : World) : Prop :=
  Calls Try.prog f args W fun e w' => ∃ gf lb, e = .returned (.func (.func gf) #[] lb) ∧ VIter lo gf lb L B w' ∧ Below B W w'
/-- slices.Values of a list of one's own -/
theorem values_new {B lo : Nat} {w : World} {v : Value} {L : List Int} (h : NewInts B w v L) (hB : B ≤ w.heap.size) (hL : L.length ≤ 100000) (hne : L ≠ []) : VMake lo 103 #[v] L B w := by
  obtain ⟨h1, h2⟩ := h.own
  rcases h2 with ⟨rfl, hn⟩ | ⟨g, cap, cur, rfl, hg, hr, hc, hm, hs, ht⟩
  · exact absurd (List.length_eq_zero_iff.1 hn) hne
  have q0 := heap_alloc_new w (.cells #[.slice (some ⟨g, 0, none⟩) L.length cap] 22)
  have hbw : Below w.heap.size w (w.alloc (.cells #[.slice (some ⟨g, 0, none⟩) L.length cap] 22)) := (Below.refl _ _).alloc (Nat.le_refl _) _
  have q1 := heapB hbw hr
  have HB : Hid (Below B w (w.alloc (.cells #[.slice (some ⟨g, 0, none⟩) L.length cap] 22))) := hbw.mono hB
  have hcell : ∀ j (hj : j < L.length), cur[j]? = some (.int .i64 L[j]) := fun j hj => by
    have h3 : (L.map (Value.int .i64))[j]? = some (.int .i64 L[j]) := by simp [hj]
    rw [← ht, List.getElem?_take] at h3
    split at h3
    · simpa using h3
    · cases h3
  have HI : Hid (VIter lo 113 #[.pointer (some ⟨w.heap.size, 0, none⟩)] L B (w.alloc (.cells #[.slice (some ⟨g, 0, none⟩) L.length cap] 22))) := by
    refine ⟨enters_of Try.func113 (by kernel_rfl) rfl, _, ?_, fun n n0 o _ => valIter n0 o w.heap.size g cap L cur q0 q1 hcell hL n⟩
    rintro b (rfl | rfl)
    · exact ⟨hB, _, q0, rfl⟩
    · exact ⟨hg, _, q1, rfl⟩
  clear q0 hbw q1 hcell hr hc hm hs ht h1 hL hne h
  generalize L.length = N at *
  unfold VMake
  go_enter Try.func103, Try.ntmps103
  go_wp2_with fail
  go_ret
  exact ⟨113, _, rfl, HI.out, HB.out⟩
end Go.Proofs.Ytbhkenphcahifaa

namespace Go.Proofs.Ytbhkenphcahifaa
open Go.RowKit Go.Shelf
attribute [local go_sem] Oper.semAt_some
set_option maxRecDepth 100000
set_option maxHeartbeats 4000000

theorem SeqW.later {α : Type} {n gf : Nat} {lb : Array Value} {encs : α → Array Value} {Kp : World → World → Prop} {Fr : Nat → World → Prop} {Nd : Nat → Prop} {L : List α} {w w2 : World} (h : SeqW n gf lb encs Kp Fr Nd L w) (hb : Below w.heap.size w w2) : SeqW n gf lb encs Kp Fr Nd L w2 :=
  fun l J W hW => h l J W (hb.trans (hW.mono hb.size))
theorem appendSeq_any {B lo gf : Nat} {lb : Array Value} {L : List Int} {w : World} (hB : B ≤ w.heap.size) (hlo : lo ≤ B) (hi : VIter lo gf lb L B w) (hL : L.length ≤ 100000) :
    Calls Try.prog 72 #[.slice none 0 0, .func (.func gf) #[] lb] w fun e w' => ∃ v, e = .returned v ∧ NewInts B w' v L ∧ Below B w w' := by
  obtain ⟨heg, Nd, hNd, hSq⟩ := hi
  have r1 := heap_alloc_new w (.cells #[.slice none 0 0] 22)
  have hbw : Below w.heap.size w (w.alloc (.cells #[.slice none 0 0] 22)) := (Below.refl _ _).alloc (Nat.le_refl _) _
  have hz : (w.alloc (.cells #[.slice none 0 0] 22)).heap.size = w.heap.size + 1 := by simp
  have hO : OutI B w.heap.size [] (w.alloc (.cells #[.slice none 0 0] 22)) := ⟨_, r1, ⟨rfl, .inl ⟨rfl, rfl⟩⟩, by simp⟩
  have hbB : Below B w (w.alloc (.cells #[.slice none 0 0] 22)) := hbw.mono hB
  have hnd : ∀ b, Nd b → Fq B w.heap.size b (w.alloc (.cells #[.slice none 0 0] 22)) := fun b hb => by
    obtain ⟨h1, o, h2, h3⟩ := hNd b hb
    have hlt := (Array.getElem?_eq_some_iff.1 h2).1
    refine ⟨⟨o, heapB hbw h2, h3⟩, h1, by omega, fun v hv => ?_⟩
    rw [cellR 0 r1 rfl] at hv
    cases hv
    simp [Value.ownBlock]
  have HSQ := Lib.hid (fun n => (hSq n B w.heap.size hlo).later hbw)
  have HLN := Lib.hid hL
  have HBB := Lib.hid hB
  clear hNd hSq hbw r1 hL
  refine (callsIn_wide (n := 4)).1 ?_
  refine callsIn_of_wp_marks Try.func72 rfl trivial ?_ rfl
  simp only [Try.ntmps72, List.size_toArray, List.length_cons, List.length_nil, Nat.reduceAdd, Nat.reduceSub, Array.replicate_succ, Array.replicate_zero, List.push_toArray, List.append_toArray, List.nil_append, List.cons_append]
  gi_wp2
  generalize w.alloc (.cells #[.slice none 0 0] 22) = W0 at *
  refine range_w (L := L) (by omega) rfl heg (HSQ.out _) hnd Kq.trans (fun W q ob o' hs hl hc => Kq.putObj (by omega) W q ob o' hs hl hc (by omega)) (fun _ => rfl) (fun pre W => OutI B w.heap.size pre W ∧ Below B w W) (OwnFrom.and (OutI.own fun pre : List Int => pre) (ownFrom_below (by omega) (by omega))) (fun pre => OutI.priv hB) ⟨hO, hbB⟩ (fun p => ⟨#[.slice none 0 0, .func (.func gf) #[] lb, .pointer (some ⟨w.heap.size, 0, none⟩), undef, .slice none 0 0, .int .i64 p, .func (.func gf) #[] lb, .int .i64 p, undef, undef, undef, undef, undef], []⟩) ?assign ?body ?done
  case assign =>
    intro q p W K hK
    gi_wp2
    exact hK
  case body =>
    rintro q pre p W ⟨hO3, hB3⟩ hlen
    have hll : pre.length ≤ 200000 := by have := HLN.out; omega
    obtain ⟨v, g, cap, wA, hv, hvA, hrun, hO4, hk4, hq4⟩ := hO3.append p hll (by have := hB3.size; omega) (by omega)
    have cv := hv.cell
    have cA := hvA.cell
    have fA := hvA.frozen
    have lA := hvA.lt
    clear hlen hll
    gi_wp2_with (gi_at_builtin; refine wpListIn_append_run rfl _ _ 22 rfl rfl rfl hrun ?_)
    exact ⟨hk4.from _, hq4, hO4, hB3.trans hq4.1⟩
  case done =>
    rintro D W hD ⟨⟨v, hv, hrow, hnil⟩, hB3⟩ hK
    have cv := hv.cell
    gi_wp2
    refine ⟨by simp, .inl ⟨_, _, rfl, run_takeDeferred hK, ?_⟩⟩
    refine ⟨v, ?_, v, rfl, ⟨ownsRow_putObj hrow _ hK rfl, by have := HLN.out; omega⟩, hB3.trans ⟨rfl, rfl, rfl, by simp [World.putObj], fun k hk => World.putObj_heap_other (by omega)⟩⟩
    simp [results, Try.results72, go_sem]
theorem collect_any {B lo gf : Nat} {lb : Array Value} {L : List Int} {w : World} (hB : B ≤ w.heap.size) (hlo : lo ≤ B) (hi : VIter lo gf lb L B w) (hL : L.length ≤ 100000) :
    Calls Try.prog 58 #[.func (.func gf) #[] lb] w fun e w' => ∃ v, e = .returned v ∧ NewInts B w' v L ∧ Below B w w' := by
  have H := Lib.hid (appendSeq_any hB hlo hi hL)
  clear hi
  go_enter Try.func58, Try.ntmps58
  go_wp2_with fail
  refine H.out.mono ?_
  rintro e w1 ⟨v, rfl, hv, hb⟩
  have HR : Hid (NewInts B w1 v L ∧ Below B w w1) := ⟨hv, hb⟩
  clear H hv hb
  go_wp2_with fail
  go_ret
  exact ⟨_, rfl, HR.out.1, HR.out.2⟩
theorem m_near1 (sa : Option Addr) (n sc : Nat) (m : Int) (w : World) : (method 288 105 (.agg #[.slice sa n sc, .int .i64 m]) "armada/net.neighbors").run Try.prog w = .ok (95, .agg #[.slice sa n sc, .int .i64 m]) w := by kernel_rfl
/-- Neighbors over any maker of the neighbors -/
theorem Neighbors1_any {w : World} {sa : Option Addr} {l : List Int} (h : Ints w sa l) (sc : Nat) (hosts x : Int) (hv : vOk 1 l hosts) (hin : inB (swI 1 l) [x] = true) {L : List Int} (hL : L.length ≤ 100000)
    (hS : ∀ W, Below w.heap.size w W → VMake w.heap.size 95 #[.agg #[.slice sa l.length sc, .int .i64 (prodI l)], .int .i64 x] L W.heap.size W) :
    Calls Try.prog 27 #[.agg #[.int .i64 1, .slice sa l.length sc, .int .i64 hosts], .int .i64 x] w fun e w' => ∃ v, e = .returned (.tuple #[v, .int .i64 0]) ∧ NewInts w.heap.size w' v L ∧ Below w.heap.size w w' := by
  obtain ⟨hbx, q0, q1, hz⟩ := twoN w (.cells #[.int .i64 1, .slice sa l.length sc, .int .i64 hosts] 24) (.cells #[.int .i64 x] 3)
  have HB := Lib.hid hbx
  have c0 := cellR 0 (heap_alloc_new w (.cells #[.int .i64 1, .slice sa l.length sc, .int .i64 hosts] 24)) rfl
  have c1 := cellR 1 (heap_alloc_new w (.cells #[.int .i64 1, .slice sa l.length sc, .int .i64 hosts] 24)) rfl
  have c2 := cellR 2 (heap_alloc_new w (.cells #[.int .i64 1, .slice sa l.length sc, .int .i64 hosts] 24)) rfl
  have hi := ints_one (w.alloc (.cells #[.int .i64 1, .slice sa l.length sc, .int .i64 hosts] 24)) x
  rw [show (w.alloc (.cells #[.int .i64 1, .slice sa l.length sc, .int .i64 hosts] 24)).heap.size = w.heap.size + 1 by simp] at hi
  have HC : Hid (Calls Try.prog 47 #[.agg #[.int .i64 1, .slice sa l.length sc, .int .i64 hosts], .slice (some ⟨w.heap.size + 1, 0, none⟩) 1 1] ((w.alloc (.cells #[.int .i64 1, .slice sa l.length sc, .int .i64 hosts] 24)).alloc (.cells #[.int .i64 x] 3)) fun e w' => e = .returned (.tuple #[.iface 105 (.agg #[.slice sa l.length sc, .int .i64 (prodI l)]), .int .i64 0]) ∧ Below w.heap.size ((w.alloc (.cells #[.int .i64 1, .slice sa l.length sc, .int .i64 hosts] 24)).alloc (.cells #[.int .i64 x] 3)) w') := by
    refine (networkWith1_any (h.keep hbx) hi sc 1 hosts hv).mono ?_
    rintro e w' ⟨rfl, hb⟩
    exact ⟨by rw [if_pos hin]; rfl, hb.mono (by rw [hz]; omega)⟩
  have HS := Lib.hid hS
  have HLN := Lib.hid hL
  have hm := m_near1 sa l.length sc (prodI l)
  clear h hbx q0 q1 hi hz hv hin hS hL
  generalize l.length = N at *
  generalize prodI l = p0 at *
  go_enter Try.func27, Try.ntmps27
  go_wp2_with fail
  refine HC.out.mono ?_
  rintro e w1 ⟨rfl, hb1⟩
  have HB1 := Lib.hid (HB.out.trans hb1)
  clear HC hb1 HB c0 c1 c2
  have HS1 : Hid (Calls Try.prog 95 #[.agg #[.slice sa N sc, .int .i64 p0], .int .i64 x] w1 fun e w' => ∃ gf lb, e = .returned (.func (.func gf) #[] lb) ∧ VIter w.heap.size gf lb L w1.heap.size w' ∧ Below w1.heap.size w1 w') := HS.out _ HB1.out
  clear HS
  go_wp2_with fail
  refine HS1.out.mono ?_
  rintro e w2 ⟨gf, lb, rfl, hI, hb2⟩
  have HB2 : Hid (Below w.heap.size w w2) := HB1.out.trans (hb2.mono HB1.out.size)
  have HCL := Lib.hid (collect_any hb2.size HB1.out.size hI HLN.out)
  clear hI HS1 hb2 hm
  go_wp2_with fail
  refine HCL.out.mono ?_
  rintro e w3 ⟨v, rfl, hv, hb3⟩
  have HR : Hid (NewInts w.heap.size w3 v L ∧ Below w.heap.size w w3) := ⟨⟨own_lower7 hv.own HB1.out.size, hv.len⟩, HB2.out.trans (hb3.mono HB1.out.size)⟩
  clear HCL hv hb3 HB2 HB1
  go_wp2_with fail
  go_ret2
  exact ⟨_, rfl, HR.out.1, HR.out.2⟩
end Go.Proofs.Ytbhkenphcahifaa

namespace Go.Proofs.Ytbhkenphcahifaa
open Go.RowKit Go.Shelf
attribute [local go_sem] Oper.semAt_some
set_option maxRecDepth 100000
set_option maxHeartbeats 1000000

theorem make_cap (c : Nat) (hc : c ≤ 1000000) (w : World) : (Instr.makeSlice 22 (.int .i64 0) (.int .i64 c)).run Try.prog w = .ok (.slice (some ⟨w.heap.size, 0, none⟩) 0 c) (w.alloc (.cells (rowA (List.replicate c 0)) 3)) := by
  obtain ⟨i0, hi, hz0, hz1, hz2⟩ := info_parts Try.info3
  have := run_make (P := Try.prog) w 22 3 i0 (.int .i64 0) Try.underlying22 hi hz0 .i64 .i64 0 c (by omega) (by omega) (by rw [hz2]; omega) (by omega)
  rw [this, hz1]
  simp only [Int.toNat_natCast, Nat.mul_one]
  congr 3
  unfold rowA madeCells
  apply Array.ext
  · simp
  · intro i h1 h2
    simp [Value.cells, Nat.mod_one]
theorem new_cap (c B : Nat) (hc : c ≤ 1000000) (w : World) (hB : B ≤ w.heap.size) : NewInts B (w.alloc (.cells (rowA (List.replicate c 0)) 3)) (.slice (some ⟨w.heap.size, 0, none⟩) 0 c) [] :=
  ⟨⟨rfl, .inr ⟨w.heap.size, c, _, rfl, hB, heap_alloc_new w _, Nat.zero_le _, by unfold maxLen; omega, by simp, by simp⟩⟩, by simp⟩
theorem appTwo {w : World} {lo : Nat} {v : Value} {R : List Int} (h : NewInts lo w v R) (s t : Int) (hl : R.length ≤ 1000000) (hs : lo ≤ w.heap.size) :
    ∃ v' w2, (Builtin.append_ #[22, 22] 22 #[v, .slice (some ⟨w.heap.size, 0, none⟩) 2 2]).run Try.prog (w.alloc (.cells #[.int .i64 s, .int .i64 t] 3)) = .ok v' w2 ∧
      NewInts lo w2 v' (R ++ [s, t]) ∧ Below lo w w2 := by
  obtain ⟨i0, hi, hz0, hz1, hz2⟩ := info_parts Try.info3
  obtain ⟨g, cap, w2, hr, hown, hgrow, hat, hlt⟩ := run_append_lies (P := Try.prog) (w.alloc (.cells #[.int .i64 s, .int .i64 t] 3)) 22 22 lo 3 i0 (.int .i64 0) 1 8 Try.underlying22 hi hz0 hz1 hz2 rfl (by decide) v R.length (R.map (Value.int .i64)) (h.own.alloc _) ⟨w.heap.size, 0, none⟩ 2 2 [.int .i64 s, .int .i64 t] (by simp)
    (World.news_of_block (cs := #[.int .i64 s, .int .i64 t]) (heap_alloc_new w (.cells #[.int .i64 s, .int .i64 t] 3))) (by intro u hu; simp at hu; rcases hu with rfl | rfl <;> rfl) (by decide) (by unfold maxLen; omega) (by omega) (by simp; omega) _ rfl
  refine ⟨_, w2, hr, ⟨by simpa using hown, by simp; omega⟩, ((Below.refl lo w).alloc hs _).trans ⟨hgrow.os, hgrow.tape, hgrow.output, hgrow.size, fun k hk => hgrow.block k (by simp; omega) (fun e => by have := (h.own.lt k e.symm).1; omega)⟩⟩
theorem NewInts.keep2 {w w' : World} {lo : Nat} {v : Value} {R : List Int} (h : NewInts lo w v R) (hb : Below w.heap.size w w') : NewInts lo w' v R := ⟨ownsRow_bl h.own hb, h.len⟩
theorem compactUpTo_mem (d : Array Int) : ∀ (m : Nat) (j : Nat), j < m → d[j]! ∈ Lib.compactUpTo d m
  | 0, j, h => by omega
  | m + 1, j, h => by
    rw [Lib.compactUpTo_succ]
    by_cases hj : j < m
    · exact List.mem_append.2 (.inl (compactUpTo_mem d m j hj))
    · obtain rfl : j = m := by omega
      by_cases hk : Lib.keeps d j = true
      · rw [if_pos hk]; simp
      · have hk2 := hk
        unfold Lib.keeps at hk2
        simp only [decide_eq_true_eq, not_or, ne_eq, Decidable.not_not] at hk2
        rw [hk2.2]
        exact List.mem_append.2 (.inl (compactUpTo_mem d j (j - 1) (by omega)))
theorem compact_mem (l : List Int) (x : Int) (h : x ∈ l) : x ∈ Lib.compact l := by
  obtain ⟨j, hj, rfl⟩ := List.getElem_of_mem h
  have := compactUpTo_mem l.toArray l.length j hj
  unfold Lib.compact
  simpa [getElem!_pos, hj] using this
theorem sort_mem (l : List Int) (x : Int) (h : x ∈ l) : x ∈ sortL l := (List.mergeSort_perm l _).mem_iff.2 h
theorem sort_len (l : List Int) : (sortL l).length = l.length := (List.mergeSort_perm l _).length_eq
/-- the neighbors as they are handed out -/
def nbL (l : List Int) (x : Int) : List Int := Lib.compact (sortL (nbK l x l.length))
theorem nbL_mem {l : List Int} {x y : Int} (h : y ∈ nbK l x l.length) : y ∈ nbL l x := compact_mem _ _ (sort_mem _ _ h)
theorem neighbors_any {w : World} {sa : Option Addr} {l : List Int} (h : Ints w sa l) (hl1 : 1 ≤ l.length) (hl4 : l.length ≤ 4) (hb : ∀ i, i < l.length → 2 ≤ l.getD i 0 ∧ l.getD i 0 ≤ 16) (hp : prodI l ≤ 256) (sc : Nat) (x : Int) (hx : 0 ≤ x) (hx2 : x < prodI l) (lo : Nat) :
    VMake lo 95 #[.agg #[.slice sa l.length sc, .int .i64 (prodI l)], .int .i64 x] (nbL l x) w.heap.size w := by
  obtain ⟨N, hN⟩ : ∃ N, N = l.length := ⟨_, rfl⟩
  have HN := Lib.hid hN
  have HL := Lib.hid h
  have HBB := Lib.hid hb
  have HPR : Hid (∀ i, i < N → prodI (l.drop i) = l.getD i 0 * strI l i ∧ 1 ≤ strI l i ∧ strI l i ≤ 256 ∧ prodI (l.drop i) ≤ 256) := by
    have key : ∀ i, i ≤ l.length → prodI (l.drop i) ≤ 256 := by
      intro i
      induction i with
      | zero => intro _; simpa using hp
      | succ i ih =>
        intro hi
        have h1 := ih (by omega)
        have h2 := str_step (l := l) (i := i) (by omega)
        obtain ⟨b1, b2⟩ := hb i (by omega)
        have h3 := drop_pos hb (i + 1) hi
        unfold strI at h2
        have : 1 * prodI (l.drop (i + 1)) ≤ l.getD i 0 * prodI (l.drop (i + 1)) := Int.mul_le_mul_of_nonneg_right (by omega) (by omega)
        omega
    intro i hi
    exact ⟨str_step (by omega), drop_pos hb (i + 1) (by omega), key (i + 1) (by omega), key i (by omega)⟩
  obtain ⟨P, hP⟩ : ∃ P, P = prodI l := ⟨_, rfl⟩
  have HP0 : Hid (P = prodI (l.drop 0)) := by show _ = _; rw [hP]; rfl
  have HNB : Hid (∀ u w2, w.heap.size ≤ w2.heap.size → NewInts w.heap.size w2 u (nbL l x) → VMake lo 103 #[u] (nbL l x) w.heap.size w2) := by
    intro u w2 hs hu
    refine values_new hu hs ?_ ?_
    · have h1 := Lib.compact_length_le (sortL (nbK l x l.length))
      have h2 := sort_len (nbK l x l.length)
      unfold nbL
      rw [h2, nbK_len] at h1
      omega
    · have := nbL_mem (l := l) (x := x) (nb_mem (i := 0) (.inl rfl) l.length (by omega))
      intro e; rw [e] at this; cases this
  have hwm : wrap64 (2 * (N : Int)) = ((2 * N : Nat) : Int) := by rw [wrap_small _ (by omega) (by omega)]; simp
  have hmk := make_cap (2 * N) (by omega)
  rw [← hwm] at hmk
  have hz : (w.alloc (.cells #[.slice sa N sc, .int .i64 P] 105)).heap.size = w.heap.size + 1 := by simp
  have hnew := new_cap (2 * N) w.heap.size (by omega) (w.alloc (.cells #[.slice sa N sc, .int .i64 P] 105)) (by omega)
  have hb0 : Below w.heap.size w (w.alloc (.cells #[.slice sa N sc, .int .i64 P] 105)) := (Below.refl w.heap.size w).alloc (Nat.le_refl _) _
  have q0 := heap_alloc_new w (.cells #[.slice sa N sc, .int .i64 P] 105)
  have hb1 : Below w.heap.size w ((w.alloc (.cells #[.slice sa N sc, .int .i64 P] 105)).alloc (.cells (rowA (List.replicate (2 * N) 0)) 3)) := hb0.alloc (by omega) _
  rw [hz] at hnew
  have HN0 := Lib.hid hnew
  have HB1 := Lib.hid hb1
  have c0 := cellR 0 q0 rfl
  have c1 := cellR 1 q0 rfl
  have k0 := kcell ((Below.refl _ (w.alloc (.cells #[.slice sa N sc, .int .i64 P] 105))).alloc (Nat.le_refl _) (.cells (rowA (List.replicate (2 * N) 0)) 3)) c0
  have k1 := kcell ((Below.refl _ (w.alloc (.cells #[.slice sa N sc, .int .i64 P] 105))).alloc (Nat.le_refl _) (.cells (rowA (List.replicate (2 * N) 0)) 3)) c1
  rw [← hN, ← hP]
  rw [← hP] at hx2 hp
  clear h hb q0 hP hN hwm hnew hb0 hb1 hz
  unfold VMake
  go_enter Try.func95, Try.ntmps95
  go_wp2_with fail
  clear c0 c1 hmk
  generalize (w.alloc (.cells #[.slice sa N sc, .int .i64 P] 105)).alloc (.cells (rowA (List.replicate (2 * N) 0)) 3) = Y at *
  go_loopw [5, 6, 20] (fun v st iv wr => ∃ (i : Nat), i ≤ N ∧ Hid (NewInts w.heap.size wr v (nbK l x i) ∧ Below w.heap.size w wr) ∧ st = .int .i64 (prodI (l.drop i)) ∧ iv = .int .i64 (i : Int)) (fun _ _ iv _ => N - (intOf iv).toNat)
  case atStart => exact ⟨0, Nat.zero_le _, ⟨HN0.out, HB1.out⟩, by rw [← HP0.out], rfl⟩
  case round =>
    clear HN0 HB1 k0 k1
    obtain ⟨i, hi, HI, rfl, rfl⟩ := hrel
    by_cases hlt : i < N
    · have hil : i < l.length := by rw [← HN.out]; exact hlt
      obtain ⟨g, o, rfl, hc⟩ := (HL.out.keep HI.out.2).at_ (ne_nil_of_lt hil)
      have e0 := hc i hil
      rw [show l[i] = l.getD i 0 by simp [List.getD, hil]] at e0
      obtain ⟨p1, p2, p3, p4⟩ := HPR.out i hlt
      obtain ⟨b1, b2⟩ := HBB.out i hil
      have HNX : Hid (nbK l x (i + 1) = nbK l x i ++ [x + strI l i * ((x / strI l i % l.getD i 0 + 1) % l.getD i 0 - x / strI l i % l.getD i 0), x + strI l i * ((x / strI l i % l.getD i 0 - 1) % l.getD i 0 - x / strI l i % l.getD i 0)]) := rfl
      have HST : Hid (strI l i = prodI (l.drop (i + 1))) := rfl
      generalize l.getD i 0 = s at *
      generalize strI l i = T at *
      generalize prodI (l.drop i) = D at *
      have hDT : wrap64 (D.tdiv s) = T := by
        have := Int.mul_nonneg (show 0 ≤ s by omega) (show 0 ≤ T by omega)
        rw [Int.tdiv_eq_ediv_of_nonneg (by omega), p1, Int.mul_comm, Int.mul_ediv_cancel _ (by omega)]
        exact wrap_small _ (by omega) (by omega)
      have hq0 : 0 ≤ x / T := Int.ediv_nonneg hx (by omega)
      have hq1 : x / T ≤ x := Int.ediv_le_self _ hx
      have hxT : wrap64 (x.tdiv T) = x / T := by
        rw [Int.tdiv_eq_ediv_of_nonneg hx]
        exact wrap_small _ (by omega) (by omega)
      have hqs : (x / T).tmod s = x / T % s := Int.tmod_eq_emod_of_nonneg hq0
      have hc0 : 0 ≤ x / T % s := Int.emod_nonneg _ (by omega)
      have hc1 : x / T % s < s := Int.emod_lt_of_pos _ (by omega)
      obtain ⟨c, hcq⟩ : ∃ c, c = x / T % s := ⟨_, rfl⟩
      rw [← hcq] at hqs hc0 hc1 HNX
      clear hcq
      have HM1 := Lib.hid (fun W => modulo_any (c + 1) s (by omega) (by omega) W)
      have HM2 := Lib.hid (fun W => modulo_any (c - 1) s (by omega) (by omega) W)
      have a0 : 0 ≤ (c + 1) % s := Int.emod_nonneg _ (by omega)
      have a1 : (c + 1) % s < s := Int.emod_lt_of_pos _ (by omega)
      have a2 : 0 ≤ (c - 1) % s := Int.emod_nonneg _ (by omega)
      have a3 : (c - 1) % s < s := Int.emod_lt_of_pos _ (by omega)
      have hw1 : wrap64 (c + 1) = c + 1 := wrap_small _ (by omega) (by omega)
      have hw2 : wrap64 (c - 1) = c - 1 := wrap_small _ (by omega) (by omega)
      generalize (c + 1) % s = m1 at *
      generalize (c - 1) % s = m2 at *
      have hw3 : wrap64 (m1 - c) = m1 - c := wrap_small _ (by omega) (by omega)
      have hw4 : wrap64 (m2 - c) = m2 - c := wrap_small _ (by omega) (by omega)
      have t1 : -256 * 16 ≤ T * (m1 - c) ∧ T * (m1 - c) ≤ 256 * 16 := by
        refine ⟨?_, Int.le_trans (Int.mul_le_mul_of_nonneg_left (show m1 - c ≤ 16 by omega) (by omega)) (by omega)⟩
        have := Int.mul_le_mul_of_nonneg_left (show -16 ≤ m1 - c by omega) (show 0 ≤ T by omega)
        omega
      have t2 : -256 * 16 ≤ T * (m2 - c) ∧ T * (m2 - c) ≤ 256 * 16 := by
        refine ⟨?_, Int.le_trans (Int.mul_le_mul_of_nonneg_left (show m2 - c ≤ 16 by omega) (by omega)) (by omega)⟩
        have := Int.mul_le_mul_of_nonneg_left (show -16 ≤ m2 - c by omega) (show 0 ≤ T by omega)
        omega
      have hw5 : wrap64 (T * (m1 - c)) = T * (m1 - c) := wrap_small _ (by omega) (by omega)
      have hw6 : wrap64 (T * (m2 - c)) = T * (m2 - c) := wrap_small _ (by omega) (by omega)
      have hw7 : wrap64 (x + T * (m1 - c)) = x + T * (m1 - c) := wrap_small _ (by omega) (by omega)
      have hw8 : wrap64 (x + T * (m2 - c)) = x + T * (m2 - c) := wrap_small _ (by omega) (by omega)
      obtain ⟨v', w2, hr, hn2, hb2⟩ := appTwo HI.out.1 (x + T * (m1 - c)) (x + T * (m2 - c)) (by rw [nbK_len]; omega) HI.out.2.size
      have HR := Lib.hid hr
      have HI2 : Hid (NewInts w.heap.size w2 v' (nbK l x (i + 1)) ∧ Below w.heap.size w w2) := ⟨by rw [HNX.out]; exact hn2, HI.out.2.trans hb2⟩
      have HWI := Lib.hid (wrap_small ((i : Int) + 1) (by omega) (by have := HN.out; omega))
      have HCS : Hid (((i : Int) + 1) = ((i + 1 : Nat) : Int)) := by show _ = _; rw [Int.natCast_add]; rfl
      have HME : Hid (N - (intOf (.int .i64 ((i : Int) + 1))).toNat < N - (intOf (.int .i64 (i : Int))).toNat) := by show _ < _; simp [intOf]; omega
      have HMO : Hid (N - (intOf (.int .i64 (wrap64 ((i : Int) + 1)))).toNat < N - (intOf (.int .i64 (i : Int))).toNat) := by show _ < _; rw [HWI.out]; exact HME.out
      have hs0 : s ≠ 0 := by omega
      have hT0 : T ≠ 0 := by omega
      clear hc p1 a0 a1 a2 a3 t1 t2 hr hn2 hb2 hq0 hq1 hc0 hc1 HNX hil HI
      go_wp2_with fail
      refine (HM1.out _).mono ?_
      rintro e wq ⟨rfl, rfl⟩
      go_wp2_with fail
      refine (HM2.out _).mono ?_
      rintro e wq ⟨rfl, rfl⟩
      go_wp2_with (at_builtin; refine Lib.wpList_append_run _ rfl (.tmp 32) (.tmp 53) 22 22 rfl _ _ rfl rfl _ _ HR.out ?_)
      go_roundw
      case rel => exact ⟨i + 1, by omega, HI2, by rw [← HST.out], by rw [HWI.out, HCS.out]⟩
      case measure => exact HMO.out
    · have hin : i = N := by omega
      subst hin
      have HSO := Lib.hid (sort_new HI.out.1 HI.out.2.size)
      have HB2 := Lib.hid HI.out.2
      clear HI
      go_wp2_with fail
      refine HSO.out.mono ?_
      rintro e w3 ⟨rfl, h3, hb3⟩
      have HB3 := Lib.hid (HB2.out.trans hb3)
      have HCO := Lib.hid (compact_new h3 HB3.out.size)
      clear HSO h3 hb3 HB2
      go_wp2_with fail
      refine HCO.out.mono ?_
      rintro e w4 ⟨u, rfl, h4, hb4⟩
      have HB4 := Lib.hid (HB3.out.trans hb4)
      have HV : Hid (VMake lo 103 #[u] (nbL l x) w.heap.size w4) := HNB.out u w4 HB4.out.size (by unfold nbL; rw [← HN.out]; exact h4)
      clear HCO h4 hb4 HB3 HNB
      unfold VMake at HV
      go_wp2_with fail
      refine HV.out.mono ?_
      rintro e w5 ⟨gf, lb, rfl, h5, hb5⟩
      have HR5 : Hid (VIter lo gf lb (nbL l x) w.heap.size w5 ∧ Below w.heap.size w w5) := ⟨h5, HB4.out.trans hb5⟩
      clear HV h5 hb5 HB4
      go_wp2_with fail
      go_ret
      exact ⟨gf, lb, rfl, HR5.out.1, HR5.out.2⟩
end Go.Proofs.Ytbhkenphcahifaa

namespace Go.Proofs.Ytbhkenphcahifaa
open Go.RowKit Go.Shelf
set_option maxRecDepth 100000
set_option maxHeartbeats 4000000

/-- the blocks of a snake: what it says in a box, its coordinates, its directions, the variables that hold them -/
structure SnB where
  o0 : Obj
  b0 : Nat
  ga : Nat
  gr : Nat
  b3 : Nat
  b4 : Nat
  z : Nat
  N : Nat
structure SnB.Ok (B : SnB) : Prop where
  l0 : B.b0 < B.ga ∧ B.b0 < B.gr ∧ B.b0 < B.b3 ∧ B.b0 < B.b4
  lz : B.ga < B.z ∧ B.gr < B.z ∧ B.b3 < B.z ∧ B.b4 < B.z
  nn : B.ga ≠ B.gr ∧ B.ga ≠ B.b3 ∧ B.ga ≠ B.b4 ∧ B.gr ≠ B.b3 ∧ B.gr ≠ B.b4
/-- coordinates and directions in memory -/
structure SnM (B : SnB) (w : World) (c d : List Int) (W : World) : Prop where
  ra : RowAt W B.ga c
  rd : RowAt W B.gr d
  k3 : W.heap[B.b3]? = some (.cells #[.slice (some ⟨B.ga, 0, none⟩) B.N B.N] 22 (0, 0))
  k4 : W.heap[B.b4]? = some (.cells #[.slice (some ⟨B.gr, 0, none⟩) B.N B.N] 22 (0, 0))
  q0 : W.heap[B.b0]? = some B.o0
  bl : Below B.b0 w W
  sz : B.z ≤ W.heap.size
theorem SnM.keep {B : SnB} {w W W' : World} {c d : List Int} (h : SnM B w c d W) (hB : B.Ok) (hb : Below B.z W W') : SnM B w c d W' := by
  obtain ⟨⟨a1, a2, a3, a4⟩, ⟨b1, b2, b3, b4⟩, _⟩ := hB
  exact ⟨(hb.block _ b1).trans h.ra, (hb.block _ b2).trans h.rd, (hb.block _ b3).trans h.k3, (hb.block _ b4).trans h.k4, (hb.block _ (by omega)).trans h.q0, h.bl.trans (hb.mono (by omega)), Nat.le_trans h.sz hb.size⟩
/-- with the snake so far, and the marks -/
structure SnS (B : SnB) (w : World) (l : List Int) (Ds : List Nat) (v : Value) (k : Nat) (W : World) : Prop where
  m : SnM B w (snC l k) (dirL l (snC l k)) W
  nv : NewInts B.z W v (snL l (k + 1))
  ms : Marks B.z Ds W
theorem Marks.below {B z : Nat} {Ds : List Nat} {w w' : World} (h : Marks B Ds w) (hb : Below w.heap.size w w') : Marks B Ds w' := h.keep fun D hD => hb.block _ (h.lt hD)
theorem SnS.keep {B : SnB} {w : World} {l : List Int} {Ds : List Nat} {v : Value} {k : Nat} {W W' : World} (h : SnS B w l Ds v k W) (hB : B.Ok) (hb : Below W.heap.size W W') : SnS B w l Ds v k W' :=
  ⟨h.m.keep hB (hb.mono h.m.sz), h.nv.keep2 hb, h.ms.below (z := 0) hb⟩
/-- all but two blocks is as it was -/
structure But2 (S ga gr : Nat) (w w' : World) : Prop where
  os : w'.os = w.os
  tape : w'.tape = w.tape
  output : w'.output = w.output
  size : S ≤ w'.heap.size
  block : ∀ k, k < S → k ≠ ga → k ≠ gr → w'.heap[k]? = w.heap[k]?
theorem But2.refl {S ga gr : Nat} {w : World} (h : S ≤ w.heap.size) : But2 S ga gr w w := ⟨rfl, rfl, rfl, h, fun _ _ _ _ => rfl⟩
theorem But2.own {β : Type} {S ga gr : Nat} {w : World} : OwnFrom S (fun (_ : β) W => But2 S ga gr w W) := fun s X Y row h hg hr =>
  ⟨hg.os.trans h.os, hg.tape.trans h.tape, hg.output.trans h.output, Nat.le_trans h.size hg.size, fun k hk h1 h2 => (hg.block k (Nat.lt_of_lt_of_le hk h.size) (fun e => by have := (hr k e.symm).1; omega)).trans (h.block k hk h1 h2)⟩
theorem But2.set {S ga gr : Nat} {w W : World} (h : But2 S ga gr w W) {b : Nat} (hb : b = ga ∨ b = gr) (i : Nat) (v : Value) : But2 S ga gr w (W.setCell ⟨b, i, none⟩ v) :=
  ⟨h.os, h.tape, h.output, by have := h.size; simpa [World.setCell] using this, fun k hk h1 h2 => (heap_setCell_other _ _ _ _ (by rcases hb with rfl | rfl <;> assumption)).trans (h.block k hk h1 h2)⟩
theorem But2.drew {S ga gr : Nat} {w W : World} (h : But2 S ga gr w W) : But2 S ga gr w W.drew := ⟨h.os, h.tape, h.output, h.size, h.block⟩
theorem But2.below {S ga gr n0 : Nat} {w w0 W : World} (h : But2 S ga gr w W) (hb : Below n0 w0 w) (h0 : w.heap.size = S) (h1 : n0 ≤ ga) (h2 : n0 ≤ gr) (hn : n0 ≤ w0.heap.size) : Below n0 w0 W := by
  refine hb.trans ⟨h.os, h.tape, h.output, by rw [h0]; exact h.size, fun k hk => h.block k ?_ (by omega) (by omega)⟩
  have := hb.size; omega
/-- what a round of the inner loop leaves -/
theorem SnM.turned {B : SnB} {w W1 W : World} {c d c' d' : List Int} (h : SnM B w c d W1) (hB : B.Ok) (hn : B.b0 ≤ w.heap.size) (hb : But2 W1.heap.size B.ga B.gr W1 W) (h1 : RowAt W B.ga c') (h2 : RowAt W B.gr d') : SnM B w c' d' W := by
  obtain ⟨⟨a1, a2, a3, a4⟩, ⟨b1, b2, b3, b4⟩, n1, n2, n3, n4, n5⟩ := hB
  have hs := h.sz
  exact ⟨h1, h2, (hb.block _ (by omega) (Ne.symm n2) (Ne.symm n4)).trans h.k3, (hb.block _ (by omega) (Ne.symm n3) (Ne.symm n5)).trans h.k4, (hb.block _ (by omega) (by omega) (by omega)).trans h.q0, hb.below h.bl rfl (by omega) (by omega) hn, Nat.le_trans hs hb.size⟩
theorem ownsRow_but2 {z S ga gr e k n : Nat} {v : Value} {xs : List Value} {w w' : World} (h : w.ownsRow z e k v n xs) (hb : But2 S ga gr w w') (hS : w.heap.size = S) (h1 : ga < z) (h2 : gr < z) : w'.ownsRow z e k v n xs := by
  obtain ⟨a, b⟩ := h
  refine ⟨a, ?_⟩
  rcases b with b | ⟨g, cap, cur, rfl, hg, hr, rest⟩
  · exact .inl b
  · exact .inr ⟨g, cap, cur, rfl, hg, (hb.block g (by have := (Array.getElem?_eq_some_iff.1 hr).1; omega) (by omega) (by omega)).trans hr, rest⟩
theorem NewInts.but2 {z S ga gr : Nat} {v : Value} {L : List Int} {w w' : World} (h : NewInts z w v L) (hb : But2 S ga gr w w') (hS : w.heap.size = S) (h1 : ga < z) (h2 : gr < z) : NewInts z w' v L := ⟨ownsRow_but2 h.own hb hS h1 h2, h.len⟩
theorem Marks.but2 {z S ga gr : Nat} {Ds : List Nat} {w w' : World} (h : Marks z Ds w) (hb : But2 S ga gr w w') (hS : w.heap.size = S) (h1 : ga < z) (h2 : gr < z) : Marks z Ds w' :=
  h.keep fun D hD => hb.block D (by have := h.lt hD; omega) (by have := (h.open_ D hD).1; omega) (by have := (h.open_ D hD).1; omega)
theorem snM_own {B : SnB} {β : Type} {S : Nat} (f : β → List Int) (g : Nat) (hS : True) : OwnFrom S (fun (s : β) W => RowAt W g (f s)) := own_blk S g (fun s => .cells (rowA (f s)) 3 (0, 0)) (fun _ => rfl)
/-- one more switch -/
theorem SnM.app {B : SnB} {w W : World} {c d : List Int} {v : Value} {L : List Int} {Ds : List Nat} (hm : SnM B w c d W) (hB : B.Ok) (hn : NewInts B.z W v L) (hms : Marks B.z Ds W) (x : Int) (hl : L.length ≤ 1000000) :
    ∃ v' w2, (Builtin.append_ #[22, 22] 22 #[v, .slice (some ⟨W.heap.size, 0, none⟩) 1 1]).run Try.prog (W.alloc (.cells #[.int .i64 x] 3)) = .ok v' w2 ∧ SnM B w c d w2 ∧ NewInts B.z w2 v' (L ++ [x]) ∧ Marks B.z Ds w2 := by
  obtain ⟨g, cap, w2, hr, hn2, hg, hat, hz⟩ := app_one hn x hl hm.sz
  have hb : Below B.z W w2 := ((Below.refl B.z W).alloc hm.sz _).trans ⟨hg.os, hg.tape, hg.output, hg.size, fun k hk => hg.block k (by have := hm.sz; simp; omega) (fun e => by have := (hn.own.lt k e.symm).1; omega)⟩
  refine ⟨_, w2, hr, hm.keep hB hb, hn2, hms.keep fun D hD => ?_⟩
  have hlt := hms.lt hD
  refine (hg.block D (by simp; omega) (fun e => ?_)).trans (Below.heap_alloc _ _ _ hlt)
  have ho := (hms.open_ D hD).2
  rcases hn.own.2 with ⟨rfl, _⟩ | ⟨q, cap2, cur, rfl, _, hq, _⟩
  · simp [Value.ownBlock] at e
  · have : D = q := by simpa [Value.ownBlock] using e
    rw [this, hq] at ho
    cases ho
/-- what the function hands out, its marks shut -/
theorem SnS.out {B : SnB} {w : World} {l : List Int} {Ds : List Nat} {v : Value} {k : Nat} {W W' : World} (h : SnS B w l Ds v k W) (hB : B.Ok) (hz : w.heap.size ≤ B.z) (hb0 : B.b0 = w.heap.size) (hs : Shut Ds W W') : NewInts w.heap.size W' v (snL l (k + 1)) ∧ Below w.heap.size w W' := by
  refine ⟨⟨?_, h.nv.len⟩, ?_⟩
  · obtain ⟨a, b⟩ := h.nv.own
    refine ⟨a, ?_⟩
    rcases b with b | ⟨g, cap, cur, rfl, hg, hr, rest⟩
    · exact .inl b
    · refine .inr ⟨g, cap, cur, rfl, by omega, (hs.block g (fun hD => ?_)).trans hr, rest⟩
      have ho := (h.ms.open_ g hD).2
      rw [hr] at ho
      cases ho
  · have hb := h.m.bl
    rw [hb0] at hb
    refine ⟨hs.os.trans hb.os, hs.tape.trans hb.tape, hs.output.trans hb.output, by rw [hs.size]; exact hb.size, fun j hj => (hs.block j (fun hD => ?_)).trans (hb.block j hj)⟩
    have := (h.ms.open_ j hD).1
    omega
end Go.Proofs.Ytbhkenphcahifaa

namespace Go.Proofs.Ytbhkenphcahifaa
open Go.RowKit Go.Shelf
attribute [local go_sem] Oper.semAt_some
set_option maxRecDepth 100000
set_option maxHeartbeats 4000000

theorem numK_zero (l : List Int) (m : Nat) : ∀ k, numK l (List.replicate m 0) k = 0
  | 0 => rfl
  | k + 1 => by rw [numK, numK_zero l m k, getD_zeros]; simp
theorem num_zero (l : List Int) : numI l (snC l 0) = 0 := numK_zero l l.length l.length
theorem dir_zero (l : List Int) : dirL l (snC l 0) = List.replicate l.length 1 := by
  refine List.ext_getElem (by simp [dirL]) fun i h1 h2 => ?_
  simp only [dirL, List.getElem_map, List.getElem_range, List.getElem_replicate]
  unfold dirB
  rw [snC, even_zero, if_pos rfl]
theorem torusSnake_any {w : World} {sa : Option Addr} {l : List Int} (h : Ints w sa l) (hl1 : 1 ≤ l.length) (hl4 : l.length ≤ 4) (hb : ∀ i, i < l.length → 2 ≤ l.getD i 0 ∧ l.getD i 0 ≤ 16) (n : Nat) (hp : prodI l = (n : Int)) (hn : n ≤ 256) (hn1 : 1 ≤ n) (sc : Nat) :
    Calls Try.prog 100 #[.agg #[.slice sa l.length sc, .int .i64 (prodI l)]] w fun e w' => ∃ v, e = .returned v ∧ NewInts w.heap.size w' v (snL l n) ∧ Below w.heap.size w w' := by
  obtain ⟨N, hN⟩ : ∃ N, N = l.length := ⟨_, rfl⟩
  have HN := Lib.hid hN
  have HL := Lib.hid h
  have HBB := Lib.hid hb
  rw [hp, ← hN]
  rw [← hN] at hl1 hl4
  have HMK := Lib.hid (make_ints N (by omega))
  have Q0 := Lib.hid (heap_alloc_new w (.cells #[.slice sa N sc, .int .i64 (n : Int)] 105))
  have HB := Lib.hid ((Below.refl w.heap.size w).alloc (Nat.le_refl _) (.cells #[.slice sa N sc, .int .i64 (n : Int)] 105))
  have HXZ : Hid ((w.alloc (.cells #[.slice sa N sc, .int .i64 (n : Int)] 105)).heap.size = w.heap.size + 1) := by show _ = _; simp
  have HP := Lib.hid hp
  have HL1 := Lib.hid hl1
  have HL4 := Lib.hid hl4
  have HRP := Lib.hid (fun (W : World) (b : Nat) (hc : W.cell? ⟨b, 0, none⟩ = some (.int .i64 1)) => repeat_one b 1 hc N hl1 (by omega))
  clear h hb hN hp hl1 hl4
  refine (callsIn_wide (n := 4)).1 ?_
  refine callsIn_of_wp_marks Try.func100 rfl trivial ?_ rfl
  simp only [Try.ntmps100, List.size_toArray, List.length_cons, List.length_nil, Nat.reduceAdd, Nat.reduceSub, Array.replicate_succ, Array.replicate_zero, List.push_toArray, List.append_toArray, List.nil_append, List.cons_append]
  gi_wp2
  generalize w.alloc (.cells #[.slice sa N sc, .int .i64 (n : Int)] 105) = X at *
  refine region_det (by kernel_rfl) (I := fun listed a' w' => ∃ ga gq gr b3 b4 : Nat, Hid (Below X.heap.size X w') ∧ Hid (listed.getD 3 false = true → w.heap.size + 1 ≤ ga ∧ RowAt w' ga (List.replicate N 0)) ∧ Hid (listed.getD 4 false = true → w'.heap[gq]? = some (.cells #[.int .i64 1] 3 (0, 0))) ∧ Hid (listed.getD 8 false = true → w.heap.size + 1 ≤ gr ∧ RowAt w' gr (List.replicate N 1) ∧ (listed.getD 3 false = true → ga ≠ gr)) ∧ Hid (listed.getD 9 false = true → w.heap.size + 1 ≤ b3 ∧ w'.heap[b3]? = some (.cells #[if listed.getD 11 false = true then Value.slice (some ⟨ga, 0, none⟩) N N else Value.slice none 0 0] 22 (0, 0))) ∧ Hid (listed.getD 10 false = true → w.heap.size + 1 ≤ b4 ∧ w'.heap[b4]? = some (.cells #[if listed.getD 12 false = true then Value.slice (some ⟨gr, 0, none⟩) N N else Value.slice none 0 0] 22 (0, 0)) ∧ (listed.getD 9 false = true → b3 ≠ b4)) ∧ Hid (listed.getD 12 false = true → listed.getD 11 false = true) ∧ Hid (listed.getD 8 false = true → listed.getD 4 false = true) ∧ Hid (listed.getD 11 false = true → listed.getD 3 false = true ∧ listed.getD 9 false = true) ∧ Hid (listed.getD 12 false = true → listed.getD 8 false = true ∧ listed.getD 10 false = true) ∧ a' = ⟨#[Value.agg #[Value.slice sa N sc, Value.int IntKind.i64 ↑n], Value.pointer (some (Addr.mk w.heap.size 0 none)), Value.slice none 0 0, (if listed.getD 9 false = true then Value.pointer (some ⟨b3, 0, none⟩) else undef), (if listed.getD 10 false = true then Value.pointer (some ⟨b4, 0, none⟩) else undef), undef, undef, undef, undef, (if listed.getD 0 false = true then Value.pointer (some ⟨w.heap.size, 0, none⟩) else undef), (if listed.getD 1 false = true then Value.slice sa N sc else undef), (if listed.getD 2 false = true then Value.int IntKind.i64 (N : Int) else undef), (if listed.getD 3 false = true then Value.slice (some ⟨ga, 0, none⟩) N N else undef), (if listed.getD 4 false = true then Value.slice (some ⟨gq, 0, none⟩) 1 1 else undef), (if listed.getD 5 false = true then Value.pointer (some ⟨w.heap.size, 0, none⟩) else undef), (if listed.getD 6 false = true then Value.slice sa N sc else undef), (if listed.getD 7 false = true then Value.int IntKind.i64 (N : Int) else undef), (if listed.getD 8 false = true then Value.slice (some ⟨gr, 0, none⟩) N N else undef), undef, undef, undef, undef, undef, undef, undef, undef, undef, undef, undef, undef, undef, undef, undef, undef, undef, undef, undef, undef, undef, undef, undef, undef, undef, undef, undef, undef, undef, undef, undef, undef, undef, undef, undef, undef, undef, undef, undef, undef, undef, undef, undef, undef], []⟩) (hup_check (by kernel_rfl)) ?h0 ?step ?fin
  case h0 => exact ⟨0, 0, 0, 0, 0, (Below.refl _ _).drew, (fun h => by simp at h), (fun h => by simp at h), (fun h => by simp at h), (fun h => by simp at h), (fun h => by simp at h), (fun h => by simp at h), (fun h => by simp at h), (fun h => by simp at h), (fun h => by simp at h), rfl⟩
  case step => as_aux_lemma =>
    intro listed a' w' i hs hbi hdep hi ⟨ga, gq, gr, b3, b4, IB, I3, I4, I8, I9, IA, J13, J8, J11, J12, ha⟩
    obtain ⟨ls⟩ := listed
    match ls, hs with
    | [x0, x1, x2, x3, x4, x5, x6, x7, x8, x9, x10, x11, x12], _ =>
    subst ha
    have hi' : i = 0 ∨ i = 1 ∨ i = 2 ∨ i = 3 ∨ i = 4 ∨ i = 5 ∨ i = 6 ∨ i = 7 ∨ i = 8 ∨ i = 9 ∨ i = 10 ∨ i = 11 ∨ i = 12 := by simp at hi; omega
    rcases hi' with rfl | rfl | rfl | rfl | rfl | rfl | rfl | rfl | rfl | rfl | rfl | rfl | rfl
    · obtain rfl : x0 = false := by simpa using hbi
      refine wpOpIn_plain rfl rfl rfl ?_
      exact ⟨ga, gq, gr, b3, b4, IB, I3, I4, I8, I9, IA, J13, J8, J11, J12, rfl⟩
    · obtain rfl : x1 = false := by simpa using hbi
      obtain rfl : x0 = true := hdep _ rfl ⟨0, .data⟩ (by simp) rfl
      have c9 := kcell IB.out (cellR 0 Q0.out rfl)
      refine wpOpIn_plain (v := Value.slice sa N sc) (w' := w') rfl rfl (by simp [Oper.semAt, execOp, go_sem, c9]) ?_
      exact ⟨ga, gq, gr, b3, b4, IB, I3, I4, I8, I9, IA, J13, J8, J11, J12, rfl⟩
    · obtain rfl : x2 = false := by simpa using hbi
      obtain rfl : x1 = true := hdep _ rfl ⟨1, .data⟩ (by simp) rfl
      refine wpOpIn_plain (v := Value.int IntKind.i64 (N : Int)) (w' := w') rfl rfl (by simp [Oper.semAt, execOp, go_sem]) ?_
      exact ⟨ga, gq, gr, b3, b4, IB, I3, I4, I8, I9, IA, J13, J8, J11, J12, rfl⟩
    · obtain rfl : x3 = false := by simpa using hbi
      obtain rfl : x2 = true := hdep _ rfl ⟨2, .data⟩ (by simp) rfl
      obtain rfl : x11 = false := Bool.eq_false_iff.2 fun h => by have := (J11.out h).1; cases this
      have hmk := HMK.out w'
      refine wpOpIn_plain (v := Value.slice (some ⟨w'.heap.size, 0, none⟩) N N) (w' := (w'.alloc (.cells (rowA (List.replicate N 0)) 3))) rfl rfl (by simp [Oper.semAt, execOp, go_sem, hmk]) ?_
      exact ⟨w'.heap.size, gq, gr, b3, b4, (IB.out.trans (((Below.refl w'.heap.size w').alloc (Nat.le_refl _) (.cells (rowA (List.replicate N 0)) 3)).mono IB.out.size)), (fun _ => ⟨(by have := HXZ.out; have := IB.out.size; omega), heap_alloc_new w' (.cells (rowA (List.replicate N 0)) 3)⟩), (fun h => heapB ((Below.refl w'.heap.size w').alloc (Nat.le_refl _) (.cells (rowA (List.replicate N 0)) 3)) (I4.out h)), (fun h => ⟨(I8.out h).1, (I8.out h).2.1.keep ((Below.refl w'.heap.size w').alloc (Nat.le_refl _) (.cells (rowA (List.replicate N 0)) 3)), fun _ => by have := (I8.out h).2.1.lt; omega⟩), (fun h => ⟨(I9.out h).1, heapB ((Below.refl w'.heap.size w').alloc (Nat.le_refl _) (.cells (rowA (List.replicate N 0)) 3)) (I9.out h).2⟩), (fun h => ⟨(IA.out h).1, heapB ((Below.refl w'.heap.size w').alloc (Nat.le_refl _) (.cells (rowA (List.replicate N 0)) 3)) (IA.out h).2.1, (IA.out h).2.2⟩), J13, J8, (fun h => ⟨rfl, (J11.out h).2⟩), J12, rfl⟩
    · obtain rfl : x4 = false := by simpa using hbi
      obtain rfl : x8 = false := Bool.eq_false_iff.2 fun h => by have := J8.out h; cases this
      refine wpOpIn_plain (v := Value.slice (some ⟨w'.heap.size, 0, none⟩) 1 1) (w' := (w'.alloc (.cells #[Value.int IntKind.i64 1] 3))) rfl rfl (by simp [Oper.semAt, execOp, go_sem]) ?_
      exact ⟨ga, w'.heap.size, gr, b3, b4, (IB.out.trans (((Below.refl w'.heap.size w').alloc (Nat.le_refl _) (.cells #[Value.int IntKind.i64 1] 3)).mono IB.out.size)), (fun h => ⟨(I3.out h).1, (I3.out h).2.keep ((Below.refl w'.heap.size w').alloc (Nat.le_refl _) (.cells #[Value.int IntKind.i64 1] 3))⟩), (fun _ => heap_alloc_new w' (.cells #[Value.int IntKind.i64 1] 3)), (fun h => ⟨(I8.out h).1, (I8.out h).2.1.keep ((Below.refl w'.heap.size w').alloc (Nat.le_refl _) (.cells #[Value.int IntKind.i64 1] 3)), (I8.out h).2.2⟩), (fun h => ⟨(I9.out h).1, heapB ((Below.refl w'.heap.size w').alloc (Nat.le_refl _) (.cells #[Value.int IntKind.i64 1] 3)) (I9.out h).2⟩), (fun h => ⟨(IA.out h).1, heapB ((Below.refl w'.heap.size w').alloc (Nat.le_refl _) (.cells #[Value.int IntKind.i64 1] 3)) (IA.out h).2.1, (IA.out h).2.2⟩), J13, (fun _ => rfl), J11, J12, rfl⟩
    · obtain rfl : x5 = false := by simpa using hbi
      refine wpOpIn_plain rfl rfl rfl ?_
      exact ⟨ga, gq, gr, b3, b4, IB, I3, I4, I8, I9, IA, J13, J8, J11, J12, rfl⟩
    · obtain rfl : x6 = false := by simpa using hbi
      obtain rfl : x5 = true := hdep _ rfl ⟨5, .data⟩ (by simp) rfl
      have c9 := kcell IB.out (cellR 0 Q0.out rfl)
      refine wpOpIn_plain (v := Value.slice sa N sc) (w' := w') rfl rfl (by simp [Oper.semAt, execOp, go_sem, c9]) ?_
      exact ⟨ga, gq, gr, b3, b4, IB, I3, I4, I8, I9, IA, J13, J8, J11, J12, rfl⟩
    · obtain rfl : x7 = false := by simpa using hbi
      obtain rfl : x6 = true := hdep _ rfl ⟨6, .data⟩ (by simp) rfl
      refine wpOpIn_plain (v := Value.int IntKind.i64 (N : Int)) (w' := w') rfl rfl (by simp [Oper.semAt, execOp, go_sem]) ?_
      exact ⟨ga, gq, gr, b3, b4, IB, I3, I4, I8, I9, IA, J13, J8, J11, J12, rfl⟩
    · obtain rfl : x8 = false := by simpa using hbi
      obtain rfl : x4 = true := hdep _ rfl ⟨4, .data⟩ (by simp) rfl
      obtain rfl : x7 = true := hdep _ rfl ⟨7, .data⟩ (by simp) rfl
      obtain rfl : x12 = false := Bool.eq_false_iff.2 fun h => by have := (J12.out h).1; cases this
      refine wpOpIn_call (args := #[Value.slice (some ⟨gq, 0, none⟩) 1 1, Value.int IntKind.i64 (N : Int)]) rfl rfl (sem_call2 rfl rfl rfl (enters_of Try.func110 (by kernel_rfl) rfl)) (HRP.out w' gq (cellR 0 (I4.out rfl) rfl)) ?_
      rintro e V ⟨gb, rfl, hgb, hRb, hb⟩
      exact ⟨_, rfl, ga, gq, gb, b3, b4, (IB.out.trans (hb.mono IB.out.size)), (fun h => ⟨(I3.out h).1, (I3.out h).2.keep hb⟩), (fun h => heapB hb (I4.out h)), (fun _ => ⟨by have := HXZ.out; have := IB.out.size; omega, hRb, fun h => by have := (I3.out h).2.lt; omega⟩), (fun h => ⟨(I9.out h).1, heapB hb (I9.out h).2⟩), (fun h => ⟨(IA.out h).1, heapB hb (IA.out h).2.1, (IA.out h).2.2⟩), J13, (fun _ => rfl), J11, (fun h => ⟨rfl, (J12.out h).2⟩), rfl⟩
    · obtain rfl : x9 = false := by simpa using hbi
      obtain rfl : x11 = false := Bool.eq_false_iff.2 fun h => by have := (J11.out h).2; cases this
      refine wpOpIn_plain (v := Value.pointer (some ⟨w'.heap.size, 0, none⟩)) (w' := (w'.alloc (.cells #[Value.slice none 0 0] 22))) rfl rfl (by simp [Oper.semAt, execOp, go_sem]) ?_
      exact ⟨ga, gq, gr, w'.heap.size, b4, (IB.out.trans (((Below.refl w'.heap.size w').alloc (Nat.le_refl _) (.cells #[Value.slice none 0 0] 22)).mono IB.out.size)), (fun h => ⟨(I3.out h).1, (I3.out h).2.keep ((Below.refl w'.heap.size w').alloc (Nat.le_refl _) (.cells #[Value.slice none 0 0] 22))⟩), (fun h => heapB ((Below.refl w'.heap.size w').alloc (Nat.le_refl _) (.cells #[Value.slice none 0 0] 22)) (I4.out h)), (fun h => ⟨(I8.out h).1, (I8.out h).2.1.keep ((Below.refl w'.heap.size w').alloc (Nat.le_refl _) (.cells #[Value.slice none 0 0] 22)), (I8.out h).2.2⟩), (fun _ => ⟨(by have := HXZ.out; have := IB.out.size; omega), heap_alloc_new w' (.cells #[Value.slice none 0 0] 22)⟩), (fun h => ⟨(IA.out h).1, heapB ((Below.refl w'.heap.size w').alloc (Nat.le_refl _) (.cells #[Value.slice none 0 0] 22)) (IA.out h).2.1, fun _ => by have := (Array.getElem?_eq_some_iff.1 (IA.out h).2.1).1; omega⟩), J13, J8, (fun h => ⟨(J11.out h).1, rfl⟩), J12, rfl⟩
    · obtain rfl : x10 = false := by simpa using hbi
      obtain rfl : x12 = false := Bool.eq_false_iff.2 fun h => by have := (J12.out h).2; cases this
      refine wpOpIn_plain (v := Value.pointer (some ⟨w'.heap.size, 0, none⟩)) (w' := (w'.alloc (.cells #[Value.slice none 0 0] 22))) rfl rfl (by simp [Oper.semAt, execOp, go_sem]) ?_
      exact ⟨ga, gq, gr, b3, w'.heap.size, (IB.out.trans (((Below.refl w'.heap.size w').alloc (Nat.le_refl _) (.cells #[Value.slice none 0 0] 22)).mono IB.out.size)), (fun h => ⟨(I3.out h).1, (I3.out h).2.keep ((Below.refl w'.heap.size w').alloc (Nat.le_refl _) (.cells #[Value.slice none 0 0] 22))⟩), (fun h => heapB ((Below.refl w'.heap.size w').alloc (Nat.le_refl _) (.cells #[Value.slice none 0 0] 22)) (I4.out h)), (fun h => ⟨(I8.out h).1, (I8.out h).2.1.keep ((Below.refl w'.heap.size w').alloc (Nat.le_refl _) (.cells #[Value.slice none 0 0] 22)), (I8.out h).2.2⟩), (fun h => ⟨(I9.out h).1, heapB ((Below.refl w'.heap.size w').alloc (Nat.le_refl _) (.cells #[Value.slice none 0 0] 22)) (I9.out h).2⟩), (fun _ => ⟨(by have := HXZ.out; have := IB.out.size; omega), heap_alloc_new w' (.cells #[Value.slice none 0 0] 22), fun h => by have := (Array.getElem?_eq_some_iff.1 (I9.out h).2).1; omega⟩), J13, J8, J11, (fun h => ⟨(J12.out h).1, rfl⟩), rfl⟩
    · obtain rfl : x11 = false := by simpa using hbi
      obtain rfl : x0 = true := hdep _ rfl ⟨0, .phase⟩ (by simp) rfl
      obtain rfl : x1 = true := hdep _ rfl ⟨1, .phase⟩ (by simp) rfl
      obtain rfl : x2 = true := hdep _ rfl ⟨2, .phase⟩ (by simp) rfl
      obtain rfl : x3 = true := hdep _ rfl ⟨3, .data⟩ (by simp) rfl
      obtain rfl : x8 = true := hdep _ rfl ⟨8, .chain⟩ (by simp) rfl
      obtain rfl : x9 = true := hdep _ rfl ⟨9, .data⟩ (by simp) rfl
      obtain rfl : x10 = true := hdep _ rfl ⟨10, .phase⟩ (by simp) rfl
      obtain rfl : x12 = false := Bool.eq_false_iff.2 fun h => by have := J13.out h; cases this
      have k3 := (I9.out rfl).2
      have c3 : w'.cell? ⟨b3, 0, none⟩ = some (Value.slice none 0 0) := cellR 0 k3 rfl
      have f3 := frozen_of_row w' b3 0 _ _ k3
      have n3 : ga ≠ b3 := by rintro rfl; have := (I3.out rfl).2; unfold RowAt at this; rw [k3] at this; simp at this
      have n8 : gr ≠ b3 := by rintro rfl; have := (I8.out rfl).2.1; unfold RowAt at this; rw [k3] at this; simp at this
      refine wpOpIn_skip (w' := (w'.setCell ⟨b3, 0, none⟩ (Value.slice (some ⟨ga, 0, none⟩) N N))) rfl rfl (by simp [Oper.semAt, execOp, go_sem, c3, f3]) ?_
      exact ⟨ga, gq, gr, b3, b4, (IB.out.setCell (p := ⟨b3, 0, none⟩) (by have := HXZ.out; have := (I9.out rfl).1; show X.heap.size ≤ b3; omega) _), (fun h => ⟨(I3.out h).1, (I3.out h).2.set_other _ _ _ n3⟩), (fun h => (heap_setCell_other _ _ _ _ (by rintro rfl; have := I4.out h; rw [k3] at this; simp at this)).trans (I4.out h)), (fun h => ⟨(I8.out h).1, (I8.out h).2.1.set_other _ _ _ n8, (I8.out h).2.2⟩), (fun h => ⟨(I9.out h).1, by rw [heap_setCell_same w' b3 0 _ 22 _ k3]; rfl⟩), (fun h => ⟨(IA.out h).1, (heap_setCell_other _ _ _ _ (Ne.symm ((IA.out h).2.2 rfl))).trans (IA.out h).2.1, (IA.out h).2.2⟩), (fun _ => rfl), J8, (fun _ => ⟨rfl, rfl⟩), J12, rfl⟩
    · obtain rfl : x12 = false := by simpa using hbi
      obtain rfl : x3 = true := hdep _ rfl ⟨3, .phase⟩ (by simp) rfl
      obtain rfl : x8 = true := hdep _ rfl ⟨8, .data⟩ (by simp) rfl
      obtain rfl : x9 = true := hdep _ rfl ⟨9, .phase⟩ (by simp) rfl
      obtain rfl : x10 = true := hdep _ rfl ⟨10, .data⟩ (by simp) rfl
      obtain rfl : x11 = true := hdep _ rfl ⟨11, .chain⟩ (by simp) rfl
      have k4 := (IA.out rfl).2.1
      have c4 : w'.cell? ⟨b4, 0, none⟩ = some (Value.slice none 0 0) := cellR 0 k4 rfl
      have f4 := frozen_of_row w' b4 0 _ _ k4
      have n3 : ga ≠ b4 := by rintro rfl; have := (I3.out rfl).2; unfold RowAt at this; rw [k4] at this; simp at this
      have n8 : gr ≠ b4 := by rintro rfl; have := (I8.out rfl).2.1; unfold RowAt at this; rw [k4] at this; simp at this
      refine wpOpIn_skip (w' := (w'.setCell ⟨b4, 0, none⟩ (Value.slice (some ⟨gr, 0, none⟩) N N))) rfl rfl (by simp [Oper.semAt, execOp, go_sem, c4, f4]) ?_
      exact ⟨ga, gq, gr, b3, b4, (IB.out.setCell (p := ⟨b4, 0, none⟩) (by have := HXZ.out; have := (IA.out rfl).1; show X.heap.size ≤ b4; omega) _), (fun h => ⟨(I3.out h).1, (I3.out h).2.set_other _ _ _ n3⟩), (fun h => (heap_setCell_other _ _ _ _ (by rintro rfl; have := I4.out h; rw [k4] at this; simp at this)).trans (I4.out h)), (fun h => ⟨(I8.out h).1, (I8.out h).2.1.set_other _ _ _ n8, (I8.out h).2.2⟩), (fun h => ⟨(I9.out h).1, (heap_setCell_other _ _ _ _ ((IA.out rfl).2.2 h)).trans (I9.out h).2⟩), (fun h => ⟨(IA.out h).1, by rw [heap_setCell_same w' b4 0 _ 22 _ k4]; rfl, (IA.out h).2.2⟩), (fun _ => rfl), J8, J11, (fun _ => ⟨rfl, rfl⟩), rfl⟩
  case fin =>
  intro listed a' Z hs hall ⟨ga, gq, gr, b3, b4, IB, I3, I4, I8, I9, IA, J13, J8, J11, J12, ha⟩
  obtain ⟨ls⟩ := listed
  match ls, hs with
  | [x0, x1, x2, x3, x4, x5, x6, x7, x8, x9, x10, x11, x12], _ =>
  obtain rfl : x0 = true := hall 0 (by simp)
  obtain rfl : x1 = true := hall 1 (by simp)
  obtain rfl : x2 = true := hall 2 (by simp)
  obtain rfl : x3 = true := hall 3 (by simp)
  obtain rfl : x4 = true := hall 4 (by simp)
  obtain rfl : x5 = true := hall 5 (by simp)
  obtain rfl : x6 = true := hall 6 (by simp)
  obtain rfl : x7 = true := hall 7 (by simp)
  obtain rfl : x8 = true := hall 8 (by simp)
  obtain rfl : x9 = true := hall 9 (by simp)
  obtain rfl : x10 = true := hall 10 (by simp)
  obtain rfl : x11 = true := hall 11 (by simp)
  obtain rfl : x12 = true := hall 12 (by simp)
  subst ha
  have HZ : Hid (Below w.heap.size w Z ∧ Below X.heap.size X Z) := ⟨HB.out.trans (IB.out.mono (by have := HXZ.out; omega)), IB.out⟩
  have HGA := Lib.hid (I3.out rfl)
  have HGR := Lib.hid (I8.out rfl)
  have HB3 := Lib.hid (I9.out rfl)
  have HB4 := Lib.hid (IA.out rfl)
  have c0 := kcell HZ.out.2 (cellR 0 Q0.out rfl)
  have c1 := kcell HZ.out.2 (cellR 1 Q0.out rfl)
  have k1 := kcell ((Below.refl Z.heap.size Z).alloc (Nat.le_refl _) (.cells #[.int .i64 0] 3)) c1
  clear IB I3 I4 I8 I9 IA J13 J8 J11 J12 hall hs HRP HMK
  dsimp only [Exit.then, Exit.inBlock]
  gi_wp2
  obtain ⟨z, hz⟩ : ∃ z, z = Z.heap.size := ⟨_, rfl⟩
  obtain ⟨O0, hO⟩ : ∃ O0 : Obj, O0 = (.cells #[.slice sa N sc, .int .i64 (n : Int)] 105 (0, 0)) := ⟨_, rfl⟩
  have HO := Lib.hid hO
  have HOK : Hid (SnB.Ok (SnB.mk O0 w.heap.size ga gr b3 b4 z N)) := by
    have a1 := HGA.out.1
    have a2 := HGR.out.1
    have a3 := HB3.out.1
    have a4 := HB4.out.1
    have q1 := HGA.out.2
    have q2 := HGR.out.2.1
    have q3 := HB3.out.2
    have q4 := HB4.out.2.1
    have e1 := q1.lt
    have e2 := q2.lt
    have e3 := (Array.getElem?_eq_some_iff.1 q3).1
    have e4 := (Array.getElem?_eq_some_iff.1 q4).1
    refine ⟨⟨by show w.heap.size < ga; omega, by show w.heap.size < gr; omega, by show w.heap.size < b3; omega, by show w.heap.size < b4; omega⟩, ⟨by show ga < z; omega, by show gr < z; omega, by show b3 < z; omega, by show b4 < z; omega⟩, HGR.out.2.2 rfl, ?_, ?_, ?_, ?_⟩
    · rintro e; simp only at e; subst e; unfold RowAt at q1; rw [q3] at q1; simp at q1
    · rintro e; simp only at e; subst e; unfold RowAt at q1; rw [q4] at q1; simp at q1
    · rintro e; simp only at e; subst e; unfold RowAt at q2; rw [q3] at q2; simp at q2
    · rintro e; simp only at e; subst e; unfold RowAt at q2; rw [q4] at q2; simp at q2
  have hbz : Below Z.heap.size Z (Z.alloc (.cells #[.int .i64 0] 3)) := (Below.refl _ _).alloc (Nat.le_refl _) _
  have HI0 : Hid (SnS (SnB.mk O0 w.heap.size ga gr b3 b4 z N) w l [] (.slice (some ⟨z, 0, none⟩) 1 1) 0 (Z.alloc (.cells #[.int .i64 0] 3))) := by
    have hm : SnM (SnB.mk O0 w.heap.size ga gr b3 b4 z N) w (snC l 0) (dirL l (snC l 0)) Z := by
      refine ⟨?_, ?_, HB3.out.2, HB4.out.2.1, ?_, HZ.out.1, by show z ≤ _; omega⟩
      · have := HGA.out.2; rw [HN.out] at this; exact this
      · have := HGR.out.2.1; rw [HN.out] at this; rw [dir_zero]; exact this
      · rw [HO.out]; exact (HZ.out.2.block _ (by have := HXZ.out; show w.heap.size < _; omega)).trans Q0.out
    refine ⟨hm.keep HOK.out (by rw [hz]; exact hbz), ?_, Marks.nil _ _⟩
    have h0 : snL l (0 + 1) = [0] := by rw [snL_succ, num_zero]; rfl
    rw [h0, hz]
    refine ⟨⟨rfl, .inr ⟨Z.heap.size, 1, #[.int .i64 0], rfl, Nat.le_refl _, heap_alloc_new Z _, by decide, by unfold maxLen; omega, rfl, rfl⟩⟩, by simp⟩
  have HWN : Hid (w.heap.size + 1 ≤ z) := by have h1 := HZ.out.2.size; have h2 := HXZ.out; rw [hz]; show _ ≤ _; omega
  rw [← hz]
  clear hz hbz hO HGA HGR HB3 HB4 HZ HXZ Q0 HB c0 c1 k1 h
  generalize Z.alloc (.cells #[.int .i64 0] 3) = Y at *
  clear Z X
  have HBK : Hid (∀ W, Below w.heap.size w W → z ≤ W.heap.size → Calls Try.prog 105 #[.slice sa N sc] W fun e w' => ∃ lb, e = .returned (.func (.func 114) #[] lb) ∧ Below W.heap.size W w' ∧ BIter l lb (fun j => j = ga ∨ j = gr) w') := by
    intro W hW hzW
    have hok := HOK.out
    have l1 := hok.lz.1
    have l2 := hok.lz.2.1
    have l3 := hok.l0.1
    have l4 := hok.l0.2.1
    simp only at l1 l2 l3 l4
    have := backward_any (w := W) (fun j => j = ga ∨ j = gr) (by omega) sa l sc (HL.out.keep hW) (fun g off e hne => by
      obtain ⟨g', off', e', hc⟩ := HL.out.at_ hne
      rw [e] at e'; cases e'
      have := block_lt_of_cell (hc 0 (by cases l with | nil => exact absurd rfl hne | cons x l => simp))
      simp only at this
      omega)
    rw [← HN.out] at this
    exact this
  refine wpIn_loop (fun a W => ∃ (k : Nat) (v : Value) (Ds : List Nat) (u23 u24 u25 u26 u54 u55 u56 u57 u58 u59 u60 : Value), k + 1 ≤ n ∧ Hid (SnS (SnB.mk O0 w.heap.size ga gr b3 b4 z N) w l Ds v k W) ∧ a = ⟨#[Value.agg #[Value.slice sa N sc, Value.int IntKind.i64 (n : Int)], Value.pointer (some ⟨w.heap.size, 0, none⟩), Value.slice none 0 0, Value.pointer (some ⟨b3, 0, none⟩), Value.pointer (some ⟨b4, 0, none⟩), v, undef, undef, undef, Value.pointer (some ⟨w.heap.size, 0, none⟩), Value.slice sa N sc, Value.int IntKind.i64 (N : Int), Value.slice (some ⟨ga, 0, none⟩) N N, Value.slice (some ⟨gq, 0, none⟩) 1 1, Value.pointer (some ⟨w.heap.size, 0, none⟩), Value.slice sa N sc, Value.int IntKind.i64 (N : Int), Value.slice (some ⟨gr, 0, none⟩) N N, Value.slice (some ⟨z, 0, none⟩) 1 1, Value.pointer (some ⟨w.heap.size, 1, none⟩), Value.int IntKind.i64 (n : Int), Value.int IntKind.i64 ((n : Int) - 1), Value.int IntKind.i64 (k : Int), u23, u24, u25, u26, undef, undef, undef, undef, undef, undef, undef, undef, undef, undef, undef, undef, undef, undef, undef, undef, undef, undef, undef, undef, undef, undef, undef, undef, undef, undef, undef, u54, u55, u56, u57, u58, u59, u60, undef], Ds.map mk⟩) (fun a _ => n - (intOf (a.tmps.getD 22 undef)).toNat) ⟨0, _, [], undef, undef, undef, undef, undef, undef, undef, undef, undef, undef, undef, hn1, HI0, rfl⟩ ?_
  clear HI0
  rintro a wr ⟨k, v, Ds, u23, u24, u25, u26, u54, u55, u56, u57, u58, u59, u60, hk, HS, rfl⟩
  have q0 := HS.out.m.q0
  rw [HO.out] at q0
  have c0 : wr.cell? ⟨w.heap.size, 0, none⟩ = some (Value.slice sa N sc) := cellR 0 q0 rfl
  by_cases hlt : k + 1 < n
  · have d1 : decide ((k : Int) < (n : Int) - 1) = true := decide_eq_true (by omega)
    clear q0
    gi_wp2
    refine ⟨trivial, callsIn_wide.2 ((HBK.out wr HS.out.m.bl HS.out.m.sz).mono ?_)⟩
    rintro e w1 ⟨lb, rfl, hb1, hit⟩
    have HS1 := Lib.hid (HS.out.keep HOK.out hb1)
    clear HS c0 hb1
    have HCI : Hid (InT l (snC l k) ∧ rkS l (snC l k) l.length = k) := sn_rank (by rw [← HN.out]; exact HL1.out) HBB.out k (by rw [HP.out]; omega)
    have HDL : Hid ((dirL l (snC l k)).length = l.length) := dirL_len _ _
    gi_wp2
    have HM := Lib.hid HS1.out.m
    obtain ⟨c, hc⟩ : ∃ c, c = snC l k := ⟨_, rfl⟩
    rw [← hc] at HM HCI HDL
    have HC := Lib.hid hc
    obtain ⟨d0, hd0⟩ : ∃ d0, d0 = dirL l c := ⟨_, rfl⟩
    rw [← hd0] at HM HDL
    have HD0 := Lib.hid hd0
    clear hc hd0
    refine wpIn_rangeFunc_ownH rfl (by omega) (gf := 114) (lb := lb) rfl trivial hit.1 (hit.2 _) (fun h k => h.trans k) (fun W l o o' h1 h2 h3 h4 => KeepP.putObj W l o o' h2 h3) (Below.refl _ _) (fun _ => rfl)
      (fun pre W => RowAt W ga c ∧ RowAt W gr (turnF d0 (pre.map (·.1))) ∧ But2 w1.heap.size ga gr w1 W ∧ Pas l c d0 (pre.map (·.1)))
      (fun cd pre W => cd = Code.exit 2 ∧ ∃ (p : List Nat) (x : Nat), pre.map (·.1) = p ++ [x] ∧ Pas l c d0 p ∧ x < l.length ∧ goesB l c (turnF d0 p) x = true ∧ RowAt W ga (c.set x (wrap64 (c.getD x 0 + (turnF d0 p).getD x 0))) ∧ RowAt W gr (turnF d0 p) ∧ But2 w1.heap.size ga gr w1 W)
      ?hI ?hIx ?h0 (fun x a' _ => a' = ⟨#[Value.agg #[Value.slice sa N sc, Value.int IntKind.i64 (n : Int)], Value.pointer (some ⟨w.heap.size, 0, none⟩), Value.slice none 0 0, Value.pointer (some ⟨b3, 0, none⟩), Value.pointer (some ⟨b4, 0, none⟩), v, Value.int IntKind.i64 (x.1 : Int), Value.int IntKind.i64 (l.getD x.1 0), undef, Value.pointer (some ⟨w.heap.size, 0, none⟩), Value.slice sa N sc, Value.int IntKind.i64 (N : Int), Value.slice (some ⟨ga, 0, none⟩) N N, Value.slice (some ⟨gq, 0, none⟩) 1 1, Value.pointer (some ⟨w.heap.size, 0, none⟩), Value.slice sa N sc, Value.int IntKind.i64 (N : Int), Value.slice (some ⟨gr, 0, none⟩) N N, Value.slice (some ⟨z, 0, none⟩) 1 1, Value.pointer (some ⟨w.heap.size, 1, none⟩), Value.int IntKind.i64 (n : Int), Value.int IntKind.i64 ((n : Int) - 1), Value.int IntKind.i64 (k : Int), Value.bool true, Value.pointer (some ⟨w.heap.size, 0, none⟩), Value.slice sa N sc, Value.func (Fn.func 114) #[] lb, Value.int IntKind.i64 (x.1 : Int), Value.int IntKind.i64 (l.getD x.1 0), undef, undef, undef, undef, undef, undef, undef, undef, undef, undef, undef, undef, undef, undef, undef, undef, undef, undef, undef, undef, undef, undef, undef, undef, undef, u54, u55, u56, u57, u58, u59, u60, undef], []⟩) ?hAx ?assign ?body ?done ?stop
    case hI => exact OwnFrom.and (own_blk _ _ _ (fun _ => rfl)) (OwnFrom.and (own_blk _ _ (fun pre : List (Fin l.length) => .cells (rowA (turnF d0 (pre.map (·.1)))) 3 (0, 0)) (fun _ => rfl)) (OwnFrom.and But2.own (ownFrom_pure _ _)))
    case hIx =>
      rintro cd s1 X1 Y1 row ⟨h1, p, x, e1, e2, e3, e4, e5, e6, e7⟩ hg hr
      exact ⟨h1, p, x, e1, e2, e3, e4, own_blk (β := Unit) w1.heap.size ga (fun _ => .cells (rowA (c.set x (wrap64 (c.getD x 0 + (turnF d0 p).getD x 0)))) 3 (0, 0)) (fun _ => rfl) () X1 Y1 row e5 hg hr, own_blk (β := Unit) w1.heap.size gr (fun _ => .cells (rowA (turnF d0 p)) 3 (0, 0)) (fun _ => rfl) () X1 Y1 row e6 hg hr, But2.own (β := Unit) () X1 Y1 row e7 hg hr⟩
    case h0 => exact ⟨HM.out.ra, HM.out.rd, But2.refl (Nat.le_refl _), Pas.nil _ _ _⟩
    case hAx => exact fun x a' => ownFrom_pure _ _
    case assign =>
      rintro ll pre x W K hI hK
      gi_wp2
      exact hK _ _ (KeepsFrom.refl _ _) (KeepP.refl _ _) hI (by simp)
    case body => as_aux_lemma =>
      rintro ll pre x a' W hl ⟨rr, hrr⟩ ⟨hA, hR, hB2, hPas⟩ rfl hlt2
      have hx := x.2
      have HPM : Hid ((pre ++ [x]).map (·.1) = pre.map (·.1) ++ [x.1]) := by show _ = _; simp
      clear hrr hlt2
      obtain ⟨P, hP⟩ : ∃ P, P = pre.map (·.1) := ⟨_, rfl⟩
      rw [← hP] at hR hPas HPM
      obtain ⟨d, hd⟩ : ∃ d, d = turnF d0 P := ⟨_, rfl⟩
      rw [← hd] at hR
      have HD := Lib.hid hd
      have hcl : x.1 < c.length := by rw [HCI.out.1.1]; exact hx
      have hdl : x.1 < d.length := by rw [hd, turnF_len, HDL.out]; exact hx
      have t0 : W.cell? ⟨ga, x.1, none⟩ = some (.int .i64 (c.getD x.1 0)) := by have := hA.cell x.1 hcl; rwa [show c[x.1] = c.getD x.1 0 by simp [List.getD, hcl]] at this
      have t1 : W.cell? ⟨gr, x.1, none⟩ = some (.int .i64 (d.getD x.1 0)) := by have := hR.cell x.1 hdl; rwa [show d[x.1] = d.getD x.1 0 by simp [List.getD, hdl]] at this
      have o0 := hA.open_ x.1
      have o1 := hR.open_ x.1
      have hok := HOK.out
      have hz1 := HM.out.sz
      have k3 : W.heap[b3]? = some (.cells #[.slice (some ⟨ga, 0, none⟩) N N] 22 (0, 0)) := (hB2.block b3 (by have := hok.lz.2.2.1; simp only at this hz1; omega) (Ne.symm hok.nn.2.1) (Ne.symm hok.nn.2.2.2.1)).trans HM.out.k3
      have k4 : W.heap[b4]? = some (.cells #[.slice (some ⟨gr, 0, none⟩) N N] 22 (0, 0)) := (hB2.block b4 (by have := hok.lz.2.2.2; simp only at this hz1; omega) (Ne.symm hok.nn.2.2.1) (Ne.symm hok.nn.2.2.2.2)).trans HM.out.k4
      have v3 : W.cell? ⟨b3, 0, none⟩ = some (.slice (some ⟨ga, 0, none⟩) N N) := cellR 0 k3 rfl
      have v4 : W.cell? ⟨b4, 0, none⟩ = some (.slice (some ⟨gr, 0, none⟩) N N) := cellR 0 k4 rfl
      have hxN : x.1 < N := by rw [HN.out]; exact hx
      have HGO : Hid (goesB l c d x.1 = decide (0 ≤ wrap64 (c.getD x.1 0 + d.getD x.1 0) ∧ wrap64 (c.getD x.1 0 + d.getD x.1 0) ≤ wrap64 (l.getD x.1 0 - 1))) := rfl
      have HTF : Hid (turnF d0 (P ++ [x.1]) = d.set x.1 (wrap64 (-(d.getD x.1 0)))) := by show _ = _; rw [turnF_snoc, ← hd]
      have HSX : Hid (c.set x.1 (wrap64 (c.getD x.1 0 + d.getD x.1 0)) = c.set x.1 (wrap64 (c.getD x.1 0 + d.getD x.1 0))) := rfl
      obtain ⟨cx, hcx⟩ : ∃ cx, cx = c.getD x.1 0 := ⟨_, rfl⟩
      obtain ⟨dx, hdx⟩ : ∃ dx, dx = d.getD x.1 0 := ⟨_, rfl⟩
      obtain ⟨s, hs⟩ : ∃ s, s = l.getD x.1 0 := ⟨_, rfl⟩
      rw [← hs]
      rw [← hcx] at t0
      rw [← hdx] at t1
      rw [← hcx, ← hdx, ← hs] at HGO
      rw [← hdx] at HTF
      have HCX := Lib.hid hcx
      have HDX := Lib.hid hdx
      have HA := Lib.hid hA
      have HR := Lib.hid hR
      have HB2 := Lib.hid hB2
      have HPA := Lib.hid hPas
      have HPR := Lib.hid hP
      have HXL := Lib.hid hx
      clear hP hd hcl hdl k3 k4 hok hz1 hcx hdx hs hA hR hB2 hPas hx HSX
      gi_wp2
      refine region_det (by kernel_rfl) (I := fun listed a' w' => w' = W.drew ∧ a' = ⟨#[Value.agg #[Value.slice sa N sc, Value.int IntKind.i64 (n : Int)], Value.pointer (some ⟨w.heap.size, 0, none⟩), Value.slice none 0 0, Value.pointer (some ⟨b3, 0, none⟩), Value.pointer (some ⟨b4, 0, none⟩), v, Value.int IntKind.i64 (x.1 : Int), Value.int IntKind.i64 s, (if listed.getD 9 false = true then Value.int IntKind.i64 (wrap64 (cx + dx)) else undef), Value.pointer (some ⟨w.heap.size, 0, none⟩), Value.slice sa N sc, Value.int IntKind.i64 (N : Int), Value.slice (some ⟨ga, 0, none⟩) N N, Value.slice (some ⟨gq, 0, none⟩) 1 1, Value.pointer (some ⟨w.heap.size, 0, none⟩), Value.slice sa N sc, Value.int IntKind.i64 (N : Int), Value.slice (some ⟨gr, 0, none⟩) N N, Value.slice (some ⟨z, 0, none⟩) 1 1, Value.pointer (some ⟨w.heap.size, 1, none⟩), Value.int IntKind.i64 (n : Int), Value.int IntKind.i64 ((n : Int) - 1), Value.int IntKind.i64 (k : Int), Value.bool true, Value.pointer (some ⟨w.heap.size, 0, none⟩), Value.slice sa N sc, Value.func (Fn.func 114) #[] lb, Value.int IntKind.i64 (x.1 : Int), Value.int IntKind.i64 s, (if listed.getD 0 false = true then Value.slice (some ⟨ga, 0, none⟩) N N else undef), (if listed.getD 1 false = true then Value.int IntKind.i64 (x.1 : Int) else undef), (if listed.getD 2 false = true then Value.pointer (some ⟨ga, x.1, none⟩) else undef), (if listed.getD 3 false = true then Value.int IntKind.i64 cx else undef), (if listed.getD 4 false = true then Value.slice (some ⟨gr, 0, none⟩) N N else undef), (if listed.getD 5 false = true then Value.int IntKind.i64 (x.1 : Int) else undef), (if listed.getD 6 false = true then Value.pointer (some ⟨gr, x.1, none⟩) else undef), (if listed.getD 7 false = true then Value.int IntKind.i64 dx else undef), (if listed.getD 8 false = true then Value.int IntKind.i64 (wrap64 (cx + dx)) else undef), undef, undef, undef, undef, undef, undef, undef, undef, undef, undef, undef, undef, undef, undef, undef, undef, u54, u55, u56, u57, u58, u59, u60, undef], []⟩) (hup_check (by kernel_rfl)) ?h0 ?step ?fin
      case h0 => exact ⟨rfl, rfl⟩
      case step => as_aux_lemma =>
        intro listed a' w' i hs hbi hdep hi ⟨IW, ha⟩
        obtain ⟨ls⟩ := listed
        match ls, hs with
        | [x0, x1, x2, x3, x4, x5, x6, x7, x8, x9], _ =>
        subst ha
        have hi' : i = 0 ∨ i = 1 ∨ i = 2 ∨ i = 3 ∨ i = 4 ∨ i = 5 ∨ i = 6 ∨ i = 7 ∨ i = 8 ∨ i = 9 := by simp at hi; omega
        subst IW
        rcases hi' with rfl | rfl | rfl | rfl | rfl | rfl | rfl | rfl | rfl | rfl
        · obtain rfl : x0 = false := by simpa using hbi
          refine wpOpIn_step rfl (fun K' hK => ?_)
          rw [if_pos (by rfl)]
          refine wpInF_plain (fun _ _ => trivial) (v := Value.slice (some ⟨ga, 0, none⟩) N N) (w' := W.drew) ?_ (hK _ _ ?_)
          · go_simp <;> first | rfl | (unfold wrap64; exact IntKind.wrap_i64 _)
          exact ⟨rfl, rfl⟩
        · obtain rfl : x1 = false := by simpa using hbi
          refine wpOpIn_step rfl (fun K' hK => ?_)
          rw [if_pos (by rfl)]
          refine wpInF_plain (fun _ _ => trivial) (v := Value.int IntKind.i64 (x.1 : Int)) (w' := W.drew) ?_ (hK _ _ ?_)
          · go_simp <;> first | rfl | (unfold wrap64; exact IntKind.wrap_i64 _)
          exact ⟨rfl, rfl⟩
        · obtain rfl : x2 = false := by simpa using hbi
          obtain rfl : x0 = true := hdep _ rfl ⟨0, .data⟩ (by simp) rfl
          obtain rfl : x1 = true := hdep _ rfl ⟨1, .data⟩ (by simp) rfl
          refine wpOpIn_step rfl (fun K' hK => ?_)
          rw [if_pos (by rfl)]
          refine wpInF_plain (fun _ _ => trivial) (v := Value.pointer (some ⟨ga, x.1, none⟩)) (w' := W.drew) ?_ (hK _ _ ?_)
          · go_simp <;> first | rfl | (unfold wrap64; exact IntKind.wrap_i64 _)
          exact ⟨rfl, rfl⟩
        · obtain rfl : x3 = false := by simpa using hbi
          obtain rfl : x2 = true := hdep _ rfl ⟨2, .data⟩ (by simp) rfl
          refine wpOpIn_step rfl (fun K' hK => ?_)
          rw [if_pos (by rfl)]
          refine wpInF_plain (fun _ _ => trivial) (v := Value.int IntKind.i64 cx) (w' := W.drew) ?_ (hK _ _ ?_)
          · go_simp <;> first | rfl | (unfold wrap64; exact IntKind.wrap_i64 _)
          exact ⟨rfl, rfl⟩
        · obtain rfl : x4 = false := by simpa using hbi
          refine wpOpIn_step rfl (fun K' hK => ?_)
          rw [if_pos (by rfl)]
          refine wpInF_plain (fun _ _ => trivial) (v := Value.slice (some ⟨gr, 0, none⟩) N N) (w' := W.drew) ?_ (hK _ _ ?_)
          · go_simp <;> first | rfl | (unfold wrap64; exact IntKind.wrap_i64 _)
          exact ⟨rfl, rfl⟩
        · obtain rfl : x5 = false := by simpa using hbi
          refine wpOpIn_step rfl (fun K' hK => ?_)
          rw [if_pos (by rfl)]
          refine wpInF_plain (fun _ _ => trivial) (v := Value.int IntKind.i64 (x.1 : Int)) (w' := W.drew) ?_ (hK _ _ ?_)
          · go_simp <;> first | rfl | (unfold wrap64; exact IntKind.wrap_i64 _)
          exact ⟨rfl, rfl⟩
        · obtain rfl : x6 = false := by simpa using hbi
          obtain rfl : x4 = true := hdep _ rfl ⟨4, .data⟩ (by simp) rfl
          obtain rfl : x5 = true := hdep _ rfl ⟨5, .data⟩ (by simp) rfl
          refine wpOpIn_step rfl (fun K' hK => ?_)
          rw [if_pos (by rfl)]
          refine wpInF_plain (fun _ _ => trivial) (v := Value.pointer (some ⟨gr, x.1, none⟩)) (w' := W.drew) ?_ (hK _ _ ?_)
          · go_simp <;> first | rfl | (unfold wrap64; exact IntKind.wrap_i64 _)
          exact ⟨rfl, rfl⟩
        · obtain rfl : x7 = false := by simpa using hbi
          obtain rfl : x6 = true := hdep _ rfl ⟨6, .data⟩ (by simp) rfl
          refine wpOpIn_step rfl (fun K' hK => ?_)
          rw [if_pos (by rfl)]
          refine wpInF_plain (fun _ _ => trivial) (v := Value.int IntKind.i64 dx) (w' := W.drew) ?_ (hK _ _ ?_)
          · go_simp <;> first | rfl | (unfold wrap64; exact IntKind.wrap_i64 _)
          exact ⟨rfl, rfl⟩
        · obtain rfl : x8 = false := by simpa using hbi
          obtain rfl : x3 = true := hdep _ rfl ⟨3, .data⟩ (by simp) rfl
          obtain rfl : x7 = true := hdep _ rfl ⟨7, .data⟩ (by simp) rfl
          refine wpOpIn_step rfl (fun K' hK => ?_)
          rw [if_pos (by rfl)]
          refine wpInF_plain (fun _ _ => trivial) (v := Value.int IntKind.i64 (wrap64 (cx + dx))) (w' := W.drew) ?_ (hK _ _ ?_)
          · go_simp <;> first | rfl | (unfold wrap64; exact IntKind.wrap_i64 _)
          exact ⟨rfl, rfl⟩
        · obtain rfl : x9 = false := by simpa using hbi
          obtain rfl : x8 = true := hdep _ rfl ⟨8, .data⟩ (by simp) rfl
          refine wpOpIn_step rfl (fun K' hK => ?_)
          rw [if_pos (by rfl)]
          refine wpInF_plain (fun _ _ => trivial) (v := Value.int IntKind.i64 (wrap64 (cx + dx))) (w' := W.drew) ?_ (hK _ _ ?_)
          · go_simp <;> first | rfl | (unfold wrap64; exact IntKind.wrap_i64 _)
          exact ⟨rfl, rfl⟩
      case fin =>
      intro listed a' Z hs hall ⟨IW, ha⟩
      obtain ⟨ls⟩ := listed
      match ls, hs with
      | [x0, x1, x2, x3, x4, x5, x6, x7, x8, x9], _ =>
      obtain rfl : x0 = true := hall 0 (by simp)
      obtain rfl : x1 = true := hall 1 (by simp)
      obtain rfl : x2 = true := hall 2 (by simp)
      obtain rfl : x3 = true := hall 3 (by simp)
      obtain rfl : x4 = true := hall 4 (by simp)
      obtain rfl : x5 = true := hall 5 (by simp)
      obtain rfl : x6 = true := hall 6 (by simp)
      obtain rfl : x7 = true := hall 7 (by simp)
      obtain rfl : x8 = true := hall 8 (by simp)
      obtain rfl : x9 = true := hall 9 (by simp)
      subst ha
      subst IW
      clear hall hs
      dsimp only [Exit.then, Exit.inBlock]
      gi_wp2
      refine ⟨trivial, CallsIn.inRound ll (callsIn_wide.2 ((within_any _ _ _ _).mono ?_))⟩
      rintro e wq ⟨rfl, rfl⟩
      rw [← HGO.out]
      cases hgb : goesB l c d x.1 with
      | false =>
        have HPN : Hid (Pas l c d0 (P ++ [x.1])) := HPA.out.snoc (by rw [← HD.out]; exact hgb)
        clear HGO hgb
        gi_wp2
        refine region_det (by kernel_rfl) (I := fun listed a' w' => w' = (if listed.getD 8 false = true then W.drew.drew.setCell ⟨gr, x.1, none⟩ (.int .i64 (wrap64 (-dx))) else W.drew.drew) ∧ Hid (listed.getD 8 false = true → listed.getD 0 false = true ∧ listed.getD 1 false = true ∧ listed.getD 2 false = true ∧ listed.getD 3 false = true ∧ listed.getD 4 false = true ∧ listed.getD 5 false = true ∧ listed.getD 6 false = true ∧ listed.getD 7 false = true) ∧ a' = ⟨#[Value.agg #[Value.slice sa N sc, Value.int IntKind.i64 (n : Int)], Value.pointer (some ⟨w.heap.size, 0, none⟩), Value.slice none 0 0, Value.pointer (some ⟨b3, 0, none⟩), Value.pointer (some ⟨b4, 0, none⟩), v, Value.int IntKind.i64 (x.1 : Int), Value.int IntKind.i64 s, Value.int IntKind.i64 (wrap64 (cx + dx)), Value.pointer (some ⟨w.heap.size, 0, none⟩), Value.slice sa N sc, Value.int IntKind.i64 (N : Int), Value.slice (some ⟨ga, 0, none⟩) N N, Value.slice (some ⟨gq, 0, none⟩) 1 1, Value.pointer (some ⟨w.heap.size, 0, none⟩), Value.slice sa N sc, Value.int IntKind.i64 (N : Int), Value.slice (some ⟨gr, 0, none⟩) N N, Value.slice (some ⟨z, 0, none⟩) 1 1, Value.pointer (some ⟨w.heap.size, 1, none⟩), Value.int IntKind.i64 (n : Int), Value.int IntKind.i64 ((n : Int) - 1), Value.int IntKind.i64 (k : Int), Value.bool true, Value.pointer (some ⟨w.heap.size, 0, none⟩), Value.slice sa N sc, Value.func (Fn.func 114) #[] lb, Value.int IntKind.i64 (x.1 : Int), Value.int IntKind.i64 s, Value.slice (some ⟨ga, 0, none⟩) N N, Value.int IntKind.i64 (x.1 : Int), Value.pointer (some ⟨ga, x.1, none⟩), Value.int IntKind.i64 cx, Value.slice (some ⟨gr, 0, none⟩) N N, Value.int IntKind.i64 (x.1 : Int), Value.pointer (some ⟨gr, x.1, none⟩), Value.int IntKind.i64 dx, Value.int IntKind.i64 (wrap64 (cx + dx)), Value.int IntKind.i64 (wrap64 (cx + dx)), Value.int IntKind.i64 s, Value.int IntKind.i64 (wrap64 (s - 1)), Value.bool false, undef, undef, undef, undef, (if listed.getD 0 false = true then Value.slice (some ⟨gr, 0, none⟩) N N else undef), (if listed.getD 1 false = true then Value.int IntKind.i64 (x.1 : Int) else undef), (if listed.getD 2 false = true then Value.slice (some ⟨gr, 0, none⟩) N N else undef), (if listed.getD 3 false = true then Value.int IntKind.i64 (x.1 : Int) else undef), (if listed.getD 4 false = true then Value.pointer (some ⟨gr, x.1, none⟩) else undef), (if listed.getD 5 false = true then Value.int IntKind.i64 dx else undef), (if listed.getD 6 false = true then Value.int IntKind.i64 (wrap64 (-dx)) else undef), (if listed.getD 7 false = true then Value.pointer (some ⟨gr, x.1, none⟩) else undef), u54, u55, u56, u57, u58, u59, u60, undef], []⟩) (hup_check (by kernel_rfl)) ?h0 ?step ?fin
        case h0 => exact ⟨rfl, (fun h => by simp at h), rfl⟩
        case step => as_aux_lemma =>
          intro listed a' w' i hs hbi hdep hi ⟨IW, J8, ha⟩
          obtain ⟨ls⟩ := listed
          match ls, hs with
          | [x0, x1, x2, x3, x4, x5, x6, x7, x8], _ =>
          subst ha
          have hi' : i = 0 ∨ i = 1 ∨ i = 2 ∨ i = 3 ∨ i = 4 ∨ i = 5 ∨ i = 6 ∨ i = 7 ∨ i = 8 := by simp at hi; omega
          rcases hi' with rfl | rfl | rfl | rfl | rfl | rfl | rfl | rfl | rfl
          · obtain rfl : x0 = false := by simpa using hbi
            obtain rfl : x8 = false := Bool.eq_false_iff.2 fun h => by have := (J8.out h).1; cases this
            obtain rfl : w' = W.drew.drew := IW
            refine wpOpIn_step rfl (fun K' hK => ?_)
            rw [if_pos (by rfl)]
            refine wpInF_plain (fun _ _ => trivial) (v := Value.slice (some ⟨gr, 0, none⟩) N N) (w' := W.drew.drew) ?_ (hK _ _ ?_)
            · go_simp <;> first | rfl | (unfold wrap64; exact IntKind.wrap_i64 _)
            exact ⟨rfl, (fun h => ⟨rfl, (J8.out h).2.1, (J8.out h).2.2.1, (J8.out h).2.2.2.1, (J8.out h).2.2.2.2.1, (J8.out h).2.2.2.2.2.1, (J8.out h).2.2.2.2.2.2.1, (J8.out h).2.2.2.2.2.2.2⟩), rfl⟩
          · obtain rfl : x1 = false := by simpa using hbi
            obtain rfl : x8 = false := Bool.eq_false_iff.2 fun h => by have := (J8.out h).2.1; cases this
            obtain rfl : w' = W.drew.drew := IW
            refine wpOpIn_step rfl (fun K' hK => ?_)
            rw [if_pos (by rfl)]
            refine wpInF_plain (fun _ _ => trivial) (v := Value.int IntKind.i64 (x.1 : Int)) (w' := W.drew.drew) ?_ (hK _ _ ?_)
            · go_simp <;> first | rfl | (unfold wrap64; exact IntKind.wrap_i64 _)
            exact ⟨rfl, (fun h => ⟨(J8.out h).1, rfl, (J8.out h).2.2.1, (J8.out h).2.2.2.1, (J8.out h).2.2.2.2.1, (J8.out h).2.2.2.2.2.1, (J8.out h).2.2.2.2.2.2.1, (J8.out h).2.2.2.2.2.2.2⟩), rfl⟩
          · obtain rfl : x2 = false := by simpa using hbi
            obtain rfl : x8 = false := Bool.eq_false_iff.2 fun h => by have := (J8.out h).2.2.1; cases this
            obtain rfl : w' = W.drew.drew := IW
            refine wpOpIn_step rfl (fun K' hK => ?_)
            rw [if_pos (by rfl)]
            refine wpInF_plain (fun _ _ => trivial) (v := Value.slice (some ⟨gr, 0, none⟩) N N) (w' := W.drew.drew) ?_ (hK _ _ ?_)
            · go_simp <;> first | rfl | (unfold wrap64; exact IntKind.wrap_i64 _)
            exact ⟨rfl, (fun h => ⟨(J8.out h).1, (J8.out h).2.1, rfl, (J8.out h).2.2.2.1, (J8.out h).2.2.2.2.1, (J8.out h).2.2.2.2.2.1, (J8.out h).2.2.2.2.2.2.1, (J8.out h).2.2.2.2.2.2.2⟩), rfl⟩
          · obtain rfl : x3 = false := by simpa using hbi
            obtain rfl : x8 = false := Bool.eq_false_iff.2 fun h => by have := (J8.out h).2.2.2.1; cases this
            obtain rfl : w' = W.drew.drew := IW
            refine wpOpIn_step rfl (fun K' hK => ?_)
            rw [if_pos (by rfl)]
            refine wpInF_plain (fun _ _ => trivial) (v := Value.int IntKind.i64 (x.1 : Int)) (w' := W.drew.drew) ?_ (hK _ _ ?_)
            · go_simp <;> first | rfl | (unfold wrap64; exact IntKind.wrap_i64 _)
            exact ⟨rfl, (fun h => ⟨(J8.out h).1, (J8.out h).2.1, (J8.out h).2.2.1, rfl, (J8.out h).2.2.2.2.1, (J8.out h).2.2.2.2.2.1, (J8.out h).2.2.2.2.2.2.1, (J8.out h).2.2.2.2.2.2.2⟩), rfl⟩
          · obtain rfl : x4 = false := by simpa using hbi
            obtain rfl : x2 = true := hdep _ rfl ⟨2, .data⟩ (by simp) rfl
            obtain rfl : x3 = true := hdep _ rfl ⟨3, .data⟩ (by simp) rfl
            obtain rfl : x8 = false := Bool.eq_false_iff.2 fun h => by have := (J8.out h).2.2.2.2.1; cases this
            obtain rfl : w' = W.drew.drew := IW
            refine wpOpIn_step rfl (fun K' hK => ?_)
            rw [if_pos (by rfl)]
            refine wpInF_plain (fun _ _ => trivial) (v := Value.pointer (some ⟨gr, x.1, none⟩)) (w' := W.drew.drew) ?_ (hK _ _ ?_)
            · go_simp <;> first | rfl | (unfold wrap64; exact IntKind.wrap_i64 _)
            exact ⟨rfl, (fun h => ⟨(J8.out h).1, (J8.out h).2.1, (J8.out h).2.2.1, (J8.out h).2.2.2.1, rfl, (J8.out h).2.2.2.2.2.1, (J8.out h).2.2.2.2.2.2.1, (J8.out h).2.2.2.2.2.2.2⟩), rfl⟩
          · obtain rfl : x5 = false := by simpa using hbi
            obtain rfl : x4 = true := hdep _ rfl ⟨4, .data⟩ (by simp) rfl
            obtain rfl : x8 = false := Bool.eq_false_iff.2 fun h => by have := (J8.out h).2.2.2.2.2.1; cases this
            obtain rfl : w' = W.drew.drew := IW
            refine wpOpIn_step rfl (fun K' hK => ?_)
            rw [if_pos (by rfl)]
            refine wpInF_plain (fun _ _ => trivial) (v := Value.int IntKind.i64 dx) (w' := W.drew.drew) ?_ (hK _ _ ?_)
            · go_simp <;> first | rfl | (unfold wrap64; exact IntKind.wrap_i64 _)
            exact ⟨rfl, (fun h => ⟨(J8.out h).1, (J8.out h).2.1, (J8.out h).2.2.1, (J8.out h).2.2.2.1, (J8.out h).2.2.2.2.1, rfl, (J8.out h).2.2.2.2.2.2.1, (J8.out h).2.2.2.2.2.2.2⟩), rfl⟩
          · obtain rfl : x6 = false := by simpa using hbi
            obtain rfl : x5 = true := hdep _ rfl ⟨5, .data⟩ (by simp) rfl
            obtain rfl : x8 = false := Bool.eq_false_iff.2 fun h => by have := (J8.out h).2.2.2.2.2.2.1; cases this
            obtain rfl : w' = W.drew.drew := IW
            refine wpOpIn_step rfl (fun K' hK => ?_)
            rw [if_pos (by rfl)]
            refine wpInF_plain (fun _ _ => trivial) (v := Value.int IntKind.i64 (wrap64 (-dx))) (w' := W.drew.drew) ?_ (hK _ _ ?_)
            · go_simp <;> first | rfl | (unfold wrap64; exact IntKind.wrap_i64 _)
            exact ⟨rfl, (fun h => ⟨(J8.out h).1, (J8.out h).2.1, (J8.out h).2.2.1, (J8.out h).2.2.2.1, (J8.out h).2.2.2.2.1, (J8.out h).2.2.2.2.2.1, rfl, (J8.out h).2.2.2.2.2.2.2⟩), rfl⟩
          · obtain rfl : x7 = false := by simpa using hbi
            obtain rfl : x0 = true := hdep _ rfl ⟨0, .data⟩ (by simp) rfl
            obtain rfl : x1 = true := hdep _ rfl ⟨1, .data⟩ (by simp) rfl
            obtain rfl : x2 = true := hdep _ rfl ⟨2, .phase⟩ (by simp) rfl
            obtain rfl : x3 = true := hdep _ rfl ⟨3, .phase⟩ (by simp) rfl
            obtain rfl : x4 = true := hdep _ rfl ⟨4, .phase⟩ (by simp) rfl
            obtain rfl : x5 = true := hdep _ rfl ⟨5, .phase⟩ (by simp) rfl
            obtain rfl : x6 = true := hdep _ rfl ⟨6, .phase⟩ (by simp) rfl
            obtain rfl : x8 = false := Bool.eq_false_iff.2 fun h => by have := (J8.out h).2.2.2.2.2.2.2; cases this
            obtain rfl : w' = W.drew.drew := IW
            refine wpOpIn_step rfl (fun K' hK => ?_)
            rw [if_pos (by rfl)]
            refine wpInF_plain (fun _ _ => trivial) (v := Value.pointer (some ⟨gr, x.1, none⟩)) (w' := W.drew.drew) ?_ (hK _ _ ?_)
            · go_simp <;> first | rfl | (unfold wrap64; exact IntKind.wrap_i64 _)
            exact ⟨rfl, (fun h => ⟨(J8.out h).1, (J8.out h).2.1, (J8.out h).2.2.1, (J8.out h).2.2.2.1, (J8.out h).2.2.2.2.1, (J8.out h).2.2.2.2.2.1, (J8.out h).2.2.2.2.2.2.1, rfl⟩), rfl⟩
          · obtain rfl : x8 = false := by simpa using hbi
            obtain rfl : x0 = true := hdep _ rfl ⟨0, .phase⟩ (by simp) rfl
            obtain rfl : x1 = true := hdep _ rfl ⟨1, .phase⟩ (by simp) rfl
            obtain rfl : x2 = true := hdep _ rfl ⟨2, .phase⟩ (by simp) rfl
            obtain rfl : x3 = true := hdep _ rfl ⟨3, .phase⟩ (by simp) rfl
            obtain rfl : x4 = true := hdep _ rfl ⟨4, .phase⟩ (by simp) rfl
            obtain rfl : x5 = true := hdep _ rfl ⟨5, .phase⟩ (by simp) rfl
            obtain rfl : x6 = true := hdep _ rfl ⟨6, .data⟩ (by simp) rfl
            obtain rfl : x7 = true := hdep _ rfl ⟨7, .data⟩ (by simp) rfl
            obtain rfl : w' = W.drew.drew := IW
            refine wpOpIn_step rfl (fun K' hK => ?_)
            rw [if_pos (by rfl)]
            refine wpInF_skip (fun _ _ => trivial) (w' := W.drew.drew.setCell ⟨gr, x.1, none⟩ (.int .i64 (wrap64 (-dx)))) ?_ (hK _ _ ?_)
            · go_simp <;> first | rfl | (unfold wrap64; exact IntKind.wrap_i64 _)
            exact ⟨rfl, (fun _ => ⟨rfl, rfl, rfl, rfl, rfl, rfl, rfl, rfl⟩), rfl⟩
        case fin =>
        intro listed a' Z2 hs hall ⟨IW, J8, ha⟩
        obtain ⟨ls⟩ := listed
        match ls, hs with
        | [x0, x1, x2, x3, x4, x5, x6, x7, x8], _ =>
        obtain rfl : x0 = true := hall 0 (by simp)
        obtain rfl : x1 = true := hall 1 (by simp)
        obtain rfl : x2 = true := hall 2 (by simp)
        obtain rfl : x3 = true := hall 3 (by simp)
        obtain rfl : x4 = true := hall 4 (by simp)
        obtain rfl : x5 = true := hall 5 (by simp)
        obtain rfl : x6 = true := hall 6 (by simp)
        obtain rfl : x7 = true := hall 7 (by simp)
        obtain rfl : x8 = true := hall 8 (by simp)
        subst ha
        obtain rfl : Z2 = W.drew.drew.setCell ⟨gr, x.1, none⟩ (.int .i64 (wrap64 (-dx))) := IW
        clear J8 hall hs
        dsimp only [Exit.then, Exit.inBlock]
        have hR2 : RowAt (W.drew.drew.setCell ⟨gr, x.1, none⟩ (.int .i64 (wrap64 (-dx)))) gr (d.set x.1 (wrap64 (-dx))) := RowAt.set (w := W.drew.drew) HR.out x.1 _
        have hA2 : RowAt (W.drew.drew.setCell ⟨gr, x.1, none⟩ (.int .i64 (wrap64 (-dx)))) ga c := RowAt.set_other (w := W.drew.drew) HA.out gr x.1 _ (HOK.out.nn.1)
        refine ⟨((KeepsOthers.drew W).trans ((KeepsOthers.drew _).trans (KeepsOthers.setCell _ _ _))).from _, (KeepP.refl _ _).drew.drew.setCell _ _ (.inr rfl) _, hA2, ?_, HB2.out.drew.drew.set (.inr rfl) _ _, ?_⟩
        · rw [HPM.out, HTF.out]; exact hR2
        · rw [HPM.out]; exact HPN.out
      | true =>
        have HGB := Lib.hid hgb
        clear HGO hgb
        gi_wp2
        have hA2 : RowAt (W.drew.setCell ⟨ga, x.1, none⟩ (.int .i64 (wrap64 (cx + dx)))) ga (c.set x.1 (wrap64 (cx + dx))) := RowAt.set (w := W.drew) HA.out x.1 _
        have hR2 : RowAt (W.drew.setCell ⟨ga, x.1, none⟩ (.int .i64 (wrap64 (cx + dx)))) gr d := RowAt.set_other (w := W.drew) HR.out ga x.1 _ (Ne.symm HOK.out.nn.1)
        refine ⟨((KeepsOthers.drew W).trans (KeepsOthers.setCell _ _ _)).from _, rfl, P, x.1, HPM.out, HPA.out, HXL.out, by rw [← HD.out]; exact HGB.out, ?_, by rw [← HD.out]; exact hR2, HB2.out.drew.set (.inl rfl) _ _⟩
        rw [← HD.out, ← HCX.out, ← HDX.out]; exact hA2
    case done =>
      rintro D xs W hD hS ⟨hA, hR, hB2, hPas⟩ hK
      exfalso
      have h1 := hPas
      rw [hS, HD0.out] at h1
      have h2 := pas_last HBB.out HCI.out.1 h1
      rw [HCI.out.2, HP.out] at h2
      omega
    case stop =>
      rintro D cd pre W hD hSp ⟨rfl, p, x, e1, e2, e3, e4, e5, e6, e7⟩ hK
      rw [e1] at hSp
      rw [HD0.out] at e2 e4 e5 e6
      obtain ⟨g1, g2, g3⟩ := goes_next HBB.out HCI.out.1 e3 hSp e2 e4
      rw [g2] at e5
      rw [g3] at e6
      have hcn : nextC c x = snC l (k + 1) := by rw [snC, ← HC.out, g1]
      rw [hcn] at e5 e6
      have hok := HOK.out
      have HM2 : Hid (SnM (SnB.mk O0 w.heap.size ga gr b3 b4 z N) w (snC l (k + 1)) (dirL l (snC l (k + 1))) W) := HM.out.turned hok (Nat.le_refl _) e7 e5 e6
      have HNV : Hid (NewInts z W v (snL l (k + 1))) := HS1.out.nv.but2 e7 rfl hok.lz.1 hok.lz.2.1
      have HMS : Hid (Marks z (D :: Ds) W) := by
        have h1 := HS1.out.ms.but2 e7 rfl hok.lz.1 hok.lz.2.1
        refine (HS1.out.ms).push hD (fun E hE => ?_) hK HM.out.sz
        exact ((h1.open_ E hE).2).trans ((HS1.out.ms).open_ E hE).2.symm
      clear e1 e2 e3 e4 e5 e6 e7 g1 g2 g3 hSp hcn hok HS1 HM HC HD0 HCI HDL hit
      have q0 := HM2.out.q0
      rw [HO.out] at q0
      have c0 : W.cell? ⟨w.heap.size, 0, none⟩ = some (Value.slice sa N sc) := cellR 0 q0 rfl
      have c1 : W.cell? ⟨w.heap.size, 1, none⟩ = some (.int .i64 (n : Int)) := cellR 1 q0 rfl
      have c3 : W.cell? ⟨b3, 0, none⟩ = some (.slice (some ⟨ga, 0, none⟩) N N) := cellR 0 HM2.out.k3 rfl
      have HNUM : Hid (Calls Try.prog 107 #[.agg #[.slice sa N sc, .int .i64 (n : Int)], .slice (some ⟨ga, 0, none⟩) N N] W fun e w' => e = .returned (.int .i64 (numI l (snC l (k + 1)))) ∧ Below W.heap.size W w') := by
        have hin := (sn_rank (by rw [← HN.out]; exact HL1.out) HBB.out (k + 1) (by rw [HP.out]; omega)).1
        have h1 := number_any (HL.out.keep HM2.out.bl) (HM2.out.ra.ints (by rw [hin.1, ← HN.out]; have := HL4.out; omega)) hin.1 (by rw [← HN.out]; exact HL4.out) HBB.out hin.2 sc N (n : Int)
        rw [hin.1, ← HN.out] at h1
        exact h1
      clear q0 hK
      gi_wp2
      refine ⟨trivial, callsIn_wide.2 (HNUM.out.mono ?_)⟩
      rintro e w2 ⟨rfl, hb2⟩
      have HM3 := Lib.hid (HM2.out.keep HOK.out (hb2.mono HM2.out.sz))
      obtain ⟨v', w3, hr, hm3, hn3, hk3⟩ := HM3.out.app HOK.out (HNV.out.keep2 hb2) (HMS.out.below (z := 0) hb2) (numI l (snC l (k + 1))) (by rw [snL_len]; omega)
      have HS3 : Hid (SnS (SnB.mk O0 w.heap.size ga gr b3 b4 z N) w l (D :: Ds) v' (k + 1) w3) := ⟨hm3, by rw [snL_succ]; exact hn3, hk3⟩
      have HR := Lib.hid hr
      have hsl : (snL l (k + 1)).length = k + 1 := snL_len _ _
      clear hr hm3 hn3 hk3 hb2 HM2 HM3 HNV HMS HNUM c0 c1 c3 hsl
      have HWI := Lib.hid (wrap_small ((k : Int) + 1) (by omega) (by omega))
      have HCS : Hid (((k : Int) + 1) = ((k + 1 : Nat) : Int)) := by show _ = _; rw [Int.natCast_add]; rfl
      have HME : Hid (n - (intOf (.int .i64 ((k : Int) + 1))).toNat < n - (intOf (.int .i64 (k : Int))).toNat) := by show _ < _; simp [intOf]; omega
      have HMO : Hid (n - (intOf (.int .i64 (wrap64 ((k : Int) + 1)))).toNat < n - (intOf (.int .i64 (k : Int))).toNat) := by show _ < _; rw [HWI.out]; exact HME.out
      have HK1 : Hid (k + 1 + 1 ≤ n) := hlt
      gi_wp2_with (gi_at_builtin; refine wpListIn_append_run rfl _ _ 22 rfl rfl rfl HR.out ?_)
      refine ⟨?_, HME.out⟩
      rw [HCS.out]
      exact ⟨k + 1, v', D :: Ds, _, _, _, _, _, _, _, _, _, _, _, HK1.out, HS3, rfl⟩
  · have hkn : k + 1 = n := by omega
    have d1 : decide ((k : Int) < (n : Int) - 1) = false := decide_eq_false (by omega)
    have HS2 := HS
    clear c0 q0
    gi_wp2
    refine leaves_marks Ds _ HS.out.ms fun w' hw => ?_
    obtain ⟨r1, r2⟩ := HS.out.out HOK.out (by have := HWN.out; show w.heap.size ≤ z; omega) rfl hw
    rw [hkn] at r1
    refine ⟨v, ?_, v, rfl, r1, r2⟩
    simp [results, Try.results100, go_sem]
end Go.Proofs.Ytbhkenphcahifaa

namespace Go.Proofs.Ytbhkenphcahifaa
open Go.RowKit Go.Shelf
attribute [local go_sem] Oper.semAt_some
set_option maxRecDepth 100000
set_option maxHeartbeats 4000000

theorem NetSnake_1 {w : World} {sa : Option Addr} {l : List Int} (h : Ints w sa l) (sc : Nat) (hosts : Int) (hv : vOk 1 l hosts) {L : List Int} (hlen : (L.length : Int) = hoI 1 l) (hin : ∀ x ∈ L, 0 ≤ x ∧ x < hoI 1 l) (hnd : L.Nodup)
    (hS : ∀ W, Below w.heap.size w W → Calls Try.prog 37 #[.agg #[.int .i64 1, .slice sa l.length sc, .int .i64 hosts]] W fun e w' => ∃ v, e = .returned (.tuple #[v, .int .i64 0]) ∧ NewInts W.heap.size w' v L ∧ Below W.heap.size W w')
    (hNB : ∀ W, Below w.heap.size w W → ∀ (i : Nat) (hi : i + 1 < L.length), Calls Try.prog 27 #[.agg #[.int .i64 1, .slice sa l.length sc, .int .i64 hosts], .int .i64 (L[i + 1]'hi)] W fun e w' => ∃ v M, e = .returned (.tuple #[v, .int .i64 0]) ∧ NewInts W.heap.size w' v M ∧ (L[i]'(Nat.lt_of_succ_lt hi)) ∈ M ∧ Below W.heap.size W w') :
    Calls Try.prog 9 #[.agg #[.int .i64 1, .slice sa l.length sc, .int .i64 hosts]] w fun e w' => e = .returned (.bool true) ∧ Below w.heap.size w w' := by
  have HB := Lib.hid ((Below.refl w.heap.size w).alloc (Nat.le_refl _) (.cells #[.int .i64 1, .slice sa l.length sc, .int .i64 hosts] 24))
  have Q0 := Lib.hid (heap_alloc_new w (.cells #[.int .i64 1, .slice sa l.length sc, .int .i64 hosts] 24))
  have c0 := cellR 0 Q0.out rfl
  have c1 := cellR 1 Q0.out rfl
  have c2 := cellR 2 Q0.out rfl
  have H25 := Lib.hid (size_any (h.keep HB.out) sc 1 hosts 256)
  have HSS := Lib.hid hS
  have HWK := Lib.hid works_any
  have hsw := sw_max hv
  obtain ⟨b1, b2, b3, b4, b5, b6⟩ := v_bound hv
  rw [show szM 1 l hosts 256 = swI 1 l from if_pos ⟨hv, hsw⟩, show hoM 1 l hosts 256 = hoI 1 l from if_pos ⟨hv, hsw⟩] at H25
  obtain ⟨n, hn⟩ := Int.eq_ofNat_of_zero_le (show 0 ≤ swI 1 l by omega)
  obtain ⟨m, hm⟩ := Int.eq_ofNat_of_zero_le (show 0 ≤ hoI 1 l by omega)
  have HL : Hid (L.length = m ∧ L.Nodup ∧ ∀ i (hi : i < L.length), ∃ x : Nat, L[i] = (x : Int) ∧ x < m ∧ x < n) := by
    refine ⟨by omega, hnd, fun i hi => ?_⟩
    obtain ⟨x0, x1⟩ := hin L[i] (List.getElem_mem hi)
    obtain ⟨x, hx⟩ := Int.eq_ofNat_of_zero_le x0
    exact ⟨x, hx, by omega, by omega⟩
  rw [hn, hm] at H25
  have hn1 : 1 ≤ n := by omega
  have hnb : ((n : Int) == 0) = false := by simp; omega
  have hmk := make_bools n (by omega)
  have hnl : n ≤ 256 := by omega
  have hml : m ≤ 256 := by omega
  have HNB := Lib.hid hNB
  clear h hv hlen hin hnd hS hNB b1 b2 b3 b4 b5 b6 hn hm hsw
  generalize l.length = N at *
  go_enter Try.func9, Try.ntmps9
  go_wp2_with fail
  generalize w.alloc (.cells #[.int .i64 1, .slice sa N sc, .int .i64 hosts] 24) = X at *
  refine H25.out.mono ?_
  rintro e w1 ⟨rfl, hb⟩
  replace c0 := kcell hb c0
  replace c1 := kcell hb c1
  replace c2 := kcell hb c2
  replace Q0 := Lib.hid (heapB hb Q0.out)
  replace HB := Lib.hid (HB.out.trans (hb.mono HB.out.size))
  have HS1 := Lib.hid (HSS.out _ HB.out)
  clear H25 HSS hb
  go_wp2_with fail
  refine HS1.out.mono ?_
  rintro e w2 ⟨v, rfl, hv2, hb⟩
  obtain ⟨pa, pk, rfl, hi⟩ := hv2.ints
  rw [HL.out.1]
  have HI := Lib.hid hi
  replace Q0 := Lib.hid (heapB hb Q0.out)
  replace HB := Lib.hid (HB.out.trans (hb.mono HB.out.size))
  clear hv2 hi hb HS1 c0 c1 c2
  have hmm : ((m : Int) != (m : Int)) = false := by simp
  have hba : BAt (w2.alloc (.cells (boolA (List.replicate n false)) 4)) w2.heap.size (List.replicate n false) := heap_alloc_new w2 _
  have HM0 : Hid (∃ bs, Met n L 0 bs ∧ BAt (w2.alloc (.cells (boolA (List.replicate n false)) 4)) w2.heap.size bs ∧ Below w2.heap.size w2 (w2.alloc (.cells (boolA (List.replicate n false)) 4))) := ⟨_, met_zero n L, hba, (Below.refl _ _).alloc (Nat.le_refl _) _⟩
  obtain ⟨g, hg⟩ : ∃ g, g = w2.heap.size := ⟨_, rfl⟩
  have HG := Lib.hid hg
  clear hba
  go_wp2_with fail
  rw [← hg] at HM0 ⊢
  clear hmk hg hmm
  generalize w2.alloc (.cells (boolA (List.replicate n false)) 4) = Y at *
  go_loopw [8] (fun iv wr => ∃ (i : Nat), i ≤ m ∧ iv = .int .i64 (i : Int) ∧ Hid (∃ bs, Met n L i bs ∧ BAt wr g bs ∧ Below g w2 wr)) (fun iv _ => m - (intOf iv).toNat)
  case atStart => exact ⟨0, Nat.zero_le _, rfl, HM0⟩
  case round =>
    clear HM0
    obtain ⟨i, hi, rfl, HR⟩ := hrel
    obtain ⟨bs, hmt, hbt, hbl⟩ := HR.out
    have HBL : Hid (Below w2.heap.size w2 wr) := HG.out ▸ hbl
    by_cases hlt : i < m
    · have hiL : i < L.length := by rw [HL.out.1]; exact hlt
      obtain ⟨x, hx, hxm, hxn⟩ := HL.out.2.2 i hiL
      obtain ⟨gp, op, rfl, hc⟩ := (HI.out.keep HBL.out).at_ (ne_nil_of_lt hiL)
      have e0 := hc i hiL
      rw [hx] at e0
      have hbn := met_not hmt HL.out.2.1 hiL hx hxn
      have e1 := hbt.cell x (by rw [hmt.1]; exact hxn)
      rw [hbn] at e1
      have o1 := hbt.open_ x
      have l1 := hbt.lt
      have k0 := cellR 0 (heapB HBL.out Q0.out) rfl
      have HN : Hid (∃ bs, Met n L (i + 1) bs ∧ BAt (wr.setCell ⟨g, x, none⟩ (.bool true)) g bs ∧ Below g w2 (wr.setCell ⟨g, x, none⟩ (.bool true))) := ⟨_, met_next hmt hiL hx hxn, hbt.set x true, hbl.setCell (p := ⟨g, x, none⟩) (Nat.le_refl _) _⟩
      have k0' : (wr.setCell ⟨g, x, none⟩ (.bool true)).cell? ⟨w.heap.size, 0, none⟩ = some (.int .i64 1) := by
        have hlt0 := (Array.getElem?_eq_some_iff.1 Q0.out).1
        have h7 := HN.out
        obtain ⟨_, _, _, h8⟩ := h7
        have h9 : (wr.setCell ⟨g, x, none⟩ (.bool true)).heap[w.heap.size]? = w2.heap[w.heap.size]? := h8.block _ (by rw [HG.out]; exact hlt0)
        exact cellR 0 (h9.trans Q0.out) rfl
      have d1 : decide ((x : Int) < 0) = false := decide_eq_false (by omega)
      have d2 : decide ((x : Int) ≥ (m : Int)) = false := decide_eq_false (by omega)
      have HK9 : Hid ((wr.setCell ⟨g, x, none⟩ (.bool true)).heap[w.heap.size]? = some (.cells #[.int .i64 1, .slice sa N sc, .int .i64 hosts] 24 (0, 0))) := by
        have hlt0 := (Array.getElem?_eq_some_iff.1 Q0.out).1
        have h7 := HN.out
        obtain ⟨_, _, _, h8⟩ := h7
        have h9 : (wr.setCell ⟨g, x, none⟩ (.bool true)).heap[w.heap.size]? = w2.heap[w.heap.size]? := h8.block _ (by rw [HG.out]; exact hlt0)
        exact h9.trans Q0.out
      have HXE : Hid (L[i]'hiL = (x : Int)) := hx
      clear HR hmt hbt hbl hc hx hbn
      cases i with
      | zero =>
        rw [Nat.add_zero] at e0
        go_wp2_with fail
        go_roundw
        case rel => exact ⟨1, by omega, rfl, HN⟩
        case measure => simp [intOf]; omega
      | succ i =>
        have d3 : decide (((i + 1 : Nat) : Int) > 0) = true := decide_eq_true (by omega)
        have hiL0 : i < L.length := by omega
        have d4 : decide (m ≤ x) = false := decide_eq_false (by omega)
        have HVL : Hid (Below w2.heap.size w2 (wr.setCell ⟨g, x, none⟩ (.bool true))) := by
          obtain ⟨_, _, _, h8⟩ := HN.out
          show Below w2.heap.size w2 _
          rw [← HG.out]; exact h8
        have HBV : Hid (Below w.heap.size w (wr.setCell ⟨g, x, none⟩ (.bool true))) := HB.out.trans (HVL.out.mono HB.out.size)
        obtain ⟨gq, oq, e9, hc9⟩ := (HI.out.keep HVL.out).at_ (ne_nil_of_lt hiL)
        cases e9
        have z0 := hc9 (i + 1) hiL
        have z1 := hc9 i hiL0
        rw [show L[i + 1] = (x : Int) from HXE.out] at z0
        have HN27 : Hid (∀ W, Below w.heap.size w W → Calls Try.prog 27 #[.agg #[.int .i64 1, .slice sa N sc, .int .i64 hosts], .int .i64 (x : Int)] W fun e w' => ∃ v M, e = .returned (.tuple #[v, .int .i64 0]) ∧ NewInts W.heap.size w' v M ∧ (L[i]'hiL0) ∈ M ∧ Below W.heap.size W w') := by
          intro W hW
          have := HNB.out W hW i hiL
          rw [show L[i + 1] = (x : Int) from HXE.out] at this
          exact this
        obtain ⟨y, hy⟩ : ∃ y, y = L[i]'hiL0 := ⟨_, rfl⟩
        rw [← hy] at z1 HN27
        clear hc9 hy HXE hiL0 hiL
        obtain ⟨j, hj⟩ : ∃ j, j = i + 1 := ⟨_, rfl⟩
        rw [← hj] at e0 z0 HN d3 hlt hi
        rw [← hj]
        have HJ := Lib.hid hj
        clear hj
        have d5 : decide ((j : Int) < (m : Int)) = true := decide_eq_true (by omega)
        have d6 : decide (0 < j) = true := decide_eq_true (by have := HJ.out; omega)
        have d7 : decide (j < m) = true := decide_eq_true hlt
        have hj0 : 0 < j := by have := HJ.out; omega
        go_wp2_with fail
        clear e0 e1 o1 l1 k0 k0' d1 d2 d4
        generalize wr.setCell ⟨g, x, none⟩ (.bool true) = V at *
        refine (wpIn_wide (n := 0)).1 ?_
        refine region_det (by kernel_rfl) (I := fun listed a' w' => ∃ (mv : Value) (M : List Int), Hid (Below V.heap.size V w') ∧ Hid (listed.getD 5 false = true → NewInts V.heap.size w' mv M ∧ y ∈ M) ∧ Hid (listed.getD 7 false = true → listed.getD 5 false = true) ∧ Hid (listed.getD 8 false = true → listed.getD 5 false = true) ∧ Hid (listed.getD 9 false = true → listed.getD 5 false = true) ∧ Hid (listed.getD 10 false = true → listed.getD 5 false = true) ∧ Hid (listed.getD 6 false = true → listed.getD 5 false = true) ∧ a' = ⟨#[Value.agg #[Value.int IntKind.i64 1, Value.slice sa N sc, Value.int IntKind.i64 hosts], Value.pointer (some (Addr.mk w.heap.size 0 none)), u2, Value.int IntKind.i64 ↑n, Value.int IntKind.i64 ↑m, Value.slice (some (Addr.mk gp op none)) m pk, Value.int IntKind.i64 0, Value.slice (some (Addr.mk g 0 none)) n n, Value.int IntKind.i64 ↑j, (if listed.getD 9 false = true then mv else u9), (if listed.getD 10 false = true then Value.int IntKind.i64 0 else u10), Value.tuple #[Value.int IntKind.i64 ↑n, Value.int IntKind.i64 ↑m], Value.agg #[Value.int IntKind.i64 1, Value.slice sa N sc, Value.int IntKind.i64 hosts], Value.tuple #[Value.int IntKind.i64 ↑n, Value.int IntKind.i64 ↑m], Value.int IntKind.i64 ↑n, Value.int IntKind.i64 ↑m, Value.tuple #[Value.slice (some (Addr.mk gp op none)) m pk, Value.int IntKind.i64 0], Value.agg #[Value.int IntKind.i64 1, Value.slice sa N sc, Value.int IntKind.i64 hosts], Value.tuple #[Value.slice (some (Addr.mk gp op none)) m pk, Value.int IntKind.i64 0], Value.slice (some (Addr.mk gp op none)) m pk, Value.int IntKind.i64 0, Value.int IntKind.i64 ↑n, Value.bool false, undef, undef, undef, undef, undef, undef, undef, undef, undef, undef, Value.int IntKind.i64 0, Value.bool false, Value.bool false, Value.slice (some (Addr.mk gp op none)) m pk, Value.int IntKind.i64 ↑m, Value.int IntKind.i64 ↑m, Value.bool false, Value.bool false, Value.int IntKind.i64 ↑n, Value.slice (some (Addr.mk g 0 none)) n n, Value.int IntKind.i64 ↑j, Value.slice (some (Addr.mk gp op none)) m pk, Value.int IntKind.i64 ↑m, Value.bool true, u47, u48, Value.slice (some (Addr.mk gp op none)) m pk, Value.int IntKind.i64 ↑j, Value.pointer (some (Addr.mk gp (op + j) none)), Value.int IntKind.i64 ↑x, Value.bool false, Value.bool false, Value.slice (some (Addr.mk gp op none)) m pk, Value.int IntKind.i64 ↑j, Value.pointer (some (Addr.mk gp (op + j) none)), Value.int IntKind.i64 ↑x, Value.int IntKind.i64 ↑m, Value.bool false, Value.bool false, Value.bool false, Value.slice (some (Addr.mk g 0 none)) n n, Value.slice (some (Addr.mk gp op none)) m pk, Value.int IntKind.i64 ↑j, Value.pointer (some (Addr.mk gp (op + j) none)), Value.int IntKind.i64 ↑x, Value.pointer (some (Addr.mk g x none)), Value.bool false, Value.bool false, Value.slice (some (Addr.mk g 0 none)) n n, Value.slice (some (Addr.mk gp op none)) m pk, Value.int IntKind.i64 ↑j, Value.pointer (some (Addr.mk gp (op + j) none)), Value.int IntKind.i64 ↑x, Value.pointer (some (Addr.mk g x none)), Value.int IntKind.i64 ↑j, Value.bool true, Value.bool true, Value.pointer (some (Addr.mk w.heap.size 0 none)), Value.int IntKind.i64 1, Value.bool true, Value.bool true, (if listed.getD 6 false = true then Value.tuple #[mv, Value.int IntKind.i64 0] else u84), (if listed.getD 0 false = true then Value.agg #[Value.int IntKind.i64 1, Value.slice sa N sc, Value.int IntKind.i64 hosts] else u85), (if listed.getD 1 false = true then Value.slice (some ⟨gp, op, none⟩) m pk else u86), (if listed.getD 2 false = true then Value.int IntKind.i64 (j : Int) else u87), (if listed.getD 3 false = true then Value.pointer (some ⟨gp, op + j, none⟩) else u88), (if listed.getD 4 false = true then Value.int IntKind.i64 (x : Int) else u89), (if listed.getD 5 false = true then Value.tuple #[mv, Value.int IntKind.i64 0] else u90), (if listed.getD 7 false = true then mv else u91), (if listed.getD 8 false = true then Value.int IntKind.i64 0 else u92), u93, u94, u95, u96, u97, u98, u99, u100, u101, u102, u103, u104, undef], []⟩) (hup_check (by kernel_rfl)) ?h0 ?step ?fin
        case h0 => exact ⟨undef, [], (Below.refl _ _).drew, (fun h => by simp at h), (fun h => by simp at h), (fun h => by simp at h), (fun h => by simp at h), (fun h => by simp at h), (fun h => by simp at h), rfl⟩
        case step => as_aux_lemma =>
          intro listed a' w' i hs hbi hdep hi ⟨mv, M, IB, IR, J7, J8, J9, J10, J6, ha⟩
          obtain ⟨ls⟩ := listed
          match ls, hs with
          | [x0, x1, x2, x3, x4, x5, x6, x7, x8, x9, x10], _ =>
          subst ha
          have hi' : i = 0 ∨ i = 1 ∨ i = 2 ∨ i = 3 ∨ i = 4 ∨ i = 5 ∨ i = 6 ∨ i = 7 ∨ i = 8 ∨ i = 9 ∨ i = 10 := by simp at hi; omega
          rcases hi' with rfl | rfl | rfl | rfl | rfl | rfl | rfl | rfl | rfl | rfl | rfl
          · obtain rfl : x0 = false := by simpa using hbi
            refine wpOpIn_load_row rfl rfl 24 _ rfl w.heap.size rfl 24 _ _ _ (heapB IB.out HK9.out) Try.underlying24 rfl info24 ?_
            exact ⟨mv, M, IB, IR, J7, J8, J9, J10, J6, rfl⟩
          · obtain rfl : x1 = false := by simpa using hbi
            refine wpOpIn_plain rfl rfl rfl ?_
            exact ⟨mv, M, IB, IR, J7, J8, J9, J10, J6, rfl⟩
          · obtain rfl : x2 = false := by simpa using hbi
            refine wpOpIn_plain rfl rfl rfl ?_
            exact ⟨mv, M, IB, IR, J7, J8, J9, J10, J6, rfl⟩
          · obtain rfl : x3 = false := by simpa using hbi
            obtain rfl : x1 = true := hdep _ rfl ⟨1, .data⟩ (by simp) rfl
            obtain rfl : x2 = true := hdep _ rfl ⟨2, .data⟩ (by simp) rfl
            refine wpOpIn_plain (v := Value.pointer (some ⟨gp, op + j, none⟩)) (w' := w') rfl rfl (by simp [Oper.semAt, execOp, go_sem, hlt]) ?_
            exact ⟨mv, M, IB, IR, J7, J8, J9, J10, J6, rfl⟩
          · obtain rfl : x4 = false := by simpa using hbi
            obtain rfl : x3 = true := hdep _ rfl ⟨3, .data⟩ (by simp) rfl
            have c9 := kcell IB.out z0
            refine wpOpIn_plain (v := Value.int IntKind.i64 (x : Int)) (w' := w') rfl rfl (by simp [Oper.semAt, execOp, go_sem, c9]) ?_
            exact ⟨mv, M, IB, IR, J7, J8, J9, J10, J6, rfl⟩
          · obtain rfl : x5 = false := by simpa using hbi
            obtain rfl : x0 = true := hdep _ rfl ⟨0, .data⟩ (by simp) rfl
            obtain rfl : x4 = true := hdep _ rfl ⟨4, .data⟩ (by simp) rfl
            obtain rfl : x6 = false := Bool.eq_false_iff.2 fun h => by have := J6.out h; cases this
            obtain rfl : x7 = false := Bool.eq_false_iff.2 fun h => by have := J7.out h; cases this
            obtain rfl : x8 = false := Bool.eq_false_iff.2 fun h => by have := J8.out h; cases this
            obtain rfl : x9 = false := Bool.eq_false_iff.2 fun h => by have := J9.out h; cases this
            obtain rfl : x10 = false := Bool.eq_false_iff.2 fun h => by have := J10.out h; cases this
            refine wpOpIn_call (args := #[Value.agg #[Value.int IntKind.i64 1, Value.slice sa N sc, Value.int IntKind.i64 hosts], Value.int IntKind.i64 (x : Int)]) rfl rfl (sem_call2 rfl rfl rfl (enters_of Try.func27 (by kernel_rfl) rfl)) (HN27.out w' (HBV.out.trans (IB.out.mono HBV.out.size))) ?_
            rintro e V2 ⟨v2, M2, rfl, hn2, hm2, hb⟩
            exact ⟨_, rfl, v2, M2, (IB.out.trans (hb.mono IB.out.size)), (fun _ => ⟨⟨own_lower7 hn2.own IB.out.size, hn2.len⟩, hm2⟩), (fun _ => rfl), (fun _ => rfl), (fun _ => rfl), (fun _ => rfl), (fun _ => rfl), rfl⟩
          · obtain rfl : x6 = false := by simpa using hbi
            obtain rfl : x5 = true := hdep _ rfl ⟨5, .data⟩ (by simp) rfl
            refine wpOpIn_plain rfl rfl rfl ?_
            exact ⟨mv, M, IB, IR, J7, J8, J9, J10, (fun _ => rfl), rfl⟩
          · obtain rfl : x7 = false := by simpa using hbi
            obtain rfl : x6 = true := hdep _ rfl ⟨6, .data⟩ (by simp) rfl
            refine wpOpIn_plain rfl rfl rfl ?_
            exact ⟨mv, M, IB, IR, (fun _ => J6.out rfl), J8, J9, J10, J6, rfl⟩
          · obtain rfl : x8 = false := by simpa using hbi
            obtain rfl : x6 = true := hdep _ rfl ⟨6, .data⟩ (by simp) rfl
            refine wpOpIn_plain rfl rfl rfl ?_
            exact ⟨mv, M, IB, IR, J7, (fun _ => J6.out rfl), J9, J10, J6, rfl⟩
          · obtain rfl : x9 = false := by simpa using hbi
            obtain rfl : x7 = true := hdep _ rfl ⟨7, .data⟩ (by simp) rfl
            refine wpOpIn_plain rfl rfl rfl ?_
            exact ⟨mv, M, IB, IR, J7, J8, (fun _ => J7.out rfl), J10, J6, rfl⟩
          · obtain rfl : x10 = false := by simpa using hbi
            obtain rfl : x8 = true := hdep _ rfl ⟨8, .data⟩ (by simp) rfl
            refine wpOpIn_plain rfl rfl rfl ?_
            exact ⟨mv, M, IB, IR, J7, J8, J9, (fun _ => J8.out rfl), J6, rfl⟩
        case fin =>
        intro listed a' Z hs hall ⟨mv, M, IB, IR, J7, J8, J9, J10, J6, ha⟩
        obtain ⟨ls⟩ := listed
        match ls, hs with
        | [x0, x1, x2, x3, x4, x5, x6, x7, x8, x9, x10], _ =>
        obtain rfl : x0 = true := hall 0 (by simp)
        obtain rfl : x1 = true := hall 1 (by simp)
        obtain rfl : x2 = true := hall 2 (by simp)
        obtain rfl : x3 = true := hall 3 (by simp)
        obtain rfl : x4 = true := hall 4 (by simp)
        obtain rfl : x5 = true := hall 5 (by simp)
        obtain rfl : x6 = true := hall 6 (by simp)
        obtain rfl : x7 = true := hall 7 (by simp)
        obtain rfl : x8 = true := hall 8 (by simp)
        obtain rfl : x9 = true := hall 9 (by simp)
        obtain rfl : x10 = true := hall 10 (by simp)
        subst ha
        have HZ : Hid (Below V.heap.size V Z) := IB
        have HMM := Lib.hid (IR.out rfl)
        clear IB IR J6 J7 J8 J9 J10 hall hs HN27
        dsimp only [Exit.then, Exit.inBlock]
        have HZ0 : Hid (∃ bs, Met n L (j + 1) bs ∧ BAt Z g bs ∧ Below g w2 Z) := by
          obtain ⟨bs, a1, a2, a3⟩ := HN.out
          exact ⟨bs, a1, heapB HZ.out a2, a3.trans (HZ.out.mono (Nat.le_of_lt a2.lt))⟩
        obtain ⟨ma, mk_, rfl, hmi⟩ := HMM.out.1.ints
        have HCT := Lib.hid (contains_any hmi mk_ y)
        rw [show decide (y ∈ M) = true from decide_eq_true HMM.out.2] at HCT
        have z2 := kcell HZ.out z1
        rw [show i = j - 1 by have := HJ.out; omega] at z2
        clear HMM HZ z0 z1 hmi HN HVL HBV HK9
        have HWI := Lib.hid (wrap_small ((j : Int) + 1) (by omega) (by omega))
        have HCS : Hid (((j : Int) + 1) = ((j + 1 : Nat) : Int)) := by show _ = _; rw [Int.natCast_add]; rfl
        have HME : Hid (m - (intOf (.int .i64 ((j : Int) + 1))).toNat < m - (intOf (.int .i64 (j : Int))).toNat) := by show _ < _; simp [intOf]; omega
        go_wp2_with fail
        refine HCT.out.mono ?_
        rintro e wq ⟨rfl, rfl⟩
        clear HCT z2
        go_wp2_with fail
        go_roundw
        case rel => exact ⟨j + 1, by omega, by first | rw [HCS.out] | rw [HWI.out, HCS.out], HZ0⟩
        case measure => first | exact HME.out | (rw [HWI.out]; exact HME.out)
    · clear HR hmt hbt hbl
      have HB2 : Hid (Below w.heap.size w wr) := HB.out.trans (HBL.out.mono HB.out.size)
      clear HBL
      go_wp2_with fail
      refine (HWK.out _).mono ?_
      rintro e w6 ⟨rfl, hb6⟩
      have HB6 := Lib.hid (HB2.out.trans (hb6.mono HB2.out.size))
      clear hb6 HB2
      go_wp2_with fail
      go_ret
      exact ⟨rfl, HB6.out⟩

/-- the law in a torus -/
theorem NetSnake_torus {w : World} {sa : Option Addr} {l : List Int} (h : Ints w sa l) (sc : Nat) (hosts : Int) (hv : vOk 1 l hosts) :
    Calls Try.prog 9 #[.agg #[.int .i64 1, .slice sa l.length sc, .int .i64 hosts]] w fun e w' => e = .returned (.bool true) ∧ Below w.heap.size w w' := by
  obtain ⟨⟨h1, h2⟩, hs⟩ := tOk_sides (torus_v hv)
  have hsw := sw_max hv
  obtain ⟨b1, b2, _⟩ := v_bound hv
  have hpe : swI 1 l = prodI l := rfl
  have hhe : hoI 1 l = prodI l := rfl
  obtain ⟨n, hn⟩ := Int.eq_ofNat_of_zero_le (show 0 ≤ prodI l by omega)
  refine NetSnake_1 h sc hosts hv (L := snL l n) (by rw [snL_len, hhe]; exact hn.symm) (fun x hx => by rw [hhe]; exact snL_in h1 hs (by omega) x hx) (snL_nodup h1 hs (by omega)) (fun W hb => ?_) (fun W hb i hi => ?_)
  · exact Snake1_any (h.keep hb) sc hosts hv (fun V hV => torusSnake_any ((h.keep hb).keep hV) h1 h2 hs n hn (by omega) (by omega) sc)
  · rw [snL_len] at hi
    have e1 : (snL l n)[i + 1]'(by rw [snL_len]; exact hi) = numI l (snC l (i + 1)) := by simp [snL]
    have e0 : (snL l n)[i]'(by rw [snL_len]; omega) = numI l (snC l i) := by simp [snL]
    rw [e1, e0]
    have hx := num_lt (sn_rank h1 hs (i + 1) (by omega)).1
    have hin : inB (swI 1 l) [numI l (snC l (i + 1))] = true := by rw [hpe]; simp [inB]; omega
    have hm : numI l (snC l i) ∈ nbL l (numI l (snC l (i + 1))) := nbL_mem (snL_prev h1 hs (by omega))
    have hl : (nbL l (numI l (snC l (i + 1)))).length ≤ 100000 := by
      have q1 := Lib.compact_length_le (sortL (nbK l (numI l (snC l (i + 1))) l.length))
      rw [sort_len, nbK_len] at q1
      unfold nbL; omega
    refine (Neighbors1_any (h.keep hb) sc hosts (numI l (snC l (i + 1))) hv hin hl (fun V hV => neighbors_any ((h.keep hb).keep hV) h1 h2 hs (by omega) sc _ hx.1 hx.2 _)).mono ?_
    rintro e w' ⟨v, q1, q2, q3⟩
    exact ⟨v, _, q1, q2, hm, q3⟩
/-- NetSnake returns true -/
theorem NetSnake_done {w : World} {sa : Option Addr} {l : List Int} (h : Ints w sa l) (sc : Nat) (kind hosts : Int) :
    Calls Try.prog 9 #[.agg #[.int .i64 kind, .slice sa l.length sc, .int .i64 hosts]] w fun e w' => e = .returned (.bool true) ∧ Below w.heap.size w w' := by
  by_cases hv : vOk kind l hosts
  · rcases v_kind hv with rfl | rfl | rfl
    · exact NetSnake_torus h sc hosts hv
    · exact NetSnake_tree h sc hosts hv
    · exact NetSnake_drag h sc hosts hv
  · exact NetSnake_bad h sc kind hosts hv
end Go.Proofs.Ytbhkenphcahifaa

namespace Go.Proofs.Ytbhkenphcahifaa.netSnake
open Go.ChangeShapes Go.WideShapes Go.ChangeAt Go.RowKit

set_option maxRecDepth 100000 in
theorem lifted (os : Os) (started : os.Started) (H : Type) (enc : TypeId × Value → H) :
    ReturnsInHanded {} Try.checked os 9 .any (Rows.netSnakeSpec.pre6 enc Try.prog Try.f9 Rows.netSnakeRow.domain false) (Rows.netSnakeSpec.post enc Try.prog Try.f9 false true false false) := by
  refine returnsInHanded_of_change_sized (C := Try.checked) own started (by kernel_rfl) Try.func9
    (ChangeSpec.witness6 (enc := enc) (C := Try.checked) false ⟨#[], #[.agg #[.int .i64 0, .slice none 0 0, .int .i64 0]], []⟩ 8 (by kernel_rfl) (by kernel_rfl) (by kernel_rfl) (by kernel_rfl)) ?_
  intro W base args ds gs before hval0 hW hcnd hsz0 _
  have hval : ∀ (j : Nat) t v, Try.f9.params[j]? = some t → args[j]? = some v → Value.okWide Try.prog W .any base t v := hval0
  have hsz : (DataW.weightsEach Try.prog (Try.f9.params.toList ++ Rows.netSnakeSpec.plain.varTypes Try.prog) (ds ++ gs)).all (· ≤ reachBytes) = true := hsz0
  have hW' := hW
  obtain ⟨p, q, hA0, hV, rfl, hfz, hnd⟩ := hW
  have hA : DataW.TrodAll enc Try.prog W 0 (fun _ => true) true Try.f9.params.toList args.toList ds p := hA0
  have hA1 := hA
  rw [Try.params9] at hA hval hsz
  obtain ⟨v0, vs0, d0, ds0, p0, q0, hargs, rfl, rfl, h0, r0⟩ := trodAll_cons hA
  obtain ⟨rfl, rfl, rfl⟩ := trodAll_nil r0
  obtain rfl : args = #[v0] := by cases args; simp_all
  obtain ⟨rfl, rfl⟩ := trodVars_none hV
  obtain ⟨k0, o0, x0, cap0, l0, rfl, hc0, hn0, hI0, hw0, wk0, wo0⟩ := spec_of_trod (hval 0 24 v0 rfl rfl) h0 (j := 0) hsz rfl rfl
  refine (NetSnake_done hI0 cap0 k0 o0).mono fun e W' ⟨he, hb⟩ => ?_
  subst he
  have hlt : ∀ x ∈ (p0 ++ []), x.block < W.heap.size := fun x hx => hW'.lt x (by simpa using hx)
  refine ⟨_, rfl, _, _, _, [], _, [], hW', (trodAll_cons_mk (shut_bool Try.underlying4 _) trodAll_mk0), below_trodAll hb _ ?_ hA1 hlt, rfl, hb.frame _, fun h => by cases h⟩
  rw [Try.params9]
  exact of_decide_eq_true (by kernel_rfl)

theorem over : Rows.netSnakeRow.holds Try.pinned (OpenSpec.ofChange Rows.netSnakeSpec) :=
  OpenClaim.holds_of_wide 9 Try.f9 rfl rfl rfl rfl rfl rfl rfl ⟨rfl, rfl, rfl, rfl, rfl⟩ rfl rfl rfl rfl rfl (by kernel_rfl) Try.func9 (by kernel_rfl)
    (of_decide_eq_true (by kernel_rfl)) (by unfold Func.isWrapper; first | (rw [if_pos (by decide +kernel)]; kernel_rfl) | (rw [if_neg (by decide +kernel)]; exact ⟨rfl, rfl⟩))
    (fun os started H enc _ => lifted os started H enc)
end Go.Proofs.Ytbhkenphcahifaa.netSnake

namespace Go.Proofs.Ytbhkenphcahifaa
/-- the statement -/
theorem netSnake_holds : Rows.NetSnakeSaid := netSnake.over
end Go.Proofs.Ytbhkenphcahifaa
