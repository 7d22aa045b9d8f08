import Derived.Test.YtbhkenphcahifaaGreatSB
import Derived.Test.YtbhkenphcahifaaGreatNS
import Derived.Test.YtbhkenphcahifaaGreatSC
import Derived.Test.YtbhkenphcahifaaGreatNQ
import Derived.Test.YtbhkenphcahifaaGreatOC
namespace Go.Proofs.YtbhkenphcahifaaGreat
open Go.RowKit Go.Shelf
attribute [local go_sem] Oper.semAt_some
set_option maxRecDepth 100000
set_option maxHeartbeats 4000000

theorem own_lower7 {w : World} {lo lo' e k n : Nat} {v : Value} {xs : List Value} (h : w.ownsRow lo e k v n xs) (hl : lo' ≤ lo) : w.ownsRow lo' e k v n xs := by
  refine ⟨h.1, ?_⟩
  rcases h.2 with h2 | ⟨g, cap, cur, h1, h3, h4⟩
  · exact .inl h2
  · exact .inr ⟨g, cap, cur, h1, Nat.le_trans hl h3, h4⟩
theorem m_snake1 (sa : Option Addr) (n sc : Nat) (m : Int) (w : World) : (method 330 138 (.agg #[.slice sa n sc, .int .i64 m]) "armada/net.snake").run Tryz.prog w = .ok (145, .agg #[.slice sa n sc, .int .i64 m]) w := by kernel_rfl
theorem m_snake2 (a b c : Int) (w : World) : (method 330 142 (.agg #[.int .i64 a, .int .i64 b, .int .i64 c]) "armada/net.snake").run Tryz.prog w = .ok (186, .agg #[.int .i64 a, .int .i64 b, .int .i64 c]) w := by kernel_rfl
theorem m_snake3 (a b c : Int) (w : World) : (method 330 146 (.agg #[.int .i64 a, .int .i64 b, .int .i64 c]) "armada/net.snake").run Tryz.prog w = .ok (200, .agg #[.int .i64 a, .int .i64 b, .int .i64 c]) w := by kernel_rfl
theorem treeSnake_any (a b : Int) (n : Nat) (hn : n ≤ 1000000) (w : World) : Calls Tryz.prog 186 #[.agg #[.int .i64 a, .int .i64 b, .int .i64 (n : Int)]] w fun e w' => ∃ v, e = .returned v ∧ NewInts w.heap.size w' v (ascI n n) ∧ Below w.heap.size w w' := by
  have HB := Lib.hid ((Below.refl w.heap.size w).alloc (Nat.le_refl _) (.cells #[.int .i64 a, .int .i64 b, .int .i64 (n : Int)] 142))
  have q0 := heap_alloc_new w (.cells #[.int .i64 a, .int .i64 b, .int .i64 (n : Int)] 142)
  have c2 := cellR 2 q0 rfl
  have HA := Lib.hid (fun W => ascending_any n hn W)
  have hsz : w.heap.size ≤ (w.alloc (.cells #[.int .i64 a, .int .i64 b, .int .i64 (n : Int)] 142)).heap.size := by simp
  clear q0
  go_enter Tryz.func186, Tryz.ntmps186
  go_wp2_with fail
  generalize w.alloc (.cells #[.int .i64 a, .int .i64 b, .int .i64 (n : Int)] 142) = X at *
  refine (HA.out _).mono ?_
  rintro e w1 ⟨v, rfl, hv, hb⟩
  have HR : Hid (NewInts w.heap.size w1 v (ascI n n) ∧ Below w.heap.size w w1) := ⟨⟨own_lower7 hv.own hsz, hv.len⟩, HB.out.trans (hb.mono hsz)⟩
  clear HA hv hb c2 HB
  go_wp2_with fail
  go_ret
  exact ⟨_, rfl, HR.out.1, HR.out.2⟩
theorem dragSnake_any (a b c : Int) (n : Nat) (hn : n ≤ 1000000) (hac : a * c = (n : Int)) (w : World) : Calls Tryz.prog 200 #[.agg #[.int .i64 a, .int .i64 b, .int .i64 c]] w fun e w' => ∃ v, e = .returned v ∧ NewInts w.heap.size w' v (ascI n n) ∧ Below w.heap.size w w' := by
  have HB := Lib.hid ((Below.refl w.heap.size w).alloc (Nat.le_refl _) (.cells #[.int .i64 a, .int .i64 b, .int .i64 c] 146))
  have q0 := heap_alloc_new w (.cells #[.int .i64 a, .int .i64 b, .int .i64 c] 146)
  have c0 := cellR 0 q0 rfl
  have c2 := cellR 2 q0 rfl
  have HA := Lib.hid (fun W => ascending_any n hn W)
  have hw : wrap64 (a * c) = (n : Int) := by rw [hac]; exact wrap_small _ (by omega) (by omega)
  have hsz : w.heap.size ≤ (w.alloc (.cells #[.int .i64 a, .int .i64 b, .int .i64 c] 146)).heap.size := by simp
  clear q0 hac
  go_enter Tryz.func200, Tryz.ntmps200
  go_wp2_with fail
  generalize w.alloc (.cells #[.int .i64 a, .int .i64 b, .int .i64 c] 146) = X at *
  refine (HA.out _).mono ?_
  rintro e w1 ⟨v, rfl, hv, hb⟩
  have HR : Hid (NewInts w.heap.size w1 v (ascI n n) ∧ Below w.heap.size w w1) := ⟨⟨own_lower7 hv.own hsz, hv.len⟩, HB.out.trans (hb.mono hsz)⟩
  clear HA hv hb c0 c2 HB hw
  go_wp2_with fail
  go_ret
  exact ⟨_, rfl, HR.out.1, HR.out.2⟩

/-- Snake over any maker of the kind's snake -/
theorem Snake1_any {w : World} {sa : Option Addr} {l : List Int} (h : Ints w sa l) (sc : Nat) (hosts : Int) (hv : vOk 1 l hosts) {L : List Int}
    (hS : ∀ W, Below w.heap.size w W → Calls Tryz.prog 145 #[.agg #[.slice sa l.length sc, .int .i64 (prodI l)]] W fun e w' => ∃ v, e = .returned v ∧ NewInts W.heap.size w' v L ∧ Below W.heap.size W w') :
    Calls Tryz.prog 20 #[.agg #[.int .i64 1, .slice sa l.length sc, .int .i64 hosts]] w fun e w' => ∃ v, e = .returned (.tuple #[v, .int .i64 0]) ∧ NewInts w.heap.size w' v L ∧ Below w.heap.size w w' := by
  have HO : Hid (∀ W, Below w.heap.size w W → Calls Tryz.prog 47 #[.agg #[.int .i64 1, .slice sa l.length sc, .int .i64 hosts]] W fun e w' => Below W.heap.size W w' ∧ ((vOk 1 l hosts ∧ e = .returned (.tuple #[netV 1 sa sc l, .int .i64 0])) ∨ (¬ vOk 1 l hosts ∧ e = .returned (.tuple #[.nilIface, .int .i64 2])))) := fun W hb => networkOf_any (h.keep hb) sc 1 hosts
  have HSS := Lib.hid hS
  have hm := m_snake1 sa l.length sc (prodI l)
  have HNV : Hid (netV 1 sa sc l = .iface 138 (.agg #[.slice sa l.length sc, .int .i64 (prodI l)])) := rfl
  have HB := Lib.hid ((Below.refl w.heap.size w).alloc (Nat.le_refl _) (.cells #[.int .i64 1, .slice sa l.length sc, .int .i64 hosts] 24))
  have q0 := heap_alloc_new w (.cells #[.int .i64 1, .slice sa l.length sc, .int .i64 hosts] 24)
  have c0 := cellR 0 q0 rfl
  have c1 := cellR 1 q0 rfl
  have c2 := cellR 2 q0 rfl
  clear h q0 hS
  go_enter Tryz.func20, Tryz.ntmps20
  go_wp2_with fail
  generalize w.alloc (.cells #[.int .i64 1, .slice sa l.length sc, .int .i64 hosts] 24) = X at *
  refine (HO.out _ HB.out).mono ?_
  rintro e w1 ⟨hb1, ⟨hn, rfl⟩ | ⟨hn, rfl⟩⟩
  · have HB1 := Lib.hid (HB.out.trans (hb1.mono HB.out.size))
    rw [HNV.out]
    have HS1 := Lib.hid (HSS.out _ HB1.out)
    clear c0 c1 c2 HB hb1 HO hn HNV HSS
    go_wp2_with fail
    refine HS1.out.mono ?_
    rintro e w2 ⟨v, rfl, hv2, hb2⟩
    have HR : Hid (NewInts w.heap.size w2 v L ∧ Below w.heap.size w w2) := ⟨⟨own_lower7 hv2.own HB1.out.size, hv2.len⟩, HB1.out.trans (hb2.mono HB1.out.size)⟩
    clear HS1 hv2 hb2 HB1
    go_wp2_with fail
    exact bodyPost_ret (v := .tuple #[v, .int .i64 0]) (by simp [results, Tryz.results20]) rfl ⟨v, rfl, HR.out.1, HR.out.2⟩
  · exact absurd hv hn
theorem Snake2_any {w : World} {sa : Option Addr} {l : List Int} (h : Ints w sa l) (sc : Nat) (hosts : Int) (hv : vOk 2 l hosts) {L : List Int}
    (hS : ∀ W, Below w.heap.size w W → Calls Tryz.prog 186 #[.agg #[.int .i64 (l.getD 0 0), .int .i64 (l.getD 1 0), .int .i64 (wordsI l)]] W fun e w' => ∃ v, e = .returned v ∧ NewInts W.heap.size w' v L ∧ Below W.heap.size W w') :
    Calls Tryz.prog 20 #[.agg #[.int .i64 2, .slice sa l.length sc, .int .i64 hosts]] w fun e w' => ∃ v, e = .returned (.tuple #[v, .int .i64 0]) ∧ NewInts w.heap.size w' v L ∧ Below w.heap.size w w' := by
  have HO : Hid (∀ W, Below w.heap.size w W → Calls Tryz.prog 47 #[.agg #[.int .i64 2, .slice sa l.length sc, .int .i64 hosts]] W fun e w' => Below W.heap.size W w' ∧ ((vOk 2 l hosts ∧ e = .returned (.tuple #[netV 2 sa sc l, .int .i64 0])) ∨ (¬ vOk 2 l hosts ∧ e = .returned (.tuple #[.nilIface, .int .i64 2])))) := fun W hb => networkOf_any (h.keep hb) sc 2 hosts
  have HSS := Lib.hid hS
  have hm := m_snake2 (l.getD 0 0) (l.getD 1 0) (wordsI l)
  have HNV : Hid (netV 2 sa sc l = .iface 142 (.agg #[.int .i64 (l.getD 0 0), .int .i64 (l.getD 1 0), .int .i64 (wordsI l)])) := rfl
  have HB := Lib.hid ((Below.refl w.heap.size w).alloc (Nat.le_refl _) (.cells #[.int .i64 2, .slice sa l.length sc, .int .i64 hosts] 24))
  have q0 := heap_alloc_new w (.cells #[.int .i64 2, .slice sa l.length sc, .int .i64 hosts] 24)
  have c0 := cellR 0 q0 rfl
  have c1 := cellR 1 q0 rfl
  have c2 := cellR 2 q0 rfl
  clear h q0 hS
  go_enter Tryz.func20, Tryz.ntmps20
  go_wp2_with fail
  generalize w.alloc (.cells #[.int .i64 2, .slice sa l.length sc, .int .i64 hosts] 24) = X at *
  refine (HO.out _ HB.out).mono ?_
  rintro e w1 ⟨hb1, ⟨hn, rfl⟩ | ⟨hn, rfl⟩⟩
  · have HB1 := Lib.hid (HB.out.trans (hb1.mono HB.out.size))
    rw [HNV.out]
    have HS1 := Lib.hid (HSS.out _ HB1.out)
    clear c0 c1 c2 HB hb1 HO hn HNV HSS
    go_wp2_with fail
    refine HS1.out.mono ?_
    rintro e w2 ⟨v, rfl, hv2, hb2⟩
    have HR : Hid (NewInts w.heap.size w2 v L ∧ Below w.heap.size w w2) := ⟨⟨own_lower7 hv2.own HB1.out.size, hv2.len⟩, HB1.out.trans (hb2.mono HB1.out.size)⟩
    clear HS1 hv2 hb2 HB1
    go_wp2_with fail
    exact bodyPost_ret (v := .tuple #[v, .int .i64 0]) (by simp [results, Tryz.results20]) rfl ⟨v, rfl, HR.out.1, HR.out.2⟩
  · exact absurd hv hn
theorem Snake3_any {w : World} {sa : Option Addr} {l : List Int} (h : Ints w sa l) (sc : Nat) (hosts : Int) (hv : vOk 3 l hosts) {L : List Int}
    (hS : ∀ W, Below w.heap.size w W → Calls Tryz.prog 200 #[.agg #[.int .i64 (l.getD 0 0), .int .i64 (l.getD 1 0), .int .i64 (l.getD 0 0 * l.getD 1 0 + 1)]] W fun e w' => ∃ v, e = .returned v ∧ NewInts W.heap.size w' v L ∧ Below W.heap.size W w') :
    Calls Tryz.prog 20 #[.agg #[.int .i64 3, .slice sa l.length sc, .int .i64 hosts]] w fun e w' => ∃ v, e = .returned (.tuple #[v, .int .i64 0]) ∧ NewInts w.heap.size w' v L ∧ Below w.heap.size w w' := by
  have HO : Hid (∀ W, Below w.heap.size w W → Calls Tryz.prog 47 #[.agg #[.int .i64 3, .slice sa l.length sc, .int .i64 hosts]] W fun e w' => Below W.heap.size W w' ∧ ((vOk 3 l hosts ∧ e = .returned (.tuple #[netV 3 sa sc l, .int .i64 0])) ∨ (¬ vOk 3 l hosts ∧ e = .returned (.tuple #[.nilIface, .int .i64 2])))) := fun W hb => networkOf_any (h.keep hb) sc 3 hosts
  have HSS := Lib.hid hS
  have hm := m_snake3 (l.getD 0 0) (l.getD 1 0) (l.getD 0 0 * l.getD 1 0 + 1)
  have HNV : Hid (netV 3 sa sc l = .iface 146 (.agg #[.int .i64 (l.getD 0 0), .int .i64 (l.getD 1 0), .int .i64 (l.getD 0 0 * l.getD 1 0 + 1)])) := rfl
  have HB := Lib.hid ((Below.refl w.heap.size w).alloc (Nat.le_refl _) (.cells #[.int .i64 3, .slice sa l.length sc, .int .i64 hosts] 24))
  have q0 := heap_alloc_new w (.cells #[.int .i64 3, .slice sa l.length sc, .int .i64 hosts] 24)
  have c0 := cellR 0 q0 rfl
  have c1 := cellR 1 q0 rfl
  have c2 := cellR 2 q0 rfl
  clear h q0 hS
  go_enter Tryz.func20, Tryz.ntmps20
  go_wp2_with fail
  generalize w.alloc (.cells #[.int .i64 3, .slice sa l.length sc, .int .i64 hosts] 24) = X at *
  refine (HO.out _ HB.out).mono ?_
  rintro e w1 ⟨hb1, ⟨hn, rfl⟩ | ⟨hn, rfl⟩⟩
  · have HB1 := Lib.hid (HB.out.trans (hb1.mono HB.out.size))
    rw [HNV.out]
    have HS1 := Lib.hid (HSS.out _ HB1.out)
    clear c0 c1 c2 HB hb1 HO hn HNV HSS
    go_wp2_with fail
    refine HS1.out.mono ?_
    rintro e w2 ⟨v, rfl, hv2, hb2⟩
    have HR : Hid (NewInts w.heap.size w2 v L ∧ Below w.heap.size w w2) := ⟨⟨own_lower7 hv2.own HB1.out.size, hv2.len⟩, HB1.out.trans (hb2.mono HB1.out.size)⟩
    clear HS1 hv2 hb2 HB1
    go_wp2_with fail
    exact bodyPost_ret (v := .tuple #[v, .int .i64 0]) (by simp [results, Tryz.results20]) rfl ⟨v, rfl, HR.out.1, HR.out.2⟩
  · exact absurd hv hn
end Go.Proofs.YtbhkenphcahifaaGreat

namespace Go.Proofs.YtbhkenphcahifaaGreat
open Go.RowKit Go.Shelf
attribute [local go_sem] Oper.semAt_some
set_option maxRecDepth 100000
set_option maxHeartbeats 4000000

/-- no valid network has more than 256 switches -/
theorem sw_max {kind : Int} {l : List Int} {hosts : Int} (hv : vOk kind l hosts) : swI kind l ≤ 256 := by
  rcases hv with ⟨rfl, h⟩ | ⟨rfl, h⟩ | ⟨rfl, h⟩
  · exact h.2.2.2
  · obtain ⟨_, h1, h2, h3, _⟩ := h
    show l.getD 1 0 * wordsI l ≤ 256
    have hw : wordsI l = (((l.getD 0 0).toNat ^ ((l.getD 1 0).toNat - 1) : Nat) : Int) := rfl
    rw [hw]
    generalize l.getD 0 0 = A at *
    generalize l.getD 1 0 = C at *
    obtain ⟨k, rfl⟩ := Int.eq_ofNat_of_zero_le (show 0 ≤ A by omega)
    obtain ⟨n, rfl⟩ := Int.eq_ofNat_of_zero_le (show 0 ≤ C by omega)
    simp only [Int.toNat_natCast] at h3 ⊢
    have hn : n = 1 ∨ n = 2 ∨ n = 3 ∨ n = 4 := by omega
    have hk : k = 2 ∨ k = 3 ∨ k = 4 ∨ k = 5 ∨ k = 6 ∨ k = 7 ∨ k = 8 := by omega
    rcases hn with rfl | rfl | rfl | rfl <;> rcases hk with rfl | rfl | rfl | rfl | rfl | rfl | rfl <;> first | decide | (exfalso; revert h3; decide)
  · exact h.2.2.2.2
theorem Snake_bad {w : World} {sa : Option Addr} {l : List Int} (h : Ints w sa l) (sc : Nat) (kind hosts : Int) (hv : ¬ vOk kind l hosts) :
    Calls Tryz.prog 20 #[.agg #[.int .i64 kind, .slice sa l.length sc, .int .i64 hosts]] w fun e w' => e = .returned (.tuple #[.slice none 0 0, .int .i64 2]) ∧ Below w.heap.size w w' := by
  have HO : Hid (∀ W, Below w.heap.size w W → Calls Tryz.prog 47 #[.agg #[.int .i64 kind, .slice sa l.length sc, .int .i64 hosts]] W fun e w' => Below W.heap.size W w' ∧ ((vOk kind l hosts ∧ e = .returned (.tuple #[netV kind sa sc l, .int .i64 0])) ∨ (¬ vOk kind l hosts ∧ e = .returned (.tuple #[.nilIface, .int .i64 2])))) := fun W hb => networkOf_any (h.keep hb) sc kind hosts
  have HB := Lib.hid ((Below.refl w.heap.size w).alloc (Nat.le_refl _) (.cells #[.int .i64 kind, .slice sa l.length sc, .int .i64 hosts] 24))
  have q0 := heap_alloc_new w (.cells #[.int .i64 kind, .slice sa l.length sc, .int .i64 hosts] 24)
  have c0 := cellR 0 q0 rfl
  have c1 := cellR 1 q0 rfl
  have c2 := cellR 2 q0 rfl
  clear h q0
  go_enter Tryz.func20, Tryz.ntmps20
  go_wp2_with fail
  generalize w.alloc (.cells #[.int .i64 kind, .slice sa l.length sc, .int .i64 hosts] 24) = X at *
  refine (HO.out _ HB.out).mono ?_
  rintro e w1 ⟨hb1, ⟨hn, rfl⟩ | ⟨hn, rfl⟩⟩
  · exact absurd hn hv
  · have HB1 := Lib.hid (HB.out.trans (hb1.mono HB.out.size))
    clear c0 c1 c2 HB hb1 HO hn
    go_wp2_with fail
    exact bodyPost_ret (v := .tuple #[.slice none 0 0, .int .i64 2]) (by simp [results, Tryz.results20]) rfl ⟨rfl, HB1.out⟩

/-- which homes were met in the first places -/
def Met (n : Nat) (L : List Int) (i : Nat) (bs : List Bool) : Prop := bs.length = n ∧ ∀ j : Nat, j < n → bs.getD j true = decide ((j : Int) ∈ L.take i)
theorem met_zero (n : Nat) (L : List Int) : Met n L 0 (List.replicate n false) := ⟨by simp, fun j hj => by simp [List.getD, hj]⟩
theorem met_next {n : Nat} {L : List Int} {i : Nat} {bs : List Bool} (h : Met n L i bs) (hi : i < L.length) {m : Nat} (hm : L[i] = (m : Int)) (hmn : m < n) : Met n L (i + 1) (bs.set m true) := by
  refine ⟨by rw [List.length_set]; exact h.1, fun j hj => ?_⟩
  rw [List.take_succ_eq_append_getElem hi]
  by_cases hjm : m = j
  · subst hjm
    rw [getD_set_same _ _ _ _ (by rw [h.1]; exact hmn)]
    symm; rw [decide_eq_true_iff]; simp [hm]
  · rw [getD_set_other _ _ _ _ _ hjm, h.2 j hj]
    have : ((j : Int) ∈ L.take i ++ [L[i]]) = ((j : Int) ∈ L.take i) := by
      rw [hm]; simp; intro e; omega
    simp only [this]
theorem met_not {n : Nat} {L : List Int} {i : Nat} {bs : List Bool} (h : Met n L i bs) (hL : L.Nodup) (hi : i < L.length) {m : Nat} (hm : L[i] = (m : Int)) (hmn : m < n) : bs.getD m true = false := by
  rw [h.2 m hmn, decide_eq_false_iff_not, ← hm]
  intro e
  obtain ⟨k, hk, he⟩ := List.getElem_of_mem e
  simp at hk
  have h2 : L[k]'(by omega) = L[i] := by rw [← he]; simp
  have := (List.getElem_inj hL).1 h2
  omega
end Go.Proofs.YtbhkenphcahifaaGreat

namespace Go.Proofs.YtbhkenphcahifaaGreat
open Go.RowKit Go.Shelf
attribute [local go_sem] Oper.semAt_some
set_option maxRecDepth 100000
set_option maxHeartbeats 4000000

theorem asc_nodup (n : Nat) : (ascI n n).Nodup := by
  unfold ascI
  refine List.pairwise_map.2 ((List.nodup_range (n := n)).imp_of_mem ?_)
  intro a b ha hb hne
  rw [if_pos (by simpa using ha), if_pos (by simpa using hb)]
  omega
end Go.Proofs.YtbhkenphcahifaaGreat

namespace Go.Proofs.YtbhkenphcahifaaGreat
open Go.RowKit Go.Shelf
set_option maxRecDepth 100000
set_option maxHeartbeats 4000000

/-- the direction in which a coordinate moves -/
def dirB (c : List Int) (i : Nat) : Int := if evenB c i = true then 1 else -1
theorem dir_within {l c : List Int} (hc : InT l c) {i : Nat} (hi : i < l.length) : (0 ≤ c.getD i 0 + dirB c i ∧ c.getD i 0 + dirB c i ≤ l.getD i 0 - 1) ↔ dgI l c i < l.getD i 0 - 1 := by
  obtain ⟨h0, h1⟩ := hc.2 i hi
  unfold dirB dgI
  split <;> omega
theorem dir_next {c : List Int} {i : Nat} (hi : i < c.length) (j : Nat) : dirB (nextC c i) j = if i < j then - dirB c j else dirB c j := by
  unfold dirB nextC
  by_cases h : i < j
  · have hv : c.getD i 0 + (if evenB c i = true then 1 else -1) = c.getD i 0 + 1 ∨ c.getD i 0 + (if evenB c i = true then 1 else -1) = c.getD i 0 - 1 := by
      split
      · exact .inl rfl
      · exact .inr (by omega)
    rw [if_pos h, even_set_gt hi hv j h]
    cases evenB c j <;> simp
  · rw [if_neg h, even_set_le j (by omega)]
/-- the last dimension that can be changed -/
def ldS (l c : List Int) : Nat → Nat
  | 0 => 0
  | m + 1 => if dgI l c m < l.getD m 0 - 1 then m else ldS l c m
theorem ld_eq {l c : List Int} {i : Nat} : ∀ m, i < m → dgI l c i < l.getD i 0 - 1 → (∀ j, i < j → j < m → dgI l c j = l.getD j 0 - 1) → ldS l c m = i
  | 0, h, _, _ => by omega
  | m + 1, h, hd, he => by
    rw [ldS]
    by_cases hm : i = m
    · subst hm; rw [if_pos hd]
    · rw [if_neg (by have := he m (by omega) (by omega); omega)]
      exact ld_eq m (by omega) hd (fun j h1 h2 => he j h1 (by omega))
theorem ld_spec {l c : List Int} (hc : InT l c) : ∀ m, m ≤ l.length → (∀ j, j < m → dgI l c j = l.getD j 0 - 1) ∨ (ldS l c m < m ∧ dgI l c (ldS l c m) < l.getD (ldS l c m) 0 - 1 ∧ ∀ j, ldS l c m < j → j < m → dgI l c j = l.getD j 0 - 1)
  | 0, _ => .inl fun j h => by omega
  | m + 1, hm => by
    rw [ldS]
    split
    · rename_i h
      exact .inr ⟨by omega, h, fun j h1 h2 => by omega⟩
    · rename_i h
      have hd := dg_in hc (show m < l.length by omega)
      rcases ld_spec hc m (by omega) with h1 | ⟨h1, h2, h3⟩
      · refine .inl fun j hj => ?_
        by_cases hjm : j = m
        · subst hjm; omega
        · exact h1 j (by omega)
      · refine .inr ⟨by omega, h2, fun j k1 k2 => ?_⟩
        by_cases hjm : j = m
        · subst hjm; omega
        · exact h3 j k1 (by omega)
/-- the coordinates of the switches of the snake -/
def snC (l : List Int) : Nat → List Int
  | 0 => List.replicate l.length 0
  | k + 1 => nextC (snC l k) (ldS l (snC l k) l.length)
theorem even_zero (n : Nat) : ∀ i, evenB (List.replicate n 0) i = true
  | 0 => rfl
  | i + 1 => by
    rw [evenB, even_zero n i]
    have : (List.replicate n (0 : Int)).getD i 0 = 0 := by
      by_cases h : i < n
      · simp [List.getD, h]
      · simp [List.getD, h]
    rw [this]; rfl
theorem getD_zeros (n i : Nat) : (List.replicate n (0 : Int)).getD i 0 = 0 := by
  by_cases h : i < n
  · simp [List.getD, h]
  · simp [List.getD, h]
theorem sn_zero {l : List Int} (hb : ∀ i, i < l.length → 2 ≤ l.getD i 0 ∧ l.getD i 0 ≤ 16) : InT l (snC l 0) ∧ ∀ k, rkS l (snC l 0) k = 0 := by
  refine ⟨⟨by simp [snC], fun i hi => ?_⟩, fun k => ?_⟩
  · have := hb i hi
    rw [snC, getD_zeros]; omega
  · induction k with
    | zero => rfl
    | succ k ih => rw [rkS, ih, snC, dgI, even_zero, if_pos rfl, getD_zeros]; simp
theorem sn_rank {l : List Int} (hl : 1 ≤ l.length) (hb : ∀ i, i < l.length → 2 ≤ l.getD i 0 ∧ l.getD i 0 ≤ 16) : ∀ k : Nat, (k : Int) < prodI l → InT l (snC l k) ∧ rkS l (snC l k) l.length = k
  | 0, _ => ⟨(sn_zero hb).1, (sn_zero hb).2 _⟩
  | k + 1, hk => by
    obtain ⟨h1, h2⟩ := sn_rank hl hb k (by omega)
    rcases ld_spec h1 l.length (Nat.le_refl _) with h | ⟨a1, a2, a3⟩
    · have := rk_last (l := l) (c := snC l k) ⟨fun j h1 h2 => h j h2, fun h0 => h 0 h0⟩
      omega
    · have := rk_next h1 a1 a2 (fun j h1 h2 => a3 j h1 h2)
      rw [snC]
      exact ⟨this.1, by rw [this.2, h2]; simp⟩
/-- at a switch that is not the last one some dimension can be changed -/
theorem sn_dim {l : List Int} (hl : 1 ≤ l.length) (hb : ∀ i, i < l.length → 2 ≤ l.getD i 0 ∧ l.getD i 0 ≤ 16) {k : Nat} (hk : (k : Int) + 1 < prodI l) : ldS l (snC l k) l.length < l.length ∧ dgI l (snC l k) (ldS l (snC l k) l.length) < l.getD (ldS l (snC l k) l.length) 0 - 1 := by
  obtain ⟨h1, h2⟩ := sn_rank hl hb k (by omega)
  rcases ld_spec h1 l.length (Nat.le_refl _) with h | ⟨a1, a2, a3⟩
  · have := rk_last (l := l) (c := snC l k) ⟨fun j h1 h2 => h j h2, fun h0 => h 0 h0⟩
    omega
  · exact ⟨a1, a2⟩
/-- the snake -/
def snL (l : List Int) (n : Nat) : List Int := (List.range n).map fun k => numI l (snC l k)
theorem snL_len (l : List Int) (n : Nat) : (snL l n).length = n := by simp [snL]
theorem snL_succ (l : List Int) (n : Nat) : snL l (n + 1) = snL l n ++ [numI l (snC l n)] := by unfold snL; rw [List.range_succ, List.map_append]; rfl
theorem numK_lt {l a : List Int} (ha : ∀ i, i < l.length → 0 ≤ a.getD i 0 ∧ a.getD i 0 < l.getD i 0) : ∀ k, k ≤ l.length → 0 ≤ numK l a k ∧ numK l a k + 1 ≤ prodI (l.take k) := by
  intro k
  induction k with
  | zero => intro _; exact ⟨Int.le_refl _, by simp [numK, prodI]⟩
  | succ k ih =>
    intro hk
    obtain ⟨i1, i2⟩ := ih (by omega)
    obtain ⟨d0, d1⟩ := ha k (by omega)
    rw [List.take_succ_eq_append_getElem (by omega), prodI_snoc, numK]
    rw [show l[k] = l.getD k 0 by simp [List.getD, show k < l.length by omega]]
    have h0 : 0 ≤ numK l a k * l.getD k 0 := Int.mul_nonneg i1 (by omega)
    have h1 : (numK l a k + 1) * l.getD k 0 ≤ prodI (l.take k) * l.getD k 0 := Int.mul_le_mul_of_nonneg_right i2 (by omega)
    rw [Int.add_mul] at h1
    omega
theorem num_lt {l c : List Int} (hc : InT l c) : 0 ≤ numI l c ∧ numI l c < prodI l := by
  have := numK_lt hc.2 l.length (Nat.le_refl _)
  rw [List.take_length] at this
  unfold numI; omega
theorem num_inj {l c d : List Int} (hc : InT l c) (hd : InT l d) (h : numI l c = numI l d) : c = d := by rw [← coords_num hc, ← coords_num hd, h]
theorem snL_nodup {l : List Int} (hl : 1 ≤ l.length) (hb : ∀ i, i < l.length → 2 ≤ l.getD i 0 ∧ l.getD i 0 ≤ 16) {n : Nat} (hn : (n : Int) ≤ prodI l) : (snL l n).Nodup := by
  unfold snL
  refine List.pairwise_map.2 ((List.nodup_range (n := n)).imp_of_mem ?_)
  intro a b ha hb' hne h
  have h1 := List.mem_range.1 ha
  have h2 := List.mem_range.1 hb'
  obtain ⟨a1, a2⟩ := sn_rank hl hb a (by omega)
  obtain ⟨b1, b2⟩ := sn_rank hl hb b (by omega)
  have := num_inj a1 b1 h
  rw [this] at a2
  omega
theorem snL_in {l : List Int} (hl : 1 ≤ l.length) (hb : ∀ i, i < l.length → 2 ≤ l.getD i 0 ∧ l.getD i 0 ≤ 16) {n : Nat} (hn : (n : Int) ≤ prodI l) : ∀ x ∈ snL l n, 0 ≤ x ∧ x < prodI l := by
  intro x hx
  unfold snL at hx
  obtain ⟨k, hk, rfl⟩ := List.mem_map.1 hx
  have := List.mem_range.1 hk
  exact num_lt (sn_rank hl hb k (by omega)).1

/-- a digit of a number -/
theorem prodI_cons (x : Int) (l : List Int) : prodI (x :: l) = x * prodI l := by
  unfold prodI
  have key : ∀ (l : List Int) (a b : Int), l.foldl (· * ·) (a * b) = a * l.foldl (· * ·) b := by
    intro l
    induction l with
    | nil => intro a b; rfl
    | cons y l ih => intro a b; rw [List.foldl_cons, List.foldl_cons, Int.mul_assoc, ih]
  rw [List.foldl_cons, Int.one_mul]
  have := key l x 1
  rw [Int.mul_one] at this
  exact this
/-- how far apart the switches are whose coordinates differ by 1 -/
def strI (l : List Int) (i : Nat) : Int := prodI (l.drop (i + 1))
theorem str_step {l : List Int} {i : Nat} (hi : i < l.length) : prodI (l.drop i) = l.getD i 0 * strI l i := by
  rw [List.drop_eq_getElem_cons hi, prodI_cons, strI]
  congr 1
  simp [List.getD, hi]
theorem prod_pos {l : List Int} (hb : ∀ i, i < l.length → 2 ≤ l.getD i 0 ∧ l.getD i 0 ≤ 16) : ∀ m, m ≤ l.length → 1 ≤ prodI (l.drop (l.length - m)) := by
  intro m
  induction m with
  | zero => intro _; simp [prodI]
  | succ m ih =>
    intro hm
    have h := str_step (l := l) (i := l.length - (m + 1)) (by omega)
    have h2 := hb (l.length - (m + 1)) (by omega)
    rw [strI, show l.length - (m + 1) + 1 = l.length - m by omega] at h
    rw [h]
    have := ih (by omega)
    have : 1 * 1 ≤ l.getD (l.length - (m + 1)) 0 * prodI (l.drop (l.length - m)) := Int.mul_le_mul (by omega) this (by omega) (by omega)
    omega
theorem drop_pos {l : List Int} (hb : ∀ i, i < l.length → 2 ≤ l.getD i 0 ∧ l.getD i 0 ≤ 16) (i : Nat) (hi : i ≤ l.length) : 1 ≤ prodI (l.drop i) := by
  have := prod_pos hb (l.length - i) (by omega)
  rwa [show l.length - (l.length - i) = i by omega] at this
/-- what the coordinates behind a dimension add -/
def rstK (l c : List Int) (i : Nat) : Nat → Int
  | 0 => 0
  | m + 1 => rstK l c i m * l.getD (i + m) 0 + c.getD (i + m) 0
def prdK (l : List Int) (i : Nat) : Nat → Int
  | 0 => 1
  | m + 1 => prdK l i m * l.getD (i + m) 0
theorem numK_split (l c : List Int) (i : Nat) : ∀ m, numK l c (i + m) = numK l c i * prdK l i m + rstK l c i m
  | 0 => by simp [prdK, rstK]
  | m + 1 => by
    rw [← Nat.add_assoc, numK, numK_split l c i m, prdK, rstK, Int.add_mul, Int.mul_assoc, Int.add_assoc]
theorem prdK_eq (l : List Int) (i : Nat) : ∀ m, i + m ≤ l.length → prdK l i m = prodI ((l.drop i).take m)
  | 0, _ => by simp [prdK, prodI]
  | m + 1, h => by
    have hm : m < (l.drop i).length := by simp; omega
    rw [prdK, prdK_eq l i m (by omega), List.take_succ_eq_append_getElem hm, prodI_snoc]
    congr 1
    simp [List.getD, show i + m < l.length by omega]
theorem prdK_all (l : List Int) (i : Nat) (hi : i ≤ l.length) : prdK l i (l.length - i) = prodI (l.drop i) := by
  rw [prdK_eq l i _ (by omega)]
  congr 1
  exact List.take_of_length_le (by simp)
theorem rst_in {l c : List Int} (hc : InT l c) (i : Nat) : ∀ m, i + m ≤ l.length → 0 ≤ rstK l c i m ∧ rstK l c i m + 1 ≤ prdK l i m
  | 0, _ => ⟨Int.le_refl _, Int.le_refl _⟩
  | m + 1, h => by
    obtain ⟨i1, i2⟩ := rst_in hc i m (by omega)
    obtain ⟨d0, d1⟩ := hc.2 (i + m) (by omega)
    rw [rstK, prdK]
    have h0 : 0 ≤ rstK l c i m * l.getD (i + m) 0 := Int.mul_nonneg i1 (by omega)
    have h1 : (rstK l c i m + 1) * l.getD (i + m) 0 ≤ prdK l i m * l.getD (i + m) 0 := Int.mul_le_mul_of_nonneg_right i2 (by omega)
    rw [Int.add_mul] at h1
    omega
theorem num_split {l c : List Int} {i : Nat} (hi : i < l.length) : numI l c = (numK l c i * l.getD i 0 + c.getD i 0) * strI l i + rstK l c (i + 1) (l.length - (i + 1)) := by
  have := numK_split l c (i + 1) (l.length - (i + 1))
  rw [prdK_all l (i + 1) (by omega), show i + 1 + (l.length - (i + 1)) = l.length by omega] at this
  unfold numI strI
  rw [this, numK]
theorem num_digit {l c : List Int} (hc : InT l c) {i : Nat} (hi : i < l.length) : numI l c / strI l i % l.getD i 0 = c.getD i 0 := by
  obtain ⟨r0, r1⟩ := rst_in hc (i + 1) (l.length - (i + 1)) (by omega)
  rw [prdK_all l (i + 1) (by omega)] at r1
  obtain ⟨c0, c1⟩ := hc.2 i hi
  have hs : strI l i ≠ 0 := by unfold strI; omega
  rw [num_split hi, Int.add_comm, Int.add_mul_ediv_right _ _ hs, Int.ediv_eq_zero_of_lt r0 (by unfold strI; omega), Int.zero_add, Int.add_comm, Int.add_mul_emod_self_right, Int.emod_eq_of_lt c0 c1]
theorem numK_set {l c : List Int} {i : Nat} {v : Int} : ∀ k, k ≤ i → numK l (c.set i v) k = numK l c k
  | 0, _ => rfl
  | k + 1, h => by rw [numK, numK, numK_set k (by omega), getD_set_other _ _ _ _ _ (by omega)]
theorem rst_set {l c : List Int} {i j : Nat} {v : Int} (hj : i < j) : ∀ m, rstK l (c.set i v) j m = rstK l c j m
  | 0 => rfl
  | m + 1 => by rw [rstK, rstK, rst_set hj m, getD_set_other _ _ _ _ _ (by omega)]
theorem num_set {l c : List Int} {i : Nat} (hi : i < l.length) (hc : i < c.length) (v : Int) : numI l (c.set i v) = numI l c + strI l i * (v - c.getD i 0) := by
  rw [num_split hi, num_split hi, numK_set i (Nat.le_refl _), rst_set (by omega), getD_set_same _ _ _ _ hc]
  rw [Int.mul_sub, Int.add_mul, Int.add_mul, Int.mul_comm (strI l i), Int.mul_comm (strI l i)]
  omega
/-- the neighbors in one dimension -/
def nbA (l : List Int) (x : Int) (i : Nat) (s : Int) : Int := x + strI l i * ((x / strI l i % l.getD i 0 + s) % l.getD i 0 - x / strI l i % l.getD i 0)
def nbK (l : List Int) (x : Int) : Nat → List Int
  | 0 => []
  | k + 1 => nbK l x k ++ [nbA l x k 1, nbA l x k (-1)]
theorem nbK_len (l : List Int) (x : Int) : ∀ k, (nbK l x k).length = 2 * k
  | 0 => rfl
  | k + 1 => by rw [nbK, List.length_append, nbK_len l x k]; simp; omega
theorem nb_mem {l : List Int} {x : Int} {i : Nat} {s : Int} (hs : s = 1 ∨ s = -1) : ∀ k, i < k → nbA l x i s ∈ nbK l x k
  | 0, h => by omega
  | k + 1, h => by
    rw [nbK]
    by_cases hik : i = k
    · subst hik; rcases hs with rfl | rfl <;> simp
    · exact List.mem_append.2 (.inl (nb_mem hs k (by omega)))
/-- the switch before is a neighbor -/
theorem prev_mem {l c : List Int} (hc : InT l c) {i : Nat} (hi : i < l.length) (hn : InT l (nextC c i)) : numI l c ∈ nbK l (numI l (nextC c i)) l.length := by
  have hcl : i < c.length := by rw [hc.1]; exact hi
  have hd : dirB c i = 1 ∨ dirB c i = -1 := by unfold dirB; split <;> simp
  have he : nextC c i = c.set i (c.getD i 0 + dirB c i) := rfl
  have hg : (nextC c i).getD i 0 = c.getD i 0 + dirB c i := by rw [he]; exact getD_set_same _ _ _ _ hcl
  obtain ⟨c0, c1⟩ := hc.2 i hi
  have h1 : nbA l (numI l (nextC c i)) i (- dirB c i) = numI l c := by
    unfold nbA
    rw [num_digit hn hi, hg, show c.getD i 0 + dirB c i + - dirB c i = c.getD i 0 by omega, Int.emod_eq_of_lt c0 c1, he, num_set hi hcl, Int.add_assoc, ← Int.mul_add]
    rw [show c.getD i 0 + dirB c i - c.getD i 0 + (c.getD i 0 - (c.getD i 0 + dirB c i)) = 0 by omega]
    simp
  rw [← h1]
  exact nb_mem (by rcases hd with h | h <;> rw [h] <;> simp) _ hi
theorem snL_prev {l : List Int} (hl : 1 ≤ l.length) (hb : ∀ i, i < l.length → 2 ≤ l.getD i 0 ∧ l.getD i 0 ≤ 16) {k : Nat} (hk : (k : Int) + 1 < prodI l) : numI l (snC l k) ∈ nbK l (numI l (snC l (k + 1))) l.length := by
  have h1 := (sn_rank hl hb k (by omega)).1
  have h2 := (sn_rank hl hb (k + 1) (by omega)).1
  exact prev_mem h1 (sn_dim hl hb hk).1 h2
end Go.Proofs.YtbhkenphcahifaaGreat

namespace Go.Proofs.YtbhkenphcahifaaGreat
open Go.RowKit Go.Shelf
attribute [local go_sem] Oper.semAt_some
set_option maxRecDepth 100000
set_option maxHeartbeats 4000000

/-- the marks that ranges over functions, one behind the other, leave behind -/
def mk (D : Nat) : Deferred := { target := .collected D, args := #[] }
/-- they are open, and each is its own -/
structure Marks (B : Nat) (Ds : List Nat) (w : World) : Prop where
  open_ : ∀ D ∈ Ds, B ≤ D ∧ w.heap[D]? = some (.deferred (some []))
  nodup : Ds.Nodup
theorem Marks.lt {B : Nat} {Ds : List Nat} {w : World} (h : Marks B Ds w) {D : Nat} (hD : D ∈ Ds) : D < w.heap.size := (Array.getElem?_eq_some_iff.1 (h.open_ D hD).2).1
theorem Marks.nil (B : Nat) (w : World) : Marks B [] w := ⟨fun D h => by simp at h, List.nodup_nil⟩
/-- nothing but the marks' blocks is changed -/
structure Shut (Ds : List Nat) (w w' : World) : Prop where
  os : w'.os = w.os
  tape : w'.tape = w.tape
  output : w'.output = w.output
  size : w'.heap.size = w.heap.size
  block : ∀ k, k ∉ Ds → w'.heap[k]? = w.heap[k]?
/-- a function leaves through its marks -/
theorem leaves_marks {F : Fence} {n : Nat} {P : Program} {fn : Func} {tmps : Array Value} {R : Ending → World → Prop} {B : Nat} : ∀ (Ds : List Nat) (w : World), Marks B Ds w → (∀ w', Shut Ds w w' → LeavesIn F n P fn tmps R [] .returning w') → LeavesInM F n P fn tmps R (Ds.map mk) .returning w
  | [], w, _, h => h w ⟨rfl, rfl, rfl, rfl, fun _ _ => rfl⟩
  | D :: Ds, w, hm, h => by
    have hD := (hm.open_ D (by simp)).2
    have hn := List.nodup_cons.1 hm.nodup
    refine ⟨by simp, .inl ⟨D, _, rfl, run_takeDeferred hD, ?_⟩⟩
    refine leaves_marks Ds _ ⟨fun E hE => ⟨(hm.open_ E (by simp [hE])).1, ?_⟩, hn.2⟩ fun w' hw => h w' ⟨hw.os, hw.tape, hw.output, ?_, fun k hk => ?_⟩
    · have hne : E ≠ D := by rintro rfl; exact hn.1 hE
      exact (World.putObj_heap_other hne).trans (hm.open_ E (by simp [hE])).2
    · rw [hw.size]; simp [World.putObj]
    · have h1 : k ≠ D := fun e => hk (by simp [e])
      exact (hw.block k (fun e => hk (by simp [e]))).trans (World.putObj_heap_other h1)
theorem Marks.push {B : Nat} {Ds : List Nat} {w w' : World} (h : Marks B Ds w) {D : Nat} (hD : w.heap.size ≤ D) (hk : ∀ E ∈ Ds, w'.heap[E]? = w.heap[E]?) (hd : w'.heap[D]? = some (.deferred (some []))) (hB : B ≤ w.heap.size) : Marks B (D :: Ds) w' := by
  refine ⟨fun E hE => ?_, List.nodup_cons.2 ⟨fun hE => ?_, h.nodup⟩⟩
  · rcases List.mem_cons.1 hE with rfl | hE
    · exact ⟨by omega, hd⟩
    · exact ⟨(h.open_ E hE).1, (hk E hE).trans (h.open_ E hE).2⟩
  · have := h.lt hE; omega
theorem Marks.keep {B : Nat} {Ds : List Nat} {w w' : World} (h : Marks B Ds w) (hk : ∀ E ∈ Ds, w'.heap[E]? = w.heap[E]?) : Marks B Ds w' := ⟨fun E hE => ⟨(h.open_ E hE).1, (hk E hE).trans (h.open_ E hE).2⟩, h.nodup⟩

theorem YieldAt.mono' {F : Fence} {m : Nat} {P : Program} {l : Nat} {args : Array Value} {W : World} {R R' : Ending → World → Prop} (h : YieldAt F m P l args W R) (hr : ∀ e w', R e w' → R' e w') : YieldAt F m P l args W R' := by
  obtain ⟨fn, tm, as_, bd, hy, hR⟩ := h
  exact ⟨fn, tm, as_, bd, hy, hR.mono hr⟩
/-- an iterator that reads what it has captured, and makes at most new blocks -/
def SeqR {α : Type} (n : Nat) (gf : Nat) (lb : Array Value) (encs : α → Array Value) (Nd : List Nat) (L : List α) (w : World) : Prop :=
  ∀ (l : Nat) (J : List α → World → Prop) (W : World), Below w.heap.size w W → (∀ pre V V2, J pre V → Below V.heap.size V V2 → J pre V2) →
    (∀ pre x W1, J pre W1 → pre ++ [x] <+: L → YieldAt Fence.wide (n - 1) Tryz.prog l (encs x) W1 fun e W' => e = .returned (.bool true) ∧ J (pre ++ [x]) W' ∧ ∀ b ∈ Nd, W'.heap[b]? = W1.heap[b]?) →
    J [] W → CallsIn Fence.wide n Tryz.prog gf (#[.func (.yield l) #[] #[]] ++ lb) W fun e W' => (∃ v, e = .returned v) ∧ J L W'
theorem SeqR.later {α : Type} {n gf : Nat} {lb : Array Value} {encs : α → Array Value} {Nd : List Nat} {L : List α} {w w2 : World} (h : SeqR n gf lb encs Nd L w) (hb : Below w.heap.size w w2) : SeqR n gf lb encs Nd L w2 :=
  fun l J W hW => h l J W (hb.trans (hW.mono hb.size))
/-- whatever abides stores into records and new blocks abides what a loop does -/
theorem grown_split {X Y : World} {r : Nat} (hg : X.grownBy Y (some r)) (hr : r < X.heap.size) : ∃ o', Below (X.putObj r o').heap.size (X.putObj r o') Y ∧ Y.heap[r]? = some o' := by
  have hlt : r < Y.heap.size := Nat.lt_of_lt_of_le hr hg.size
  refine ⟨Y.heap[r], ⟨hg.os, hg.tape, hg.output, by simpa [World.putObj] using hg.size, fun k hk => ?_⟩, Array.getElem?_eq_getElem hlt⟩
  have hk' : k < X.heap.size := by simpa [World.putObj] using hk
  by_cases hkr : k = r
  · subst hkr
    rw [World.putObj_heap_same hk', Array.getElem?_eq_getElem hlt]
  · rw [World.putObj_heap_other hkr]
    exact hg.block k hk' (fun e => hkr (Option.some.inj e))
theorem below_of_grown {X Y : World} (hg : X.grownBy Y none) : Below X.heap.size X Y := ⟨hg.os, hg.tape, hg.output, hg.size, fun k hk => hg.block k hk (fun e => by cases e)⟩
/-- a range over such an iterator, by a body that never leaves -/
theorem range_r {α : Type} {n : Nat} {g : Operand} {ps : Array Tmp} {assign body : Code} {Q : Exit → Act → World → Prop} {a : Act} {w : World} (h1 : 1 ≤ n) {gf : Nat} {lb : Array Value}
    (hg : a.eval g = .func (.func gf) #[] lb) (eg : ∀ args w, (callFunc gf args).run Tryz.prog w = .ok (.enter gf args) w) {encs : α → Array Value} {Nd : List Nat} {L : List α}
    (hseq : SeqR (n - 1) gf lb encs Nd L w) (hnd : ∀ b ∈ Nd, b < w.heap.size)
    (hps : ∀ x, (encs x).size = ps.size) (I : List α → World → Prop) (hI : OwnFrom w.heap.size I) (hIg : ∀ pre V V2, I pre V → Below V.heap.size V V2 → I pre V2) (h0 : I [] w) (a₁ : α → Act)
    (hassign : ∀ (l : Nat) (x : α) (W : World) (K : Act → World → Prop), K (a₁ x) W → assign.wpIn (Fence.wide.inRound l) (n - 1 - 1) Tryz.prog (Exit.then K (fun _ _ _ => False)) { tmps := (ps.zip (encs x)).foldl (fun t (p, v) => t.setIfInBounds p v) a.tmps, defers := [] } W)
    (hbody : ∀ (l : Nat) (pre : List α) (x : α) (W : World), I pre W → pre ++ [x] <+: L → body.wpIn (Fence.wide.inRound l) (n - 1 - 1) Tryz.prog (ownPostG w.heap.size (fun W W' => ∀ b ∈ Nd, W'.heap[b]? = W.heap[b]?) I (fun _ _ _ => False) (pre ++ [x]) W) (a₁ x) W)
    (hdone : ∀ (D : Nat) (W : World), w.heap.size ≤ D → I L W → W.heap[D]? = some (.deferred (some [])) → Q .normal { a with defers := { target := .collected D, args := #[] } :: a.defers } W) :
    (Code.rangeFunc g ps assign body).wpIn Fence.wide n Tryz.prog Q a w := by
  refine wpIn_rangeFunc ?_
  intro fn hfn
  rw [show Fence.wide.round = none from rfl]
  let rc : LoopState → Option Code → Loop := fun st pe => { state := st, pending := pe, fn, tmps := a.tmps, params := ps, assign, body, defers := w.heap.size }
  obtain ⟨W1, hW1⟩ : ∃ W1, (w.alloc (.deferred (some []))).alloc (.loop (rc .ready none)) = W1 := ⟨_, rfl⟩
  have hb1 : Below w.heap.size w W1 := by
    rw [← hW1]; exact ((Below.refl _ w).alloc (Nat.le_refl _) _).alloc (by simp) _
  have hl1 : W1.heap[w.heap.size + 1]? = some (.loop (rc .ready none)) := by
    rw [← hW1]; have := World.alloc_heap_new (w.alloc (.deferred (some []))) (.loop (rc .ready none)); rwa [World.size_alloc] at this
  have hk1 : W1.heap[w.heap.size]? = some (.deferred (some [])) := by
    rw [← hW1]; exact (Below.heap_alloc _ _ _ (by simp)).trans (World.alloc_heap_new w _)
  have hi1 : I [] W1 := by rw [← hW1]; exact hI.alloc _ (hI.alloc _ h0)
  refine ⟨w.heap.size + 1, [{ target := .collected w.heap.size, args := #[] }], W1, { target := .fn (.func gf) lb, args := #[.func (.yield (w.heap.size + 1)) #[] #[]] }, W1, gf,
    #[.func (.yield (w.heap.size + 1)) #[] #[]] ++ lb, W1, ?_, ?_, ?_, ?_, fun _ => h1, ?_⟩
  · rw [← hW1]; exact run_enterLoop_outer _ _ _ _ _
  · simp only [resolve, hg]
    simp [go_sem]
  · intro f' hf'; trivial
  · simp [invoke, go_sem, eg]
  · refine (hseq (w.heap.size + 1) (fun pre W => I pre W ∧ W.heap[w.heap.size + 1]? = some (.loop (rc .ready none)) ∧ W.heap[w.heap.size]? = some (.deferred (some []))) W1 hb1 ?_ ?_ ⟨hi1, hl1, hk1⟩).mono ?_
    · rintro pre V V2 ⟨hi, hl, hk⟩ hb
      exact ⟨hIg pre V V2 hi hb, (hb.block _ (Array.getElem?_eq_some_iff.1 hl).1).trans hl, (hb.block _ (Array.getElem?_eq_some_iff.1 hk).1).trans hk⟩
    · rintro pre x W ⟨hi, hl, hk⟩ hlen
      have hlt : w.heap.size + 1 < W.heap.size := (Array.getElem?_eq_some_iff.1 hl).1
      refine ⟨fn, _, assign, body, run_yield (P := Tryz.prog) (args := encs x) hl (hps x), roundIn_of_wpIn hfn (hassign _ x W _ ?_)⟩
      refine ⟨_, run_beginRound hl rfl, ?_⟩
      have hl2 := World.putObj_heap_same (w := W) (o := .loop { rc .ready none with state := .busy }) hlt
      have hk2 : (W.putObj (w.heap.size + 1) (.loop { rc .ready none with state := .busy })).heap[w.heap.size]? = some (.deferred (some [])) := (World.putObj_heap_other (by omega)).trans hk
      refine wpIn_mono (hbody (w.heap.size + 1) pre x _ (hI.putObj _ hi (by omega) hl rfl) hlen) ?_
      rintro e a3 W3 hp
      cases e with
      | normal =>
        obtain ⟨hk3, hkp3, hi3⟩ := hp
        have hl3 := hk3.same _ _ (by omega) hl2 rfl
        have hk4 := hk3.same _ _ (Nat.le_refl _) hk2 rfl
        exact ⟨_, _, run_endRound (P := Tryz.prog) none hl3, rfl, ⟨hI.putObj _ hi3 (by omega) hl3 rfl, World.putObj_heap_same (Array.getElem?_eq_some_iff.1 hl3).1, (World.putObj_heap_other (by omega)).trans hk4⟩, fun b hb => ((World.putObj_heap_other (by have := hnd b hb; omega)).trans (hkp3 b hb)).trans (World.putObj_heap_other (by have := hnd b hb; omega))⟩
      | ret => exact hp.2.elim
      | exit id => exact hp.2.elim
      | goto t => exact hp.2.elim
      | panic ch => exact hp.elim
      | outgrown => exact hp.elim
    · rintro e W2 ⟨⟨v, rfl⟩, hi, hl, hk⟩
      exact ⟨none, _, run_endLoop (P := Tryz.prog) hl (by simp), hdone _ _ (Nat.le_refl _) (hI.putObj _ hi (by omega) hl rfl) ((World.putObj_heap_other (by omega)).trans hk)⟩
/-- what such an iterator has captured -/
def Has (cs : List (Nat × Obj)) (W : World) : Prop := ∀ p ∈ cs, W.heap[p.1]? = some p.2
theorem Has.below {cs : List (Nat × Obj)} {W W' : World} (h : Has cs W) (hb : Below W.heap.size W W') : Has cs W' := fun p hp => heapB hb (h p hp)
theorem Has.kept {cs : List (Nat × Obj)} {W W' : World} (h : Has cs W) (hk : ∀ b ∈ cs.map (·.1), W'.heap[b]? = W.heap[b]?) : Has cs W' := fun p hp => (hk p.1 (List.mem_map.2 ⟨p, hp, rfl⟩)).trans (h p hp)
theorem Has.m0 {p : Nat × Obj} {r : List (Nat × Obj)} {W : World} (h : Has (p :: r) W) : W.heap[p.1]? = some p.2 := h p (by simp)
theorem Has.m1 {p q : Nat × Obj} {r : List (Nat × Obj)} {W : World} (h : Has (p :: q :: r) W) : W.heap[q.1]? = some q.2 := h q (by simp)

abbrev encI : Int → Array Value := fun x => #[.int .i64 x]
/-- slices.Values' iterator -/
theorem valIter (Bs g cap : Nat) (L : List Int) (cur : Array Value) {w : World} (q0 : w.heap[Bs]? = some (.cells #[.slice (some ⟨g, 0, none⟩) L.length cap] 22 (0, 0))) (q1 : w.heap[g]? = some (.cells cur 3 (0, 0))) (hc : ∀ j (hj : j < L.length), cur[j]? = some (.int .i64 L[j])) (hL : L.length ≤ 100000) (n : Nat) :
    SeqR n 158 #[.pointer (some ⟨Bs, 0, none⟩)] encI [Bs, g] L w := by
  intro ll J W hW hG hY h0
  have HC : Hid (Has [(Bs, .cells #[.slice (some ⟨g, 0, none⟩) L.length cap] 22 (0, 0)), (g, .cells cur 3 (0, 0))] W) := by
    intro p hp
    simp only [List.mem_cons, List.not_mem_nil, or_false] at hp
    rcases hp with rfl | rfl
    · exact heapB hW q0
    · exact heapB hW q1
  have HY := Lib.hid hY
  have HG := Lib.hid hG
  have HCC := Lib.hid hc
  clear hY hW q0 q1 hG hc
  have k0 := cellR 0 HC.out.m0 rfl
  refine callsIn_of_wp Tryz.func158 rfl trivial ?_ rfl
  simp only [Tryz.ntmps158, List.size_toArray, List.length_cons, List.length_nil, Nat.reduceAdd, Nat.reduceSub, Array.replicate_succ, Array.replicate_zero, List.push_toArray, List.append_toArray, List.nil_append, List.cons_append]
  gi_wp2
  gi_loopw [7] (fun i wr => ∃ k : Nat, k ≤ L.length ∧ i = .int .i64 (k : Int) ∧ J (L.take k) wr ∧ Hid (Has [(Bs, .cells #[.slice (some ⟨g, 0, none⟩) L.length cap] 22 (0, 0)), (g, .cells cur 3 (0, 0))] wr)) (fun i _ => L.length - (intOf i).toNat)
  case atStart => exact ⟨0, Nat.zero_le _, rfl, h0, HC⟩
  case round =>
    clear k0 HC h0
    obtain ⟨k, hk, rfl, hJ, HC⟩ := hrel
    by_cases hlt : k < L.length
    · have e0 := cellR k HC.out.m1 (HCC.out k hlt)
      obtain ⟨fn, tm, as_, bd, hy, hR⟩ := HY.out (L.take k) L[k] _ hJ (by rw [← List.take_succ_eq_append_getElem hlt]; exact List.take_prefix _ _)
      rw [← List.take_succ_eq_append_getElem hlt] at hR
      gi_wp2
      refine ⟨fun h => (by cases h), ?_⟩
      refine hR.mono ?_
      rintro e W2 ⟨rfl, h1, hkq⟩
      replace HC := Lib.hid (HC.out.kept hkq)
      clear hy hR hkq hJ e0
      gi_wp2
      go_roundw
      case rel => exact ⟨k + 1, by omega, by go_num, h1, HC⟩
      case measure => simp [intOf]; omega
    · have hkn : k = L.length := by omega
      subst hkn
      rw [List.take_length] at hJ
      gi_wp2
      go_end0
      exact ⟨⟨_, rfl⟩, hJ⟩
/-- a function that yields a list -/
def VIter (gf : Nat) (lb : Array Value) (L : List Int) (s0 : Nat) (w : World) : Prop :=
  (∀ args w, (callFunc gf args).run Tryz.prog w = .ok (.enter gf args) w) ∧ ∃ Nd : List Nat, (∀ b ∈ Nd, s0 ≤ b ∧ ∃ o, w.heap[b]? = some o ∧ o.isCells = true) ∧ ∀ n, SeqR n gf lb encI Nd L w
/-- such a function, made -/
def VMake (f : Nat) (args : Array Value) (L : List Int) (B : Nat) (W : World) : Prop :=
  Calls Tryz.prog f args W fun e w' => ∃ gf lb, e = .returned (.func (.func gf) #[] lb) ∧ VIter gf lb L B w' ∧ Below B W w'
/-- slices.Values of a list of one's own -/
theorem values_new {B : Nat} {w : World} {v : Value} {L : List Int} (h : NewInts B w v L) (hB : B ≤ w.heap.size) (hL : L.length ≤ 100000) (hne : L ≠ []) : VMake 148 #[v] L B w := by
  obtain ⟨h1, h2⟩ := h.own
  rcases h2 with ⟨rfl, hn⟩ | ⟨g, cap, cur, rfl, hg, hr, hc, hm, hs, ht⟩
  · exact absurd (List.length_eq_zero_iff.1 hn) hne
  have q0 := heap_alloc_new w (.cells #[.slice (some ⟨g, 0, none⟩) L.length cap] 22)
  have hbw : Below w.heap.size w (w.alloc (.cells #[.slice (some ⟨g, 0, none⟩) L.length cap] 22)) := (Below.refl _ _).alloc (Nat.le_refl _) _
  have q1 := heapB hbw hr
  have HB : Hid (Below B w (w.alloc (.cells #[.slice (some ⟨g, 0, none⟩) L.length cap] 22))) := hbw.mono hB
  have hcell : ∀ j (hj : j < L.length), cur[j]? = some (.int .i64 L[j]) := fun j hj => by
    have h3 : (L.map (Value.int .i64))[j]? = some (.int .i64 L[j]) := by simp [hj]
    rw [← ht, List.getElem?_take] at h3
    split at h3
    · simpa using h3
    · cases h3
  have HI : Hid (VIter 158 #[.pointer (some ⟨w.heap.size, 0, none⟩)] L B (w.alloc (.cells #[.slice (some ⟨g, 0, none⟩) L.length cap] 22))) := by
    refine ⟨enters_of Tryz.func158 (by kernel_rfl) rfl, [w.heap.size, g], ?_, fun n => valIter w.heap.size g cap L cur q0 q1 hcell hL n⟩
    intro b hb
    simp only [List.mem_cons, List.not_mem_nil, or_false] at hb
    rcases hb with rfl | rfl
    · exact ⟨hB, _, q0, rfl⟩
    · exact ⟨hg, _, q1, rfl⟩
  clear q0 hbw q1 hcell hr hc hm hs ht h1 hL hne h
  generalize L.length = N at *
  unfold VMake
  go_enter Tryz.func148, Tryz.ntmps148
  go_wp2_with fail
  go_ret
  exact ⟨158, _, rfl, HI.out, HB.out⟩
end Go.Proofs.YtbhkenphcahifaaGreat

namespace Go.Proofs.YtbhkenphcahifaaGreat
open Go.RowKit Go.Shelf
attribute [local go_sem] Oper.semAt_some
set_option maxRecDepth 100000
set_option maxHeartbeats 4000000

theorem Fq.grow {n0 o b : Nat} {W W2 : World} (h : Fq n0 o b W) (ho : o < W.heap.size) (hb : Below W.heap.size W W2) : Fq n0 o b W2 := by
  obtain ⟨⟨ob, k1, k2⟩, k3, k4, k5⟩ := h
  exact ⟨⟨ob, heapB hb k1, k2⟩, k3, k4, fun u hu => k5 u (by rw [← hu]; exact (hb.cell (p := ⟨o, 0, none⟩) ho).symm)⟩
/-- blocks beside a list that grows abide stores into records -/
theorem Fq.put {n0 o b c s : Nat} {W : World} {o1 o' : Obj} (h : Fq n0 o c W) (ho : o < s) (hb : s ≤ b) (h1 : W.heap[b]? = some o1) (h2 : o1.isCells = false) : Fq n0 o c (W.putObj b o') := by
  obtain ⟨⟨oc, k1, k2⟩, k3, k4, k5⟩ := h
  have hne : c ≠ b := by rintro rfl; rw [k1] at h1; cases h1; rw [k2] at h2; cases h2
  refine ⟨⟨oc, (World.putObj_heap_other hne).trans k1, k2⟩, k3, k4, fun v hv => k5 v ?_⟩
  rw [← hv]
  exact (World.cell?_of_block (w := W) (World.putObj_heap_other (show o ≠ b by omega))).symm
theorem Fq.own {β : Type} {n0 o S : Nat} (Nd : List Nat) (ho : o < S) : OwnFrom S (fun (_ : β) W => o < W.heap.size ∧ ∀ b ∈ Nd, Fq n0 o b W) := by
  rintro s X Y row ⟨h0, h⟩ hg hr
  refine ⟨Nat.lt_of_lt_of_le h0 hg.size, fun b hb => ?_⟩
  cases row with
  | none => exact (h b hb).grow h0 (below_of_grown hg)
  | some r =>
    obtain ⟨hB, ob, hob, hc⟩ := hr r rfl
    obtain ⟨o', hbl, _⟩ := grown_split hg (Array.getElem?_eq_some_iff.1 hob).1
    exact ((h b hb).put ho hB hob hc).grow (by simpa [World.putObj] using h0) hbl
theorem appendSeq_any {B gf : Nat} {lb : Array Value} {L : List Int} {w : World} (hB : B ≤ w.heap.size) (hi : VIter gf lb L B w) (hL : L.length ≤ 100000) :
    Calls Tryz.prog 98 #[.slice none 0 0, .func (.func gf) #[] lb] w fun e w' => ∃ v, e = .returned v ∧ NewInts B w' v L ∧ Below B w w' := by
  obtain ⟨heg, Nd, hNd, hSq⟩ := hi
  have r1 := heap_alloc_new w (.cells #[.slice none 0 0] 22)
  have hbw : Below w.heap.size w (w.alloc (.cells #[.slice none 0 0] 22)) := (Below.refl _ _).alloc (Nat.le_refl _) _
  have hz : (w.alloc (.cells #[.slice none 0 0] 22)).heap.size = w.heap.size + 1 := by simp
  have hO : OutI B w.heap.size [] (w.alloc (.cells #[.slice none 0 0] 22)) := ⟨_, r1, ⟨rfl, .inl ⟨rfl, rfl⟩⟩, by simp⟩
  have hbB : Below B w (w.alloc (.cells #[.slice none 0 0] 22)) := hbw.mono hB
  have hnd : ∀ b ∈ Nd, Fq B w.heap.size b (w.alloc (.cells #[.slice none 0 0] 22)) := fun b hb => by
    obtain ⟨h1, o, h2, h3⟩ := hNd b hb
    have hlt := (Array.getElem?_eq_some_iff.1 h2).1
    refine ⟨⟨o, heapB hbw h2, h3⟩, h1, by omega, fun v hv => ?_⟩
    rw [cellR 0 r1 rfl] at hv
    cases hv
    simp [Value.ownBlock]
  have hnl : ∀ b ∈ Nd, b < (w.alloc (.cells #[.slice none 0 0] 22)).heap.size := fun b hb => by
    obtain ⟨h1, o, h2, h3⟩ := hNd b hb
    have hlt := (Array.getElem?_eq_some_iff.1 h2).1
    omega
  have HSQ := Lib.hid (fun n => (hSq n).later hbw)
  have HLN := Lib.hid hL
  have HBB := Lib.hid hB
  clear hNd hSq hbw r1 hL
  refine (callsIn_wide (n := 4)).1 ?_
  refine callsIn_of_wp_marks Tryz.func98 rfl trivial ?_ rfl
  simp only [Tryz.ntmps98, List.size_toArray, List.length_cons, List.length_nil, Nat.reduceAdd, Nat.reduceSub, Array.replicate_succ, Array.replicate_zero, List.push_toArray, List.append_toArray, List.nil_append, List.cons_append]
  gi_wp2
  generalize w.alloc (.cells #[.slice none 0 0] 22) = W0 at *
  refine range_r (L := L) (Nd := Nd) (by omega) rfl heg (HSQ.out _) hnl (fun _ => rfl) (fun pre W => (OutI B w.heap.size pre W ∧ Below B w W) ∧ (w.heap.size < W.heap.size ∧ ∀ b ∈ Nd, Fq B w.heap.size b W)) (OwnFrom.and (OwnFrom.and (OutI.own fun pre : List Int => pre) (ownFrom_below (by omega) (by omega))) (Fq.own Nd (by omega))) ?grow ⟨⟨hO, hbB⟩, by omega, hnd⟩ (fun p => ⟨#[.slice none 0 0, .func (.func gf) #[] lb, .pointer (some ⟨w.heap.size, 0, none⟩), undef, .slice none 0 0, .int .i64 p, .func (.func gf) #[] lb, .int .i64 p, undef, undef, undef, undef, undef], []⟩) ?assign ?body ?done
  case grow =>
    rintro pre V V2 ⟨⟨h1, h2⟩, h3, h4⟩ hb
    exact ⟨⟨h1.below hb, h2.trans (hb.mono (by have := h2.size; omega))⟩, Nat.lt_of_lt_of_le h3 hb.size, fun b hm => (h4 b hm).grow h3 hb⟩
  case assign =>
    intro q p W K hK
    gi_wp2
    exact hK
  case body =>
    rintro q pre p W ⟨⟨hO3, hB3⟩, hs3, hF3⟩ hlen
    have hll : pre.length ≤ 200000 := by have := HLN.out; have := hlen.length_le; simp at this; omega
    obtain ⟨v, g, cap, wA, hv, hvA, hrun, hO4, hk4, hq4⟩ := hO3.append p hll (by have := hB3.size; omega) (by omega)
    have cv := hv.cell
    have cA := hvA.cell
    have fA := hvA.frozen
    have lA := hvA.lt
    have HF3 := Lib.hid hF3
    clear hlen hll hF3
    gi_wp2_with (gi_at_builtin; refine wpListIn_append_run rfl _ _ 22 rfl rfl rfl hrun ?_)
    exact ⟨hk4.from _, fun b hb => (hq4.2 b (HF3.out b hb)).1, ⟨hO4, hB3.trans hq4.1⟩, Nat.lt_of_lt_of_le hs3 hk4.size, fun b hb => (hq4.2 b (HF3.out b hb)).2⟩
  case done =>
    rintro D W hD ⟨⟨⟨v, hv, hrow, hnil⟩, hB3⟩, _⟩ hK
    have cv := hv.cell
    gi_wp2
    refine ⟨by simp, .inl ⟨_, _, rfl, run_takeDeferred hK, ?_⟩⟩
    refine ⟨v, ?_, v, rfl, ⟨ownsRow_putObj hrow _ hK rfl, by have := HLN.out; omega⟩, hB3.trans ⟨rfl, rfl, rfl, by simp [World.putObj], fun k hk => World.putObj_heap_other (by omega)⟩⟩
    simp [results, Tryz.results98, go_sem]
theorem collect_any {B gf : Nat} {lb : Array Value} {L : List Int} {w : World} (hB : B ≤ w.heap.size) (hi : VIter gf lb L B w) (hL : L.length ≤ 100000) :
    Calls Tryz.prog 54 #[.func (.func gf) #[] lb] w fun e w' => ∃ v, e = .returned v ∧ NewInts B w' v L ∧ Below B w w' := by
  have H := Lib.hid (appendSeq_any hB hi hL)
  clear hi
  go_enter Tryz.func54, Tryz.ntmps54
  go_wp2_with fail
  refine H.out.mono ?_
  rintro e w1 ⟨v, rfl, hv, hb⟩
  have HR : Hid (NewInts B w1 v L ∧ Below B w w1) := ⟨hv, hb⟩
  clear H hv hb
  go_wp2_with fail
  go_ret
  exact ⟨_, rfl, HR.out.1, HR.out.2⟩
theorem m_near1 (sa : Option Addr) (n sc : Nat) (m : Int) (w : World) : (method 330 138 (.agg #[.slice sa n sc, .int .i64 m]) "armada/net.neighbors").run Tryz.prog w = .ok (140, .agg #[.slice sa n sc, .int .i64 m]) w := by kernel_rfl
/-- Neighbors over any maker of the neighbors -/
theorem Neighbors1_any {w : World} {sa : Option Addr} {l : List Int} (h : Ints w sa l) (sc : Nat) (hosts x : Int) (hv : vOk 1 l hosts) (hin : inB (swI 1 l) [x] = true) {L : List Int} (hL : L.length ≤ 100000)
    (hS : ∀ W, Below w.heap.size w W → VMake 140 #[.agg #[.slice sa l.length sc, .int .i64 (prodI l)], .int .i64 x] L W.heap.size W) :
    Calls Tryz.prog 13 #[.agg #[.int .i64 1, .slice sa l.length sc, .int .i64 hosts], .int .i64 x] w fun e w' => ∃ v, e = .returned (.tuple #[v, .int .i64 0]) ∧ NewInts w.heap.size w' v L ∧ Below w.heap.size w w' := by
  obtain ⟨hbx, q0, q1, hz⟩ := twoN w (.cells #[.int .i64 1, .slice sa l.length sc, .int .i64 hosts] 24) (.cells #[.int .i64 x] 3)
  have HB := Lib.hid hbx
  have c0 := cellR 0 (heap_alloc_new w (.cells #[.int .i64 1, .slice sa l.length sc, .int .i64 hosts] 24)) rfl
  have c1 := cellR 1 (heap_alloc_new w (.cells #[.int .i64 1, .slice sa l.length sc, .int .i64 hosts] 24)) rfl
  have c2 := cellR 2 (heap_alloc_new w (.cells #[.int .i64 1, .slice sa l.length sc, .int .i64 hosts] 24)) rfl
  have hi := ints_one (w.alloc (.cells #[.int .i64 1, .slice sa l.length sc, .int .i64 hosts] 24)) x
  rw [show (w.alloc (.cells #[.int .i64 1, .slice sa l.length sc, .int .i64 hosts] 24)).heap.size = w.heap.size + 1 by simp] at hi
  have HC : Hid (Calls Tryz.prog 53 #[.agg #[.int .i64 1, .slice sa l.length sc, .int .i64 hosts], .slice (some ⟨w.heap.size + 1, 0, none⟩) 1 1] ((w.alloc (.cells #[.int .i64 1, .slice sa l.length sc, .int .i64 hosts] 24)).alloc (.cells #[.int .i64 x] 3)) fun e w' => e = .returned (.tuple #[.iface 138 (.agg #[.slice sa l.length sc, .int .i64 (prodI l)]), .int .i64 0]) ∧ Below w.heap.size ((w.alloc (.cells #[.int .i64 1, .slice sa l.length sc, .int .i64 hosts] 24)).alloc (.cells #[.int .i64 x] 3)) w') := by
    refine (networkWith1_any (h.keep hbx) hi sc 1 hosts hv).mono ?_
    rintro e w' ⟨rfl, hb⟩
    exact ⟨by rw [if_pos hin]; rfl, hb.mono (by rw [hz]; omega)⟩
  have HS := Lib.hid hS
  have HLN := Lib.hid hL
  have hm := m_near1 sa l.length sc (prodI l)
  clear h hbx q0 q1 hi hz hv hin hS hL
  generalize l.length = N at *
  generalize prodI l = p0 at *
  go_enter Tryz.func13, Tryz.ntmps13
  go_wp2_with fail
  refine HC.out.mono ?_
  rintro e w1 ⟨rfl, hb1⟩
  have HB1 := Lib.hid (HB.out.trans hb1)
  clear HC hb1 HB c0 c1 c2
  have HS1 : Hid (Calls Tryz.prog 140 #[.agg #[.slice sa N sc, .int .i64 p0], .int .i64 x] w1 fun e w' => ∃ gf lb, e = .returned (.func (.func gf) #[] lb) ∧ VIter gf lb L w1.heap.size w' ∧ Below w1.heap.size w1 w') := HS.out _ HB1.out
  clear HS
  go_wp2_with fail
  refine HS1.out.mono ?_
  rintro e w2 ⟨gf, lb, rfl, hI, hb2⟩
  have HB2 : Hid (Below w.heap.size w w2) := HB1.out.trans (hb2.mono HB1.out.size)
  have HCL := Lib.hid (collect_any hb2.size hI HLN.out)
  clear hI HS1 hb2 hm
  go_wp2_with fail
  refine HCL.out.mono ?_
  rintro e w3 ⟨v, rfl, hv, hb3⟩
  have HR : Hid (NewInts w.heap.size w3 v L ∧ Below w.heap.size w w3) := ⟨⟨own_lower7 hv.own HB1.out.size, hv.len⟩, HB2.out.trans (hb3.mono HB1.out.size)⟩
  clear HCL hv hb3 HB2 HB1
  go_wp2_with fail
  go_ret2
  exact ⟨_, rfl, HR.out.1, HR.out.2⟩
end Go.Proofs.YtbhkenphcahifaaGreat

namespace Go.Proofs.YtbhkenphcahifaaGreat
open Go.RowKit Go.Shelf
attribute [local go_sem] Oper.semAt_some
set_option maxRecDepth 100000
set_option maxHeartbeats 4000000

/-- the neighbors of a switch in a tree: m of those below, m of those above -/
def dnT (k : Nat) (ww : Int) (l : Nat) (wx : Int) (m : Nat) : List Int := (List.range m).map fun (d : Nat) => (l : Int) * ww + wthI k l wx (d : Int)
def upT (k : Nat) (ww : Int) (l : Nat) (wx : Int) (m : Nat) : List Int := (List.range m).map fun (d : Nat) => ((l : Int) + 1) * ww + wthI k l wx (d : Int)
/-- those of a switch on the level l with the word wx -/
def lvT (k lv : Nat) (ww : Int) (l : Nat) (wx : Int) : List Int := (if 0 < l then dnT k ww (l - 1) wx k else []) ++ (if l < lv - 1 then upT k ww l wx k else [])
def nbT (k lv : Nat) (x : Int) : List Int := lvT k lv ((k ^ (lv - 1) : Nat) : Int) (x / ((k ^ (lv - 1) : Nat) : Int)).toNat (x % ((k ^ (lv - 1) : Nat) : Int))
theorem dnT_len (k : Nat) (ww : Int) (l : Nat) (wx : Int) (m : Nat) : (dnT k ww l wx m).length = m := by simp [dnT]
theorem upT_len (k : Nat) (ww : Int) (l : Nat) (wx : Int) (m : Nat) : (upT k ww l wx m).length = m := by simp [upT]
theorem dnT_succ (k : Nat) (ww : Int) (l : Nat) (wx : Int) (m : Nat) : dnT k ww l wx (m + 1) = dnT k ww l wx m ++ [(l : Int) * ww + wthI k l wx (m : Int)] := by unfold dnT; rw [List.range_succ, List.map_append]; rfl
theorem dnT_mono (k : Nat) (ww : Int) (l : Nat) (wx : Int) {a b : Nat} (h : a ≤ b) : dnT k ww l wx a <+: dnT k ww l wx b := by
  unfold dnT
  have h1 : (List.range b).take a = List.range a := by rw [List.take_range, Nat.min_eq_left h]
  rw [← h1, List.map_take]
  exact List.take_prefix _ _
theorem upT_mono (k : Nat) (ww : Int) (l : Nat) (wx : Int) {a b : Nat} (h : a ≤ b) : upT k ww l wx a <+: upT k ww l wx b := by
  unfold upT
  have h1 : (List.range b).take a = List.range a := by rw [List.take_range, Nat.min_eq_left h]
  rw [← h1, List.map_take]
  exact List.take_prefix _ _
theorem upT_succ (k : Nat) (ww : Int) (l : Nat) (wx : Int) (m : Nat) : upT k ww l wx (m + 1) = upT k ww l wx m ++ [((l : Int) + 1) * ww + wthI k l wx (m : Int)] := by unfold upT; rw [List.range_succ, List.map_append]; rfl

section
variable {P : Program} {ops : Array Oper} {n : Nat} {Q : Exit → Act → World → Prop}
/-- a yield, by what its round says -/
theorem wpOpIn_yield {i : Nat} {o : Oper} {K : Act → World → Prop} {a : Act} {w : World} {l fn : Nat} {tm : Array Value} {as_ bd : Code} {R : Ending → World → Prop} (ho : ops[i]? = some o) (hgd : o.guard = none)
    (h : (o.semAt none a.eval).run P w = .ok (.round l fn tm as_ bd) w) (hc : RoundIn Fence.wide (n - 1) P l fn tm as_ bd w R) (hk : ∀ e w', R e w' → ∃ v, e = .returned v ∧ K (a.put o.dst v) w') : wpOpIn Fence.wide n P ops Q i K a w := by
  refine wpOpIn_step ho (fun K' hK => ?_)
  rw [if_pos (by simp [Region.wanted, hgd])]
  refine ⟨fun f _ => trivial, ?_⟩
  have e : Fence.wide.round = none := rfl
  rw [e, h, Oper.uponIn_round]
  refine ⟨(fun hd => by cases hd), hc.mono ?_⟩
  intro e w' hr
  obtain ⟨v, rfl, hv⟩ := hk e w' hr
  exact hK _ _ hv
end

theorem treeNear (Bs Bx : Nat) (k lv : Nat) (x : Int) (hk : 1 ≤ k) (hk2 : k ≤ 16) (hlv : 1 ≤ lv) (hlv2 : lv ≤ 5) (hww2 : k ^ (lv - 1) ≤ 1000) (hx : 0 ≤ x) (hx2 : x < (lv : Int) * ((k ^ (lv - 1) : Nat) : Int)) {w : World}
    (q0 : w.heap[Bs]? = some (.cells #[.int .i64 (k : Int), .int .i64 (lv : Int), .int .i64 ((k ^ (lv - 1) : Nat) : Int)] 142 (0, 0))) (q1 : w.heap[Bx]? = some (.cells #[.int .i64 x] 3 (0, 0))) (n : Nat) :
    SeqR n 187 #[.pointer (some ⟨Bx, 0, none⟩), .pointer (some ⟨Bs, 0, none⟩)] encI [Bs, Bx] (nbT k lv x) w := by
  intro ll J W hW hG hY h0
  have HC : Hid (Has [(Bs, .cells #[.int .i64 (k : Int), .int .i64 (lv : Int), .int .i64 ((k ^ (lv - 1) : Nat) : Int)] 142 (0, 0)), (Bx, .cells #[.int .i64 x] 3 (0, 0))] W) := by
    intro p hp
    simp only [List.mem_cons, List.not_mem_nil, or_false] at hp
    rcases hp with rfl | rfl
    · exact heapB hW q0
    · exact heapB hW q1
  have HY := Lib.hid hY
  have HG := Lib.hid hG
  clear hY hW q0 q1 hG
  have HWI := Lib.hid (fun (i : Nat) (wd d : Int) (h1 : i < lv - 1) (h2 : 0 ≤ wd) (h3 : wd < ((k ^ (lv - 1) : Nat) : Int)) (h4 : 0 ≤ d) (h5 : d < k) => wth_in (k := k) (i := i) (m := lv - 1) (x := wd) (d := d) hk h1 h2 h3 h4 h5)
  have hDL : nbT k lv x = lvT k lv ((k ^ (lv - 1) : Nat) : Int) (x / ((k ^ (lv - 1) : Nat) : Int)).toNat (x % ((k ^ (lv - 1) : Nat) : Int)) := rfl
  have hw1 : 1 ≤ k ^ (lv - 1) := pow_pos' hk
  obtain ⟨ww, hww⟩ : ∃ ww : Int, ww = ((k ^ (lv - 1) : Nat) : Int) := ⟨_, rfl⟩
  have hwa : 1 ≤ ww := by omega
  have hwb : ww ≤ 1000 := by omega
  rw [← hww] at hx2 hDL HWI HC
  have HWT := Lib.hid (fun (i : Nat) (hi : i ≤ 5) (v d : Int) (h1 : 0 ≤ v) (h2 : v ≤ 1000) (h3 : 0 ≤ d) (h4 : d ≤ 16) W => with_any k i hk hk2 hi (lv : Int) ww v d h1 h2 h3 h4 W)
  have hlx2 : x / ww < lv := Int.ediv_lt_of_lt_mul (by omega) hx2
  have hlx0 := Int.ediv_nonneg hx (show 0 ≤ ww by omega)
  have hwx0 := Int.emod_nonneg x (show ww ≠ 0 by omega)
  have hwx1 := Int.emod_lt_of_pos x (show 0 < ww by omega)
  have hne : ww ≠ 0 := by omega
  have E1 : wrap64 (x.tdiv ww) = x / ww := by rw [Int.tdiv_eq_ediv_of_nonneg hx]; unfold wrap64; omega
  have E2 : x.tmod ww = x % ww := Int.tmod_eq_emod_of_nonneg hx
  obtain ⟨lx, hlx⟩ := Int.eq_ofNat_of_zero_le hlx0
  rw [hlx] at hDL hlx2 E1
  have hlx3 : lx < lv := by omega
  rw [Int.toNat_natCast] at hDL
  have HDL := Lib.hid hDL
  generalize nbT k lv x = DL at *
  generalize x % ww = wx at *
  have k0 := HC.out.m0
  have k1 := HC.out.m1
  have c0 := cellR 0 k0 rfl
  have c1 := cellR 1 k0 rfl
  have c2 := cellR 2 k0 rfl
  have d0 := cellR 0 k1 rfl
  have HBD := Lib.hid (And.intro hk2 (And.intro hlv2 (And.intro hlx3 (And.intro hwa (And.intro hwb (And.intro hwx0 hwx1))))))
  clear hDL hww hlv hx hx2 hww2 hw1 hlx0 hlx2 hlx hk hlv2 hwx0 hwx1 hwb hwa
  refine callsIn_of_wp Tryz.func187 rfl trivial ?_ rfl
  simp only [Tryz.ntmps187, List.size_toArray, List.length_cons, List.length_nil, Nat.reduceAdd, Nat.reduceSub, Array.replicate_succ, Array.replicate_zero, List.push_toArray, List.append_toArray, List.nil_append, List.cons_append]
  gi_wp2
  refine wpIn_wide.2 ?_
  go_quiet (fail)
  have HC2 : Hid (Has [(Bs, .cells #[.int .i64 (k : Int), .int .i64 (lv : Int), .int .i64 ww] 142 (0, 0)), (Bx, .cells #[.int .i64 x] 3 (0, 0))] (W.drewN nq)) := HC.out
  clear HC
  have HC := HC2
  clear HC2
  replace h0 : J [] (W.drewN nq) := HG.out [] _ _ h0 (below_drewN (Below.refl _ _) _)
  generalize W.drewN nq = W1 at *
  rw [E1]
  clear k0 k1 c0 c1 c2 d0 E1 E2
  by_cases h1 : 0 < lx
  · obtain ⟨m, hm⟩ : ∃ m, lx = m + 1 := ⟨lx - 1, by omega⟩
    have HM := Lib.hid hm
    have d0 : decide ((lx : Int) > 0) = true := decide_eq_true (by omega)
    have d0' : decide (0 < lx) = true := decide_eq_true h1
    have c0 := cellR 0 HC.out.m0 rfl
    clear hm
    gi_wp2
    gi_loopw [20] (fun a wr => ∃ d : Nat, d ≤ k ∧ a = .int .i64 (d : Int) ∧ J (dnT k ww m wx d) wr ∧ Hid (Has [(Bs, .cells #[.int .i64 (k : Int), .int .i64 (lv : Int), .int .i64 ww] 142 (0, 0)), (Bx, .cells #[.int .i64 x] 3 (0, 0))] wr)) (fun a _ => k - (intOf a).toNat)
    case atStart => exact ⟨0, Nat.zero_le _, rfl, h0, HC⟩
    case round =>
      clear h0 HC
      obtain ⟨d, hd, rfl, hJ, HC1⟩ := hrel
      have c0 := cellR 0 HC1.out.m0 rfl
      have c1 := cellR 1 HC1.out.m0 rfl
      have c2 := cellR 2 HC1.out.m0 rfl
      by_cases hlt : d < k
      · have d1 : decide ((d : Int) < (k : Int)) = true := decide_eq_true (by omega)
        obtain ⟨wv, hwv⟩ : ∃ wv, wv = wthI k m wx (d : Int) := ⟨_, rfl⟩
        have HNX : Hid (dnT k ww m wx (d + 1) = dnT k ww m wx d ++ [(m : Int) * ww + wv]) := by show _ = _; rw [hwv]; exact dnT_succ _ _ _ _ _
        have HLT : Hid (dnT k ww m wx d ++ [(m : Int) * ww + wv] <+: DL) := by
          show _ <+: _
          rw [← HNX.out, HDL.out]; unfold lvT; rw [if_pos (by have := HM.out; omega), show lx - 1 = m by have := HM.out; omega]
          exact (dnT_mono k ww m wx (show d + 1 ≤ k from hlt)).trans (List.prefix_append _ _)
        have h9 := HBD.out
        have hwb2 := HWI.out m wx (d : Int) (by have := HM.out; omega) h9.2.2.2.2.2.1 h9.2.2.2.2.2.2 (by omega) (by omega)
        rw [← hwv] at hwb2
        have HW1 := Lib.hid (fun W => HWT.out m (by have := HM.out; omega) wx (d : Int) h9.2.2.2.2.2.1 (by omega) (by omega) (by omega) W)
        rw [← hwv] at HW1
        have hmw : 0 ≤ (m : Int) * ww ∧ (m : Int) * ww ≤ 5 * 1000 := ⟨Int.mul_nonneg (by omega) (by omega), Int.mul_le_mul (by have := HM.out; omega) (by omega) (by omega) (by omega)⟩
        have ES1 : Hid (∀ W, (binOp .sub 3 (.int .i64 (lx : Int)) (.int .i64 1)).run Tryz.prog W = .ok (.int .i64 (m : Int)) W) := fun W => by
          have h8 := i64_sub (lx : Int) 1 (by have := HM.out; omega) (by have := HM.out; omega) W
          rwa [show (lx : Int) - 1 = (m : Int) by have := HM.out; omega] at h8
        have EM1 := Lib.hid (fun W => i64_mul (m : Int) ww (by omega) (by omega) W)
        have EA1 := Lib.hid (fun W => i64_add ((m : Int) * ww) wv (by omega) (by omega) W)
        clear h9 hwb2 hmw hwv
        gi_wp2
        have hJ' : J (dnT k ww m wx d) wr.drew := HG.out _ _ _ hJ ((Below.refl _ _).drew)
        have HC9 : Hid (Has [(Bs, .cells #[.int .i64 (k : Int), .int .i64 (lv : Int), .int .i64 ww] 142 (0, 0)), (Bx, .cells #[.int .i64 x] 3 (0, 0))] wr.drew) := HC1.out
        clear HC1
        have HC1 := HC9
        clear HC9
        refine region_det (by kernel_rfl) (I := fun listed a' w' => Hid (Has [(Bs, .cells #[.int .i64 (k : Int), .int .i64 (lv : Int), .int .i64 ww] 142 (0, 0)), (Bx, .cells #[.int .i64 x] 3 (0, 0))] w') ∧ Hid (J (if listed.getD 13 false = true then dnT k ww m wx (d + 1) else dnT k ww m wx d) w') ∧ Hid (listed.getD 13 false = true → listed.getD 11 false = true) ∧ Hid (listed.getD 13 false = true → listed.getD 12 false = true) ∧ Hid (listed.getD 12 false = true → listed.getD 11 false = true) ∧ a' = ⟨#[Value.func (Fn.yield ll) #[] #[], Value.pointer (some (Addr.mk Bx 0 none)), Value.pointer (some (Addr.mk Bs 0 none)), undef, Value.int IntKind.i64 ↑lx, Value.int IntKind.i64 wx, Value.int IntKind.i64 ↑d, undef, Value.int IntKind.i64 x, Value.pointer (some (Addr.mk Bs 2 none)), Value.int IntKind.i64 ww, Value.int IntKind.i64 ↑lx, Value.int IntKind.i64 x, Value.pointer (some (Addr.mk Bs 2 none)), Value.int IntKind.i64 ww, Value.int IntKind.i64 wx, Value.int IntKind.i64 ↑lx, Value.bool true, Value.pointer (some (Addr.mk Bs 0 none)), Value.int IntKind.i64 ↑k, Value.int IntKind.i64 ↑d, Value.bool true, Value.int IntKind.i64 ↑d, (if listed.getD 0 false = true then Value.func (Fn.yield ll) #[] #[] else u23), (if listed.getD 1 false = true then Value.int IntKind.i64 ((lx : Int)) else u24), (if listed.getD 2 false = true then Value.int IntKind.i64 ((m : Int)) else u25), (if listed.getD 3 false = true then Value.pointer (some ⟨Bs, 2, none⟩) else u26), (if listed.getD 4 false = true then Value.int IntKind.i64 (ww) else u27), (if listed.getD 5 false = true then Value.int IntKind.i64 ((m : Int) * ww) else u28), (if listed.getD 6 false = true then Value.agg #[Value.int IntKind.i64 (k : Int), Value.int IntKind.i64 (lv : Int), Value.int IntKind.i64 ww] else u29), (if listed.getD 7 false = true then Value.int IntKind.i64 (wx) else u30), (if listed.getD 8 false = true then Value.int IntKind.i64 ((lx : Int)) else u31), (if listed.getD 9 false = true then Value.int IntKind.i64 ((m : Int)) else u32), (if listed.getD 10 false = true then Value.int IntKind.i64 ((d : Int)) else u33), (if listed.getD 11 false = true then Value.int IntKind.i64 (wv) else u34), (if listed.getD 12 false = true then Value.int IntKind.i64 ((m : Int) * ww + wv) else u35), (if listed.getD 13 false = true then Value.bool true else u36), (if listed.getD 14 false = true then Value.bool false else u37), u38, undef, undef, undef, undef, undef, undef, undef, undef, undef, undef, undef, undef, undef, undef, undef, undef, undef, undef, undef, undef, undef, undef, undef, undef, undef], []⟩) (hup_check (by kernel_rfl)) ?h0 ?step ?fin
        case h0 => exact ⟨HC1, Lib.hid hJ', (fun h => by simp at h), (fun h => by simp at h), (fun h => by simp at h), rfl⟩
        case step => as_aux_lemma =>
          intro listed a' w' i hs hbi hdep hi ⟨IC, IJ, JY, JZ, JX, ha⟩
          obtain ⟨ls⟩ := listed
          match ls, hs with
          | [x0, x1, x2, x3, x4, x5, x6, x7, x8, x9, x10, x11, x12, x13, x14], _ =>
          subst ha
          have hi' : i = 0 ∨ i = 1 ∨ i = 2 ∨ i = 3 ∨ i = 4 ∨ i = 5 ∨ i = 6 ∨ i = 7 ∨ i = 8 ∨ i = 9 ∨ i = 10 ∨ i = 11 ∨ i = 12 ∨ i = 13 ∨ i = 14 := by simp at hi; omega
          rcases hi' with rfl | rfl | rfl | rfl | rfl | rfl | rfl | rfl | rfl | rfl | rfl | rfl | rfl | rfl | rfl
          · obtain rfl : x0 = false := by simpa using hbi
            refine wpOpIn_plain rfl rfl rfl ?_
            exact ⟨IC, IJ, JY, JZ, JX, rfl⟩
          · obtain rfl : x1 = false := by simpa using hbi
            refine wpOpIn_plain rfl rfl rfl ?_
            exact ⟨IC, IJ, JY, JZ, JX, rfl⟩
          · obtain rfl : x2 = false := by simpa using hbi
            obtain rfl : x1 = true := hdep _ rfl ⟨1, .data⟩ (by simp) rfl
            refine wpOpIn_plain (v := Value.int IntKind.i64 ((m : Int))) (w' := w') rfl rfl (sem_bin (vx := Value.int IntKind.i64 ((lx : Int))) (vy := Value.int IntKind.i64 (1)) rfl rfl rfl rfl (ES1.out w')) ?_
            exact ⟨IC, IJ, JY, JZ, JX, rfl⟩
          · obtain rfl : x3 = false := by simpa using hbi
            refine wpOpIn_plain rfl rfl rfl ?_
            exact ⟨IC, IJ, JY, JZ, JX, rfl⟩
          · obtain rfl : x4 = false := by simpa using hbi
            obtain rfl : x3 = true := hdep _ rfl ⟨3, .data⟩ (by simp) rfl
            have c9 := cellR 2 IC.out.m0 rfl
            refine wpOpIn_plain (v := Value.int IntKind.i64 (ww)) (w' := w') rfl rfl (by simp [Oper.semAt, execOp, go_sem, c9]) ?_
            exact ⟨IC, IJ, JY, JZ, JX, rfl⟩
          · obtain rfl : x5 = false := by simpa using hbi
            obtain rfl : x2 = true := hdep _ rfl ⟨2, .data⟩ (by simp) rfl
            obtain rfl : x4 = true := hdep _ rfl ⟨4, .data⟩ (by simp) rfl
            refine wpOpIn_plain (v := Value.int IntKind.i64 ((m : Int) * ww)) (w' := w') rfl rfl (sem_bin (vx := Value.int IntKind.i64 ((m : Int))) (vy := Value.int IntKind.i64 (ww)) rfl rfl rfl rfl (EM1.out w')) ?_
            exact ⟨IC, IJ, JY, JZ, JX, rfl⟩
          · obtain rfl : x6 = false := by simpa using hbi
            refine wpOpIn_load_row rfl rfl 142 _ rfl Bs rfl 142 _ _ _ IC.out.m0 Tryz.underlying142 rfl info109 ?_
            exact ⟨IC, IJ, JY, JZ, JX, rfl⟩
          · obtain rfl : x7 = false := by simpa using hbi
            refine wpOpIn_plain rfl rfl rfl ?_
            exact ⟨IC, IJ, JY, JZ, JX, rfl⟩
          · obtain rfl : x8 = false := by simpa using hbi
            refine wpOpIn_plain rfl rfl rfl ?_
            exact ⟨IC, IJ, JY, JZ, JX, rfl⟩
          · obtain rfl : x9 = false := by simpa using hbi
            obtain rfl : x8 = true := hdep _ rfl ⟨8, .data⟩ (by simp) rfl
            refine wpOpIn_plain (v := Value.int IntKind.i64 ((m : Int))) (w' := w') rfl rfl (sem_bin (vx := Value.int IntKind.i64 ((lx : Int))) (vy := Value.int IntKind.i64 (1)) rfl rfl rfl rfl (ES1.out w')) ?_
            exact ⟨IC, IJ, JY, JZ, JX, rfl⟩
          · obtain rfl : x10 = false := by simpa using hbi
            refine wpOpIn_plain rfl rfl rfl ?_
            exact ⟨IC, IJ, JY, JZ, JX, rfl⟩
          · obtain rfl : x11 = false := by simpa using hbi
            obtain rfl : x6 = true := hdep _ rfl ⟨6, .data⟩ (by simp) rfl
            obtain rfl : x7 = true := hdep _ rfl ⟨7, .data⟩ (by simp) rfl
            obtain rfl : x9 = true := hdep _ rfl ⟨9, .data⟩ (by simp) rfl
            obtain rfl : x10 = true := hdep _ rfl ⟨10, .data⟩ (by simp) rfl
            obtain rfl : x13 = false := Bool.eq_false_iff.2 fun h => by have := JY.out h; cases this
            refine wpOpIn_call (args := #[Value.agg #[Value.int IntKind.i64 (k : Int), Value.int IntKind.i64 (lv : Int), Value.int IntKind.i64 ww], Value.int IntKind.i64 (wx), Value.int IntKind.i64 ((m : Int)), Value.int IntKind.i64 ((d : Int))]) rfl rfl (sem_call4 rfl rfl rfl rfl rfl (enters_of Tryz.func188 (by kernel_rfl) rfl)) (HW1.out w') ?_
            rintro e V ⟨rfl, hb⟩
            exact ⟨_, rfl, (Lib.hid (IC.out.below hb)), (Lib.hid (HG.out _ _ _ IJ.out hb)), (fun _ => rfl), JZ, (fun _ => rfl), rfl⟩
          · obtain rfl : x12 = false := by simpa using hbi
            obtain rfl : x5 = true := hdep _ rfl ⟨5, .data⟩ (by simp) rfl
            obtain rfl : x11 = true := hdep _ rfl ⟨11, .data⟩ (by simp) rfl
            obtain rfl : x13 = false := Bool.eq_false_iff.2 fun h => by have := JZ.out h; cases this
            refine wpOpIn_plain (v := Value.int IntKind.i64 ((m : Int) * ww + wv)) (w' := w') rfl rfl (sem_bin (vx := Value.int IntKind.i64 ((m : Int) * ww)) (vy := Value.int IntKind.i64 (wv)) rfl rfl rfl rfl (EA1.out w')) ?_
            exact ⟨IC, IJ, JY, (fun _ => rfl), (fun _ => rfl), rfl⟩
          · obtain rfl : x13 = false := by simpa using hbi
            obtain rfl : x0 = true := hdep _ rfl ⟨0, .data⟩ (by simp) rfl
            obtain rfl : x12 = true := hdep _ rfl ⟨12, .data⟩ (by simp) rfl
            have ij : J (dnT k ww m wx d) w' := IJ.out
            obtain ⟨fn, tm, as_, bd, hy, hR⟩ := HY.out (dnT k ww m wx d) ((m : Int) * ww + wv) w' ij HLT.out
            rw [show dnT k ww m wx d ++ [(m : Int) * ww + wv] = dnT k ww m wx (d + 1) from HNX.out.symm] at hR
            refine wpOpIn_yield rfl rfl (by simp [Oper.semAt, execOp, resolve, invoke, Deferred.ofValue, Act.eval, hy]) hR ?_
            rintro e V ⟨rfl, h1, hkq⟩
            exact ⟨_, rfl, (Lib.hid (IC.out.kept hkq)), (Lib.hid h1), (fun _ => JX.out rfl), (fun _ => rfl), JX, rfl⟩
          · obtain rfl : x14 = false := by simpa using hbi
            obtain rfl : x13 = true := hdep _ rfl ⟨13, .data⟩ (by simp) rfl
            refine wpOpIn_plain (v := Value.bool false) (w' := w') rfl rfl (by simp [Oper.semAt, execOp, go_sem]) ?_
            exact ⟨IC, IJ, JY, JZ, JX, rfl⟩
        case fin =>
        intro listed a' Z hs hall ⟨IC, IJ, JY, JZ, JX, ha⟩
        obtain ⟨ls⟩ := listed
        match ls, hs with
        | [x0, x1, x2, x3, x4, x5, x6, x7, x8, x9, x10, x11, x12, x13, x14], _ =>
        obtain rfl : x0 = true := hall 0 (by simp)
        obtain rfl : x1 = true := hall 1 (by simp)
        obtain rfl : x2 = true := hall 2 (by simp)
        obtain rfl : x3 = true := hall 3 (by simp)
        obtain rfl : x4 = true := hall 4 (by simp)
        obtain rfl : x5 = true := hall 5 (by simp)
        obtain rfl : x6 = true := hall 6 (by simp)
        obtain rfl : x7 = true := hall 7 (by simp)
        obtain rfl : x8 = true := hall 8 (by simp)
        obtain rfl : x9 = true := hall 9 (by simp)
        obtain rfl : x10 = true := hall 10 (by simp)
        obtain rfl : x11 = true := hall 11 (by simp)
        obtain rfl : x12 = true := hall 12 (by simp)
        obtain rfl : x13 = true := hall 13 (by simp)
        obtain rfl : x14 = true := hall 14 (by simp)
        subst ha
        have HC2 := IC
        have HJ2 := IJ
        clear IC IJ JX JY JZ hall hs
        dsimp only [Exit.then, Exit.inBlock]
        have HWI1 := Lib.hid (wrap_small ((d : Int) + 1) (by omega) (by have := HBD.out.1; omega))
        have HCS : Hid (((d : Int) + 1) = ((d + 1 : Nat) : Int)) := by show _ = _; rw [Int.natCast_add]; rfl
        have HME : Hid (k - (intOf (.int .i64 ((d : Int) + 1))).toNat < k - (intOf (.int .i64 (d : Int))).toNat) := by show _ < _; simp [intOf]; omega
        have HMO : Hid (k - (intOf (.int .i64 (wrap64 ((d : Int) + 1)))).toNat < k - (intOf (.int .i64 (d : Int))).toNat) := by show _ < _; rw [HWI1.out]; exact HME.out
        have HK1 : Hid (d + 1 ≤ k) := hlt
        clear HW1 ES1 EM1 EA1 HLT HNX
        gi_wp2
        go_roundw
        case rel => exact ⟨d + 1, HK1.out, by first | rw [HWI1.out, HCS.out] | rw [HCS.out], HJ2.out, HC2⟩
        case measure => first | exact HMO.out | exact HME.out
      · have hdk : k = d := by omega
        subst hdk
        have h0 := hJ
        have HC := HC1
        clear hJ HC1 c0 c1 c2
        have HQ : Hid ((if 0 < lx then dnT k ww (lx - 1) wx k else []) = dnT k ww m wx k) := by show _ = _; rw [if_pos (by have := HM.out; omega), show lx - 1 = m by have := HM.out; omega]
        obtain ⟨QQ, hQ⟩ : ∃ QQ, QQ = dnT k ww m wx k := ⟨_, rfl⟩
        rw [← hQ] at h0 HQ
        clear hQ hd hlt
        have HCK := HC
        have c0 := cellR 0 HC.out.m0 rfl
        have c1 := cellR 1 HC.out.m0 rfl
        have c2 := cellR 2 HC.out.m0 rfl
        by_cases hl2 : lx < lv - 1
        · have d2 : decide ((lx : Int) < (lv : Int) - 1) = true := decide_eq_true (by omega)
          have HDL2 : Hid (DL = QQ ++ upT k ww lx wx k) := by show _ = _; rw [HDL.out]; unfold lvT; rw [HQ.out, if_pos hl2]
          have HL2 := Lib.hid hl2
          have hlw : wrap64 ((lv : Int) - 1) = (lv : Int) - 1 := wrap_small _ (by omega) (by have := HBD.out.2.1; omega)
          gi_wp2
          clear c0 c1 c2 hlw d2
          gi_loopw [46] (fun a wr => ∃ d : Nat, d ≤ k ∧ a = .int .i64 (d : Int) ∧ J (QQ ++ upT k ww lx wx d) wr ∧ Hid (Has [(Bs, .cells #[.int .i64 (k : Int), .int .i64 (lv : Int), .int .i64 ww] 142 (0, 0)), (Bx, .cells #[.int .i64 x] 3 (0, 0))] wr)) (fun a _ => k - (intOf a).toNat)
          case atStart => exact ⟨0, Nat.zero_le _, rfl, by rw [show upT k ww lx wx 0 = [] from rfl, List.append_nil]; exact h0, HC⟩
          case round =>
            clear h0 HC HCK
            obtain ⟨d2, hd, rfl, hJ, HC1⟩ := hrel
            have c0 := cellR 0 HC1.out.m0 rfl
            have c1 := cellR 1 HC1.out.m0 rfl
            have c2 := cellR 2 HC1.out.m0 rfl
            by_cases hlt : d2 < k
            · have d1 : decide ((d2 : Int) < (k : Int)) = true := decide_eq_true (by omega)
              obtain ⟨wv, hwv⟩ : ∃ wv, wv = wthI k lx wx (d2 : Int) := ⟨_, rfl⟩
              have HNX : Hid (QQ ++ upT k ww lx wx (d2 + 1) = QQ ++ upT k ww lx wx d2 ++ [((lx : Int) + 1) * ww + wv]) := by show _ = _; rw [hwv, upT_succ, List.append_assoc]
              have HLT : Hid (QQ ++ upT k ww lx wx d2 ++ [((lx : Int) + 1) * ww + wv] <+: DL) := by
                show _ <+: _
                rw [← HNX.out, HDL2.out]
                obtain ⟨r, hr⟩ := upT_mono _ ww lx wx (show d2 + 1 ≤ k from hlt)
                exact ⟨r, by rw [List.append_assoc, hr]⟩
              have h9 := HBD.out
              have hwb2 := HWI.out lx wx (d2 : Int) HL2.out h9.2.2.2.2.2.1 h9.2.2.2.2.2.2 (by omega) (by omega)
              rw [← hwv] at hwb2
              have HW1 := Lib.hid (fun W => HWT.out lx (by omega) wx (d2 : Int) h9.2.2.2.2.2.1 (by omega) (by omega) (by omega) W)
              rw [← hwv] at HW1
              have hmw : 0 ≤ ((lx : Int) + 1) * ww ∧ ((lx : Int) + 1) * ww ≤ 6 * 1000 := ⟨Int.mul_nonneg (by omega) (by omega), Int.mul_le_mul (by omega) (by omega) (by omega) (by omega)⟩
              have ES1 := Lib.hid (fun W => i64_add (lx : Int) 1 (by omega) (by omega) W)
              have EM1 := Lib.hid (fun W => i64_mul ((lx : Int) + 1) ww (by omega) (by omega) W)
              have EA1 := Lib.hid (fun W => i64_add (((lx : Int) + 1) * ww) wv (by omega) (by omega) W)
              clear h9 hwb2 hmw hwv
              gi_wp2
              have hJ' : J (QQ ++ upT k ww lx wx d2) wr.drew := HG.out _ _ _ hJ ((Below.refl _ _).drew)
              have HC9 : Hid (Has [(Bs, .cells #[.int .i64 (k : Int), .int .i64 (lv : Int), .int .i64 ww] 142 (0, 0)), (Bx, .cells #[.int .i64 x] 3 (0, 0))] wr.drew) := HC1.out
              clear HC1
              have HC1 := HC9
              clear HC9
              refine region_det (by kernel_rfl) (I := fun listed a' w' => Hid (Has [(Bs, .cells #[.int .i64 (k : Int), .int .i64 (lv : Int), .int .i64 ww] 142 (0, 0)), (Bx, .cells #[.int .i64 x] 3 (0, 0))] w') ∧ Hid (J (if listed.getD 12 false = true then QQ ++ upT k ww lx wx (d2 + 1) else QQ ++ upT k ww lx wx d2) w') ∧ Hid (listed.getD 12 false = true → listed.getD 10 false = true) ∧ Hid (listed.getD 12 false = true → listed.getD 11 false = true) ∧ Hid (listed.getD 11 false = true → listed.getD 10 false = true) ∧ a' = ⟨#[Value.func (Fn.yield ll) #[] #[], Value.pointer (some (Addr.mk Bx 0 none)), Value.pointer (some (Addr.mk Bs 0 none)), undef, Value.int IntKind.i64 ↑lx, Value.int IntKind.i64 wx, u6, Value.int IntKind.i64 ↑d2, Value.int IntKind.i64 x, Value.pointer (some (Addr.mk Bs 2 none)), Value.int IntKind.i64 ww, Value.int IntKind.i64 ↑lx, Value.int IntKind.i64 x, Value.pointer (some (Addr.mk Bs 2 none)), Value.int IntKind.i64 ww, Value.int IntKind.i64 wx, Value.int IntKind.i64 ↑lx, Value.bool true, Value.pointer (some (Addr.mk Bs 0 none)), Value.int IntKind.i64 ↑k, Value.int IntKind.i64 ↑k, Value.bool false, u22, u23, u24, u25, u26, u27, u28, u29, u30, u31, u32, u33, u34, u35, u36, u37, u38, Value.int IntKind.i64 ↑lx, Value.pointer (some (Addr.mk Bs 1 none)), Value.int IntKind.i64 ↑lv, Value.int IntKind.i64 (↑lv - 1), Value.bool true, Value.pointer (some (Addr.mk Bs 0 none)), Value.int IntKind.i64 ↑k, Value.int IntKind.i64 ↑d2, Value.bool true, Value.int IntKind.i64 ↑d2, (if listed.getD 0 false = true then Value.func (Fn.yield ll) #[] #[] else u49), (if listed.getD 1 false = true then Value.int IntKind.i64 ((lx : Int)) else u50), (if listed.getD 2 false = true then Value.int IntKind.i64 ((lx : Int) + 1) else u51), (if listed.getD 3 false = true then Value.pointer (some ⟨Bs, 2, none⟩) else u52), (if listed.getD 4 false = true then Value.int IntKind.i64 (ww) else u53), (if listed.getD 5 false = true then Value.int IntKind.i64 (((lx : Int) + 1) * ww) else u54), (if listed.getD 6 false = true then Value.agg #[Value.int IntKind.i64 (k : Int), Value.int IntKind.i64 (lv : Int), Value.int IntKind.i64 ww] else u55), (if listed.getD 7 false = true then Value.int IntKind.i64 (wx) else u56), (if listed.getD 8 false = true then Value.int IntKind.i64 ((lx : Int)) else u57), (if listed.getD 9 false = true then Value.int IntKind.i64 ((d2 : Int)) else u58), (if listed.getD 10 false = true then Value.int IntKind.i64 (wv) else u59), (if listed.getD 11 false = true then Value.int IntKind.i64 (((lx : Int) + 1) * ww + wv) else u60), (if listed.getD 12 false = true then Value.bool true else u61), (if listed.getD 13 false = true then Value.bool false else u62), u63], []⟩) (hup_check (by kernel_rfl)) ?h0 ?step ?fin
              case h0 => exact ⟨HC1, Lib.hid hJ', (fun h => by simp at h), (fun h => by simp at h), (fun h => by simp at h), rfl⟩
              case step => as_aux_lemma =>
                intro listed a' w' i hs hbi hdep hi ⟨IC, IJ, JY, JZ, JX, ha⟩
                obtain ⟨ls⟩ := listed
                match ls, hs with
                | [x0, x1, x2, x3, x4, x5, x6, x7, x8, x9, x10, x11, x12, x13], _ =>
                subst ha
                have hi' : i = 0 ∨ i = 1 ∨ i = 2 ∨ i = 3 ∨ i = 4 ∨ i = 5 ∨ i = 6 ∨ i = 7 ∨ i = 8 ∨ i = 9 ∨ i = 10 ∨ i = 11 ∨ i = 12 ∨ i = 13 := by simp at hi; omega
                rcases hi' with rfl | rfl | rfl | rfl | rfl | rfl | rfl | rfl | rfl | rfl | rfl | rfl | rfl | rfl
                · obtain rfl : x0 = false := by simpa using hbi
                  refine wpOpIn_plain rfl rfl rfl ?_
                  exact ⟨IC, IJ, JY, JZ, JX, rfl⟩
                · obtain rfl : x1 = false := by simpa using hbi
                  refine wpOpIn_plain rfl rfl rfl ?_
                  exact ⟨IC, IJ, JY, JZ, JX, rfl⟩
                · obtain rfl : x2 = false := by simpa using hbi
                  obtain rfl : x1 = true := hdep _ rfl ⟨1, .data⟩ (by simp) rfl
                  refine wpOpIn_plain (v := Value.int IntKind.i64 ((lx : Int) + 1)) (w' := w') rfl rfl (sem_bin (vx := Value.int IntKind.i64 ((lx : Int))) (vy := Value.int IntKind.i64 (1)) rfl rfl rfl rfl (ES1.out w')) ?_
                  exact ⟨IC, IJ, JY, JZ, JX, rfl⟩
                · obtain rfl : x3 = false := by simpa using hbi
                  refine wpOpIn_plain rfl rfl rfl ?_
                  exact ⟨IC, IJ, JY, JZ, JX, rfl⟩
                · obtain rfl : x4 = false := by simpa using hbi
                  obtain rfl : x3 = true := hdep _ rfl ⟨3, .data⟩ (by simp) rfl
                  have c9 := cellR 2 IC.out.m0 rfl
                  refine wpOpIn_plain (v := Value.int IntKind.i64 (ww)) (w' := w') rfl rfl (by simp [Oper.semAt, execOp, go_sem, c9]) ?_
                  exact ⟨IC, IJ, JY, JZ, JX, rfl⟩
                · obtain rfl : x5 = false := by simpa using hbi
                  obtain rfl : x2 = true := hdep _ rfl ⟨2, .data⟩ (by simp) rfl
                  obtain rfl : x4 = true := hdep _ rfl ⟨4, .data⟩ (by simp) rfl
                  refine wpOpIn_plain (v := Value.int IntKind.i64 (((lx : Int) + 1) * ww)) (w' := w') rfl rfl (sem_bin (vx := Value.int IntKind.i64 (((lx : Int) + 1))) (vy := Value.int IntKind.i64 (ww)) rfl rfl rfl rfl (EM1.out w')) ?_
                  exact ⟨IC, IJ, JY, JZ, JX, rfl⟩
                · obtain rfl : x6 = false := by simpa using hbi
                  refine wpOpIn_load_row rfl rfl 142 _ rfl Bs rfl 142 _ _ _ IC.out.m0 Tryz.underlying142 rfl info109 ?_
                  exact ⟨IC, IJ, JY, JZ, JX, rfl⟩
                · obtain rfl : x7 = false := by simpa using hbi
                  refine wpOpIn_plain rfl rfl rfl ?_
                  exact ⟨IC, IJ, JY, JZ, JX, rfl⟩
                · obtain rfl : x8 = false := by simpa using hbi
                  refine wpOpIn_plain rfl rfl rfl ?_
                  exact ⟨IC, IJ, JY, JZ, JX, rfl⟩
                · obtain rfl : x9 = false := by simpa using hbi
                  refine wpOpIn_plain rfl rfl rfl ?_
                  exact ⟨IC, IJ, JY, JZ, JX, rfl⟩
                · obtain rfl : x10 = false := by simpa using hbi
                  obtain rfl : x6 = true := hdep _ rfl ⟨6, .data⟩ (by simp) rfl
                  obtain rfl : x7 = true := hdep _ rfl ⟨7, .data⟩ (by simp) rfl
                  obtain rfl : x8 = true := hdep _ rfl ⟨8, .data⟩ (by simp) rfl
                  obtain rfl : x9 = true := hdep _ rfl ⟨9, .data⟩ (by simp) rfl
                  obtain rfl : x12 = false := Bool.eq_false_iff.2 fun h => by have := JY.out h; cases this
                  refine wpOpIn_call (args := #[Value.agg #[Value.int IntKind.i64 (k : Int), Value.int IntKind.i64 (lv : Int), Value.int IntKind.i64 ww], Value.int IntKind.i64 (wx), Value.int IntKind.i64 ((lx : Int)), Value.int IntKind.i64 ((d2 : Int))]) rfl rfl (sem_call4 rfl rfl rfl rfl rfl (enters_of Tryz.func188 (by kernel_rfl) rfl)) (HW1.out w') ?_
                  rintro e V ⟨rfl, hb⟩
                  exact ⟨_, rfl, (Lib.hid (IC.out.below hb)), (Lib.hid (HG.out _ _ _ IJ.out hb)), (fun _ => rfl), JZ, (fun _ => rfl), rfl⟩
                · obtain rfl : x11 = false := by simpa using hbi
                  obtain rfl : x5 = true := hdep _ rfl ⟨5, .data⟩ (by simp) rfl
                  obtain rfl : x10 = true := hdep _ rfl ⟨10, .data⟩ (by simp) rfl
                  obtain rfl : x12 = false := Bool.eq_false_iff.2 fun h => by have := JZ.out h; cases this
                  refine wpOpIn_plain (v := Value.int IntKind.i64 (((lx : Int) + 1) * ww + wv)) (w' := w') rfl rfl (sem_bin (vx := Value.int IntKind.i64 (((lx : Int) + 1) * ww)) (vy := Value.int IntKind.i64 (wv)) rfl rfl rfl rfl (EA1.out w')) ?_
                  exact ⟨IC, IJ, JY, (fun _ => rfl), (fun _ => rfl), rfl⟩
                · obtain rfl : x12 = false := by simpa using hbi
                  obtain rfl : x0 = true := hdep _ rfl ⟨0, .data⟩ (by simp) rfl
                  obtain rfl : x11 = true := hdep _ rfl ⟨11, .data⟩ (by simp) rfl
                  have ij : J (QQ ++ upT k ww lx wx d2) w' := IJ.out
                  obtain ⟨fn, tm, as_, bd, hy, hR⟩ := HY.out (QQ ++ upT k ww lx wx d2) (((lx : Int) + 1) * ww + wv) w' ij HLT.out
                  rw [show QQ ++ upT k ww lx wx d2 ++ [((lx : Int) + 1) * ww + wv] = QQ ++ upT k ww lx wx (d2 + 1) from HNX.out.symm] at hR
                  refine wpOpIn_yield rfl rfl (by simp [Oper.semAt, execOp, resolve, invoke, Deferred.ofValue, Act.eval, hy]) hR ?_
                  rintro e V ⟨rfl, h1, hkq⟩
                  exact ⟨_, rfl, (Lib.hid (IC.out.kept hkq)), (Lib.hid h1), (fun _ => JX.out rfl), (fun _ => rfl), JX, rfl⟩
                · obtain rfl : x13 = false := by simpa using hbi
                  obtain rfl : x12 = true := hdep _ rfl ⟨12, .data⟩ (by simp) rfl
                  refine wpOpIn_plain (v := Value.bool false) (w' := w') rfl rfl (by simp [Oper.semAt, execOp, go_sem]) ?_
                  exact ⟨IC, IJ, JY, JZ, JX, rfl⟩
              case fin =>
              intro listed a' Z hs hall ⟨IC, IJ, JY, JZ, JX, ha⟩
              obtain ⟨ls⟩ := listed
              match ls, hs with
              | [x0, x1, x2, x3, x4, x5, x6, x7, x8, x9, x10, x11, x12, x13], _ =>
              obtain rfl : x0 = true := hall 0 (by simp)
              obtain rfl : x1 = true := hall 1 (by simp)
              obtain rfl : x2 = true := hall 2 (by simp)
              obtain rfl : x3 = true := hall 3 (by simp)
              obtain rfl : x4 = true := hall 4 (by simp)
              obtain rfl : x5 = true := hall 5 (by simp)
              obtain rfl : x6 = true := hall 6 (by simp)
              obtain rfl : x7 = true := hall 7 (by simp)
              obtain rfl : x8 = true := hall 8 (by simp)
              obtain rfl : x9 = true := hall 9 (by simp)
              obtain rfl : x10 = true := hall 10 (by simp)
              obtain rfl : x11 = true := hall 11 (by simp)
              obtain rfl : x12 = true := hall 12 (by simp)
              obtain rfl : x13 = true := hall 13 (by simp)
              subst ha
              have HC2 := IC
              have HJ2 := IJ
              clear IC IJ JX JY JZ hall hs
              dsimp only [Exit.then, Exit.inBlock]
              have HWI1 := Lib.hid (wrap_small ((d2 : Int) + 1) (by omega) (by have := HBD.out.1; omega))
              have HCS : Hid (((d2 : Int) + 1) = ((d2 + 1 : Nat) : Int)) := by show _ = _; rw [Int.natCast_add]; rfl
              have HME : Hid (k - (intOf (.int .i64 ((d2 : Int) + 1))).toNat < k - (intOf (.int .i64 (d2 : Int))).toNat) := by show _ < _; simp [intOf]; omega
              have HMO : Hid (k - (intOf (.int .i64 (wrap64 ((d2 : Int) + 1)))).toNat < k - (intOf (.int .i64 (d2 : Int))).toNat) := by show _ < _; rw [HWI1.out]; exact HME.out
              have HK1 : Hid (d2 + 1 ≤ k) := hlt
              clear HW1 ES1 EM1 EA1 HLT HNX
              gi_wp2
              go_roundw
              case rel => exact ⟨d2 + 1, HK1.out, by first | rw [HWI1.out, HCS.out] | rw [HCS.out], HJ2.out, HC2⟩
              case measure => first | exact HMO.out | exact HME.out
            · have hdk : k = d2 := by omega
              subst hdk
              clear HC1 c0 c1 c2
              rw [← HDL2.out] at hJ
              gi_wp2
              go_end0
              exact ⟨⟨_, rfl⟩, hJ⟩
        · have d2 : decide ((lx : Int) < (lv : Int) - 1) = false := decide_eq_false (by have := HBD.out.2.2.1; omega)
          have HDL2 : Hid (DL = QQ) := by show _ = _; rw [HDL.out]; unfold lvT; rw [HQ.out, if_neg hl2, List.append_nil]
          have hlw : wrap64 ((lv : Int) - 1) = (lv : Int) - 1 := wrap_small _ (by omega) (by have := HBD.out.2.1; omega)
          rw [← HDL2.out] at h0
          gi_wp2
          go_end0
          exact ⟨⟨_, rfl⟩, h0⟩
  · have h1e : lx = 0 := by omega
    have d0 : decide ((lx : Int) > 0) = false := decide_eq_false (by omega)
    have d0' : decide (0 < lx) = false := decide_eq_false h1
    obtain ⟨QQ, hQ⟩ : ∃ QQ : List Int, QQ = [] := ⟨_, rfl⟩
    have HQ : Hid ((if 0 < lx then dnT k ww (lx - 1) wx k else []) = QQ) := by show _ = _; rw [if_neg h1, hQ]
    rw [← hQ] at h0
    clear hQ h1e
    have HCK := HC
    have c0 := cellR 0 HC.out.m0 rfl
    have c1 := cellR 1 HC.out.m0 rfl
    have c2 := cellR 2 HC.out.m0 rfl
    by_cases hl2 : lx < lv - 1
    · have d2 : decide ((lx : Int) < (lv : Int) - 1) = true := decide_eq_true (by omega)
      have HDL2 : Hid (DL = QQ ++ upT k ww lx wx k) := by show _ = _; rw [HDL.out]; unfold lvT; rw [HQ.out, if_pos hl2]
      have HL2 := Lib.hid hl2
      have hlw : wrap64 ((lv : Int) - 1) = (lv : Int) - 1 := wrap_small _ (by omega) (by have := HBD.out.2.1; omega)
      gi_wp2
      clear c0 c1 c2 hlw d2
      gi_loopw [46] (fun a wr => ∃ d : Nat, d ≤ k ∧ a = .int .i64 (d : Int) ∧ J (QQ ++ upT k ww lx wx d) wr ∧ Hid (Has [(Bs, .cells #[.int .i64 (k : Int), .int .i64 (lv : Int), .int .i64 ww] 142 (0, 0)), (Bx, .cells #[.int .i64 x] 3 (0, 0))] wr)) (fun a _ => k - (intOf a).toNat)
      case atStart => exact ⟨0, Nat.zero_le _, rfl, by rw [show upT k ww lx wx 0 = [] from rfl, List.append_nil]; exact h0, HC⟩
      case round =>
        clear h0 HC HCK
        obtain ⟨d2, hd, rfl, hJ, HC1⟩ := hrel
        have c0 := cellR 0 HC1.out.m0 rfl
        have c1 := cellR 1 HC1.out.m0 rfl
        have c2 := cellR 2 HC1.out.m0 rfl
        by_cases hlt : d2 < k
        · have d1 : decide ((d2 : Int) < (k : Int)) = true := decide_eq_true (by omega)
          obtain ⟨wv, hwv⟩ : ∃ wv, wv = wthI k lx wx (d2 : Int) := ⟨_, rfl⟩
          have HNX : Hid (QQ ++ upT k ww lx wx (d2 + 1) = QQ ++ upT k ww lx wx d2 ++ [((lx : Int) + 1) * ww + wv]) := by show _ = _; rw [hwv, upT_succ, List.append_assoc]
          have HLT : Hid (QQ ++ upT k ww lx wx d2 ++ [((lx : Int) + 1) * ww + wv] <+: DL) := by
            show _ <+: _
            rw [← HNX.out, HDL2.out]
            obtain ⟨r, hr⟩ := upT_mono _ ww lx wx (show d2 + 1 ≤ k from hlt)
            exact ⟨r, by rw [List.append_assoc, hr]⟩
          have h9 := HBD.out
          have hwb2 := HWI.out lx wx (d2 : Int) HL2.out h9.2.2.2.2.2.1 h9.2.2.2.2.2.2 (by omega) (by omega)
          rw [← hwv] at hwb2
          have HW1 := Lib.hid (fun W => HWT.out lx (by omega) wx (d2 : Int) h9.2.2.2.2.2.1 (by omega) (by omega) (by omega) W)
          rw [← hwv] at HW1
          have hmw : 0 ≤ ((lx : Int) + 1) * ww ∧ ((lx : Int) + 1) * ww ≤ 6 * 1000 := ⟨Int.mul_nonneg (by omega) (by omega), Int.mul_le_mul (by omega) (by omega) (by omega) (by omega)⟩
          have ES1 := Lib.hid (fun W => i64_add (lx : Int) 1 (by omega) (by omega) W)
          have EM1 := Lib.hid (fun W => i64_mul ((lx : Int) + 1) ww (by omega) (by omega) W)
          have EA1 := Lib.hid (fun W => i64_add (((lx : Int) + 1) * ww) wv (by omega) (by omega) W)
          clear h9 hwb2 hmw hwv
          gi_wp2
          have hJ' : J (QQ ++ upT k ww lx wx d2) wr.drew := HG.out _ _ _ hJ ((Below.refl _ _).drew)
          have HC9 : Hid (Has [(Bs, .cells #[.int .i64 (k : Int), .int .i64 (lv : Int), .int .i64 ww] 142 (0, 0)), (Bx, .cells #[.int .i64 x] 3 (0, 0))] wr.drew) := HC1.out
          clear HC1
          have HC1 := HC9
          clear HC9
          refine region_det (by kernel_rfl) (I := fun listed a' w' => Hid (Has [(Bs, .cells #[.int .i64 (k : Int), .int .i64 (lv : Int), .int .i64 ww] 142 (0, 0)), (Bx, .cells #[.int .i64 x] 3 (0, 0))] w') ∧ Hid (J (if listed.getD 12 false = true then QQ ++ upT k ww lx wx (d2 + 1) else QQ ++ upT k ww lx wx d2) w') ∧ Hid (listed.getD 12 false = true → listed.getD 10 false = true) ∧ Hid (listed.getD 12 false = true → listed.getD 11 false = true) ∧ Hid (listed.getD 11 false = true → listed.getD 10 false = true) ∧ a' = ⟨#[Value.func (Fn.yield ll) #[] #[], Value.pointer (some (Addr.mk Bx 0 none)), Value.pointer (some (Addr.mk Bs 0 none)), undef, Value.int IntKind.i64 ↑lx, Value.int IntKind.i64 wx, undef, Value.int IntKind.i64 ↑d2, Value.int IntKind.i64 x, Value.pointer (some (Addr.mk Bs 2 none)), Value.int IntKind.i64 ww, Value.int IntKind.i64 ↑lx, Value.int IntKind.i64 x, Value.pointer (some (Addr.mk Bs 2 none)), Value.int IntKind.i64 ww, Value.int IntKind.i64 wx, Value.int IntKind.i64 ↑lx, Value.bool false, undef, undef, undef, undef, undef, undef, undef, undef, undef, undef, undef, undef, undef, undef, undef, undef, undef, undef, undef, undef, undef, Value.int IntKind.i64 ↑lx, Value.pointer (some (Addr.mk Bs 1 none)), Value.int IntKind.i64 ↑lv, Value.int IntKind.i64 (↑lv - 1), Value.bool true, Value.pointer (some (Addr.mk Bs 0 none)), Value.int IntKind.i64 ↑k, Value.int IntKind.i64 ↑d2, Value.bool true, Value.int IntKind.i64 ↑d2, (if listed.getD 0 false = true then Value.func (Fn.yield ll) #[] #[] else u49), (if listed.getD 1 false = true then Value.int IntKind.i64 ((lx : Int)) else u50), (if listed.getD 2 false = true then Value.int IntKind.i64 ((lx : Int) + 1) else u51), (if listed.getD 3 false = true then Value.pointer (some ⟨Bs, 2, none⟩) else u52), (if listed.getD 4 false = true then Value.int IntKind.i64 (ww) else u53), (if listed.getD 5 false = true then Value.int IntKind.i64 (((lx : Int) + 1) * ww) else u54), (if listed.getD 6 false = true then Value.agg #[Value.int IntKind.i64 (k : Int), Value.int IntKind.i64 (lv : Int), Value.int IntKind.i64 ww] else u55), (if listed.getD 7 false = true then Value.int IntKind.i64 (wx) else u56), (if listed.getD 8 false = true then Value.int IntKind.i64 ((lx : Int)) else u57), (if listed.getD 9 false = true then Value.int IntKind.i64 ((d2 : Int)) else u58), (if listed.getD 10 false = true then Value.int IntKind.i64 (wv) else u59), (if listed.getD 11 false = true then Value.int IntKind.i64 (((lx : Int) + 1) * ww + wv) else u60), (if listed.getD 12 false = true then Value.bool true else u61), (if listed.getD 13 false = true then Value.bool false else u62), u63], []⟩) (hup_check (by kernel_rfl)) ?h0 ?step ?fin
          case h0 => exact ⟨HC1, Lib.hid hJ', (fun h => by simp at h), (fun h => by simp at h), (fun h => by simp at h), rfl⟩
          case step => as_aux_lemma =>
            intro listed a' w' i hs hbi hdep hi ⟨IC, IJ, JY, JZ, JX, ha⟩
            obtain ⟨ls⟩ := listed
            match ls, hs with
            | [x0, x1, x2, x3, x4, x5, x6, x7, x8, x9, x10, x11, x12, x13], _ =>
            subst ha
            have hi' : i = 0 ∨ i = 1 ∨ i = 2 ∨ i = 3 ∨ i = 4 ∨ i = 5 ∨ i = 6 ∨ i = 7 ∨ i = 8 ∨ i = 9 ∨ i = 10 ∨ i = 11 ∨ i = 12 ∨ i = 13 := by simp at hi; omega
            rcases hi' with rfl | rfl | rfl | rfl | rfl | rfl | rfl | rfl | rfl | rfl | rfl | rfl | rfl | rfl
            · obtain rfl : x0 = false := by simpa using hbi
              refine wpOpIn_plain rfl rfl rfl ?_
              exact ⟨IC, IJ, JY, JZ, JX, rfl⟩
            · obtain rfl : x1 = false := by simpa using hbi
              refine wpOpIn_plain rfl rfl rfl ?_
              exact ⟨IC, IJ, JY, JZ, JX, rfl⟩
            · obtain rfl : x2 = false := by simpa using hbi
              obtain rfl : x1 = true := hdep _ rfl ⟨1, .data⟩ (by simp) rfl
              refine wpOpIn_plain (v := Value.int IntKind.i64 ((lx : Int) + 1)) (w' := w') rfl rfl (sem_bin (vx := Value.int IntKind.i64 ((lx : Int))) (vy := Value.int IntKind.i64 (1)) rfl rfl rfl rfl (ES1.out w')) ?_
              exact ⟨IC, IJ, JY, JZ, JX, rfl⟩
            · obtain rfl : x3 = false := by simpa using hbi
              refine wpOpIn_plain rfl rfl rfl ?_
              exact ⟨IC, IJ, JY, JZ, JX, rfl⟩
            · obtain rfl : x4 = false := by simpa using hbi
              obtain rfl : x3 = true := hdep _ rfl ⟨3, .data⟩ (by simp) rfl
              have c9 := cellR 2 IC.out.m0 rfl
              refine wpOpIn_plain (v := Value.int IntKind.i64 (ww)) (w' := w') rfl rfl (by simp [Oper.semAt, execOp, go_sem, c9]) ?_
              exact ⟨IC, IJ, JY, JZ, JX, rfl⟩
            · obtain rfl : x5 = false := by simpa using hbi
              obtain rfl : x2 = true := hdep _ rfl ⟨2, .data⟩ (by simp) rfl
              obtain rfl : x4 = true := hdep _ rfl ⟨4, .data⟩ (by simp) rfl
              refine wpOpIn_plain (v := Value.int IntKind.i64 (((lx : Int) + 1) * ww)) (w' := w') rfl rfl (sem_bin (vx := Value.int IntKind.i64 (((lx : Int) + 1))) (vy := Value.int IntKind.i64 (ww)) rfl rfl rfl rfl (EM1.out w')) ?_
              exact ⟨IC, IJ, JY, JZ, JX, rfl⟩
            · obtain rfl : x6 = false := by simpa using hbi
              refine wpOpIn_load_row rfl rfl 142 _ rfl Bs rfl 142 _ _ _ IC.out.m0 Tryz.underlying142 rfl info109 ?_
              exact ⟨IC, IJ, JY, JZ, JX, rfl⟩
            · obtain rfl : x7 = false := by simpa using hbi
              refine wpOpIn_plain rfl rfl rfl ?_
              exact ⟨IC, IJ, JY, JZ, JX, rfl⟩
            · obtain rfl : x8 = false := by simpa using hbi
              refine wpOpIn_plain rfl rfl rfl ?_
              exact ⟨IC, IJ, JY, JZ, JX, rfl⟩
            · obtain rfl : x9 = false := by simpa using hbi
              refine wpOpIn_plain rfl rfl rfl ?_
              exact ⟨IC, IJ, JY, JZ, JX, rfl⟩
            · obtain rfl : x10 = false := by simpa using hbi
              obtain rfl : x6 = true := hdep _ rfl ⟨6, .data⟩ (by simp) rfl
              obtain rfl : x7 = true := hdep _ rfl ⟨7, .data⟩ (by simp) rfl
              obtain rfl : x8 = true := hdep _ rfl ⟨8, .data⟩ (by simp) rfl
              obtain rfl : x9 = true := hdep _ rfl ⟨9, .data⟩ (by simp) rfl
              obtain rfl : x12 = false := Bool.eq_false_iff.2 fun h => by have := JY.out h; cases this
              refine wpOpIn_call (args := #[Value.agg #[Value.int IntKind.i64 (k : Int), Value.int IntKind.i64 (lv : Int), Value.int IntKind.i64 ww], Value.int IntKind.i64 (wx), Value.int IntKind.i64 ((lx : Int)), Value.int IntKind.i64 ((d2 : Int))]) rfl rfl (sem_call4 rfl rfl rfl rfl rfl (enters_of Tryz.func188 (by kernel_rfl) rfl)) (HW1.out w') ?_
              rintro e V ⟨rfl, hb⟩
              exact ⟨_, rfl, (Lib.hid (IC.out.below hb)), (Lib.hid (HG.out _ _ _ IJ.out hb)), (fun _ => rfl), JZ, (fun _ => rfl), rfl⟩
            · obtain rfl : x11 = false := by simpa using hbi
              obtain rfl : x5 = true := hdep _ rfl ⟨5, .data⟩ (by simp) rfl
              obtain rfl : x10 = true := hdep _ rfl ⟨10, .data⟩ (by simp) rfl
              obtain rfl : x12 = false := Bool.eq_false_iff.2 fun h => by have := JZ.out h; cases this
              refine wpOpIn_plain (v := Value.int IntKind.i64 (((lx : Int) + 1) * ww + wv)) (w' := w') rfl rfl (sem_bin (vx := Value.int IntKind.i64 (((lx : Int) + 1) * ww)) (vy := Value.int IntKind.i64 (wv)) rfl rfl rfl rfl (EA1.out w')) ?_
              exact ⟨IC, IJ, JY, (fun _ => rfl), (fun _ => rfl), rfl⟩
            · obtain rfl : x12 = false := by simpa using hbi
              obtain rfl : x0 = true := hdep _ rfl ⟨0, .data⟩ (by simp) rfl
              obtain rfl : x11 = true := hdep _ rfl ⟨11, .data⟩ (by simp) rfl
              have ij : J (QQ ++ upT k ww lx wx d2) w' := IJ.out
              obtain ⟨fn, tm, as_, bd, hy, hR⟩ := HY.out (QQ ++ upT k ww lx wx d2) (((lx : Int) + 1) * ww + wv) w' ij HLT.out
              rw [show QQ ++ upT k ww lx wx d2 ++ [((lx : Int) + 1) * ww + wv] = QQ ++ upT k ww lx wx (d2 + 1) from HNX.out.symm] at hR
              refine wpOpIn_yield rfl rfl (by simp [Oper.semAt, execOp, resolve, invoke, Deferred.ofValue, Act.eval, hy]) hR ?_
              rintro e V ⟨rfl, h1, hkq⟩
              exact ⟨_, rfl, (Lib.hid (IC.out.kept hkq)), (Lib.hid h1), (fun _ => JX.out rfl), (fun _ => rfl), JX, rfl⟩
            · obtain rfl : x13 = false := by simpa using hbi
              obtain rfl : x12 = true := hdep _ rfl ⟨12, .data⟩ (by simp) rfl
              refine wpOpIn_plain (v := Value.bool false) (w' := w') rfl rfl (by simp [Oper.semAt, execOp, go_sem]) ?_
              exact ⟨IC, IJ, JY, JZ, JX, rfl⟩
          case fin =>
          intro listed a' Z hs hall ⟨IC, IJ, JY, JZ, JX, ha⟩
          obtain ⟨ls⟩ := listed
          match ls, hs with
          | [x0, x1, x2, x3, x4, x5, x6, x7, x8, x9, x10, x11, x12, x13], _ =>
          obtain rfl : x0 = true := hall 0 (by simp)
          obtain rfl : x1 = true := hall 1 (by simp)
          obtain rfl : x2 = true := hall 2 (by simp)
          obtain rfl : x3 = true := hall 3 (by simp)
          obtain rfl : x4 = true := hall 4 (by simp)
          obtain rfl : x5 = true := hall 5 (by simp)
          obtain rfl : x6 = true := hall 6 (by simp)
          obtain rfl : x7 = true := hall 7 (by simp)
          obtain rfl : x8 = true := hall 8 (by simp)
          obtain rfl : x9 = true := hall 9 (by simp)
          obtain rfl : x10 = true := hall 10 (by simp)
          obtain rfl : x11 = true := hall 11 (by simp)
          obtain rfl : x12 = true := hall 12 (by simp)
          obtain rfl : x13 = true := hall 13 (by simp)
          subst ha
          have HC2 := IC
          have HJ2 := IJ
          clear IC IJ JX JY JZ hall hs
          dsimp only [Exit.then, Exit.inBlock]
          have HWI1 := Lib.hid (wrap_small ((d2 : Int) + 1) (by omega) (by have := HBD.out.1; omega))
          have HCS : Hid (((d2 : Int) + 1) = ((d2 + 1 : Nat) : Int)) := by show _ = _; rw [Int.natCast_add]; rfl
          have HME : Hid (k - (intOf (.int .i64 ((d2 : Int) + 1))).toNat < k - (intOf (.int .i64 (d2 : Int))).toNat) := by show _ < _; simp [intOf]; omega
          have HMO : Hid (k - (intOf (.int .i64 (wrap64 ((d2 : Int) + 1)))).toNat < k - (intOf (.int .i64 (d2 : Int))).toNat) := by show _ < _; rw [HWI1.out]; exact HME.out
          have HK1 : Hid (d2 + 1 ≤ k) := hlt
          clear HW1 ES1 EM1 EA1 HLT HNX
          gi_wp2
          go_roundw
          case rel => exact ⟨d2 + 1, HK1.out, by first | rw [HWI1.out, HCS.out] | rw [HCS.out], HJ2.out, HC2⟩
          case measure => first | exact HMO.out | exact HME.out
        · have hdk : k = d2 := by omega
          subst hdk
          clear HC1 c0 c1 c2
          rw [← HDL2.out] at hJ
          gi_wp2
          go_end0
          exact ⟨⟨_, rfl⟩, hJ⟩
    · have d2 : decide ((lx : Int) < (lv : Int) - 1) = false := decide_eq_false (by have := HBD.out.2.2.1; omega)
      have HDL2 : Hid (DL = QQ) := by show _ = _; rw [HDL.out]; unfold lvT; rw [HQ.out, if_neg hl2, List.append_nil]
      have hlw : wrap64 ((lv : Int) - 1) = (lv : Int) - 1 := wrap_small _ (by omega) (by have := HBD.out.2.1; omega)
      rw [← HDL2.out] at h0
      gi_wp2
      go_end0
      exact ⟨⟨_, rfl⟩, h0⟩
end Go.Proofs.YtbhkenphcahifaaGreat

namespace Go.Proofs.YtbhkenphcahifaaGreat
open Go.RowKit Go.Shelf
attribute [local go_sem] Oper.semAt_some
set_option maxRecDepth 100000
set_option maxHeartbeats 1000000

theorem make_cap (c : Nat) (hc : c ≤ 1000000) (w : World) : (Instr.makeSlice 22 (.int .i64 0) (.int .i64 c)).run Tryz.prog w = .ok (.slice (some ⟨w.heap.size, 0, none⟩) 0 c) (w.alloc (.cells (rowA (List.replicate c 0)) 3)) := by
  obtain ⟨i0, hi, hz0, hz1, hz2⟩ := info_parts Tryz.info3
  have := run_make (P := Tryz.prog) w 22 3 i0 (.int .i64 0) Tryz.underlying22 hi hz0 .i64 .i64 0 c (by omega) (by omega) (by rw [hz2]; omega) (by omega)
  rw [this, hz1]
  simp only [Int.toNat_natCast, Nat.mul_one]
  congr 3
  unfold rowA madeCells
  apply Array.ext
  · simp
  · intro i h1 h2
    simp [Value.cells, Nat.mod_one]
theorem new_cap (c B : Nat) (hc : c ≤ 1000000) (w : World) (hB : B ≤ w.heap.size) : NewInts B (w.alloc (.cells (rowA (List.replicate c 0)) 3)) (.slice (some ⟨w.heap.size, 0, none⟩) 0 c) [] :=
  ⟨⟨rfl, .inr ⟨w.heap.size, c, _, rfl, hB, heap_alloc_new w _, Nat.zero_le _, by unfold maxLen; omega, by simp, by simp⟩⟩, by simp⟩
theorem appTwo {w : World} {lo : Nat} {v : Value} {R : List Int} (h : NewInts lo w v R) (s t : Int) (hl : R.length ≤ 1000000) (hs : lo ≤ w.heap.size) :
    ∃ v' w2, (Builtin.append_ #[22, 22] 22 #[v, .slice (some ⟨w.heap.size, 0, none⟩) 2 2]).run Tryz.prog (w.alloc (.cells #[.int .i64 s, .int .i64 t] 3)) = .ok v' w2 ∧
      NewInts lo w2 v' (R ++ [s, t]) ∧ Below lo w w2 := by
  obtain ⟨i0, hi, hz0, hz1, hz2⟩ := info_parts Tryz.info3
  obtain ⟨g, cap, w2, hr, hown, hgrow, hat, hlt⟩ := run_append_lies (P := Tryz.prog) (w.alloc (.cells #[.int .i64 s, .int .i64 t] 3)) 22 22 lo 3 i0 (.int .i64 0) 1 8 Tryz.underlying22 hi hz0 hz1 hz2 rfl (by decide) v R.length (R.map (Value.int .i64)) (h.own.alloc _) ⟨w.heap.size, 0, none⟩ 2 2 [.int .i64 s, .int .i64 t] (by simp)
    (World.news_of_block (cs := #[.int .i64 s, .int .i64 t]) (heap_alloc_new w (.cells #[.int .i64 s, .int .i64 t] 3))) (by intro u hu; simp at hu; rcases hu with rfl | rfl <;> rfl) (by decide) (by unfold maxLen; omega) (by omega) (by simp; omega) _ rfl
  refine ⟨_, w2, hr, ⟨by simpa using hown, by simp; omega⟩, ((Below.refl lo w).alloc hs _).trans ⟨hgrow.os, hgrow.tape, hgrow.output, hgrow.size, fun k hk => hgrow.block k (by simp; omega) (fun e => by have := (h.own.lt k e.symm).1; omega)⟩⟩
theorem NewInts.keep2 {w w' : World} {lo : Nat} {v : Value} {R : List Int} (h : NewInts lo w v R) (hb : Below w.heap.size w w') : NewInts lo w' v R := ⟨ownsRow_bl h.own hb, h.len⟩
theorem compactUpTo_mem (d : Array Int) : ∀ (m : Nat) (j : Nat), j < m → d[j]! ∈ Lib.compactUpTo d m
  | 0, j, h => by omega
  | m + 1, j, h => by
    rw [Lib.compactUpTo_succ]
    by_cases hj : j < m
    · exact List.mem_append.2 (.inl (compactUpTo_mem d m j hj))
    · obtain rfl : j = m := by omega
      by_cases hk : Lib.keeps d j = true
      · rw [if_pos hk]; simp
      · have hk2 := hk
        unfold Lib.keeps at hk2
        simp only [decide_eq_true_eq, not_or, ne_eq, Decidable.not_not] at hk2
        rw [hk2.2]
        exact List.mem_append.2 (.inl (compactUpTo_mem d j (j - 1) (by omega)))
theorem compact_mem (l : List Int) (x : Int) (h : x ∈ l) : x ∈ Lib.compact l := by
  obtain ⟨j, hj, rfl⟩ := List.getElem_of_mem h
  have := compactUpTo_mem l.toArray l.length j hj
  unfold Lib.compact
  simpa [getElem!_pos, hj] using this
theorem sort_mem (l : List Int) (x : Int) (h : x ∈ l) : x ∈ sortL l := (List.mergeSort_perm l _).mem_iff.2 h
theorem sort_len (l : List Int) : (sortL l).length = l.length := (List.mergeSort_perm l _).length_eq
/-- the neighbors as they are handed out -/
def nbL (l : List Int) (x : Int) : List Int := Lib.compact (sortL (nbK l x l.length))
theorem nbL_mem {l : List Int} {x y : Int} (h : y ∈ nbK l x l.length) : y ∈ nbL l x := compact_mem _ _ (sort_mem _ _ h)
theorem neighbors_any {w : World} {sa : Option Addr} {l : List Int} (h : Ints w sa l) (hl1 : 1 ≤ l.length) (hl4 : l.length ≤ 4) (hb : ∀ i, i < l.length → 2 ≤ l.getD i 0 ∧ l.getD i 0 ≤ 16) (hp : prodI l ≤ 256) (sc : Nat) (x : Int) (hx : 0 ≤ x) (hx2 : x < prodI l) :
    VMake 140 #[.agg #[.slice sa l.length sc, .int .i64 (prodI l)], .int .i64 x] (nbL l x) w.heap.size w := by
  obtain ⟨N, hN⟩ : ∃ N, N = l.length := ⟨_, rfl⟩
  have HN := Lib.hid hN
  have HL := Lib.hid h
  have HBB := Lib.hid hb
  have HPR : Hid (∀ i, i < N → prodI (l.drop i) = l.getD i 0 * strI l i ∧ 1 ≤ strI l i ∧ strI l i ≤ 256 ∧ prodI (l.drop i) ≤ 256) := by
    have key : ∀ i, i ≤ l.length → prodI (l.drop i) ≤ 256 := by
      intro i
      induction i with
      | zero => intro _; simpa using hp
      | succ i ih =>
        intro hi
        have h1 := ih (by omega)
        have h2 := str_step (l := l) (i := i) (by omega)
        obtain ⟨b1, b2⟩ := hb i (by omega)
        have h3 := drop_pos hb (i + 1) hi
        unfold strI at h2
        have : 1 * prodI (l.drop (i + 1)) ≤ l.getD i 0 * prodI (l.drop (i + 1)) := Int.mul_le_mul_of_nonneg_right (by omega) (by omega)
        omega
    intro i hi
    exact ⟨str_step (by omega), drop_pos hb (i + 1) (by omega), key (i + 1) (by omega), key i (by omega)⟩
  obtain ⟨P, hP⟩ : ∃ P, P = prodI l := ⟨_, rfl⟩
  have HP0 : Hid (P = prodI (l.drop 0)) := by show _ = _; rw [hP]; rfl
  have HNB : Hid (∀ u w2, w.heap.size ≤ w2.heap.size → NewInts w.heap.size w2 u (nbL l x) → VMake 148 #[u] (nbL l x) w.heap.size w2) := by
    intro u w2 hs hu
    refine values_new hu hs ?_ ?_
    · have h1 := Lib.compact_length_le (sortL (nbK l x l.length))
      have h2 := sort_len (nbK l x l.length)
      unfold nbL
      rw [h2, nbK_len] at h1
      omega
    · have := nbL_mem (l := l) (x := x) (nb_mem (i := 0) (.inl rfl) l.length (by omega))
      intro e; rw [e] at this; cases this
  have hwm : wrap64 (2 * (N : Int)) = ((2 * N : Nat) : Int) := by rw [wrap_small _ (by omega) (by omega)]; simp
  have hmk := make_cap (2 * N) (by omega)
  rw [← hwm] at hmk
  have hz : (w.alloc (.cells #[.slice sa N sc, .int .i64 P] 138)).heap.size = w.heap.size + 1 := by simp
  have hnew := new_cap (2 * N) w.heap.size (by omega) (w.alloc (.cells #[.slice sa N sc, .int .i64 P] 138)) (by omega)
  have hb0 : Below w.heap.size w (w.alloc (.cells #[.slice sa N sc, .int .i64 P] 138)) := (Below.refl w.heap.size w).alloc (Nat.le_refl _) _
  have q0 := heap_alloc_new w (.cells #[.slice sa N sc, .int .i64 P] 138)
  have hb1 : Below w.heap.size w ((w.alloc (.cells #[.slice sa N sc, .int .i64 P] 138)).alloc (.cells (rowA (List.replicate (2 * N) 0)) 3)) := hb0.alloc (by omega) _
  rw [hz] at hnew
  have HN0 := Lib.hid hnew
  have HB1 := Lib.hid hb1
  have c0 := cellR 0 q0 rfl
  have c1 := cellR 1 q0 rfl
  have k0 := kcell ((Below.refl _ (w.alloc (.cells #[.slice sa N sc, .int .i64 P] 138))).alloc (Nat.le_refl _) (.cells (rowA (List.replicate (2 * N) 0)) 3)) c0
  have k1 := kcell ((Below.refl _ (w.alloc (.cells #[.slice sa N sc, .int .i64 P] 138))).alloc (Nat.le_refl _) (.cells (rowA (List.replicate (2 * N) 0)) 3)) c1
  rw [← hN, ← hP]
  rw [← hP] at hx2 hp
  clear h hb q0 hP hN hwm hnew hb0 hb1 hz
  unfold VMake
  go_enter Tryz.func140, Tryz.ntmps140
  go_wp2_with fail
  clear c0 c1 hmk
  generalize (w.alloc (.cells #[.slice sa N sc, .int .i64 P] 138)).alloc (.cells (rowA (List.replicate (2 * N) 0)) 3) = Y at *
  go_loopw [5, 6, 20] (fun v st iv wr => ∃ (i : Nat), i ≤ N ∧ Hid (NewInts w.heap.size wr v (nbK l x i) ∧ Below w.heap.size w wr) ∧ st = .int .i64 (prodI (l.drop i)) ∧ iv = .int .i64 (i : Int)) (fun _ _ iv _ => N - (intOf iv).toNat)
  case atStart => exact ⟨0, Nat.zero_le _, ⟨HN0.out, HB1.out⟩, by rw [← HP0.out], rfl⟩
  case round =>
    clear HN0 HB1 k0 k1
    obtain ⟨i, hi, HI, rfl, rfl⟩ := hrel
    by_cases hlt : i < N
    · have hil : i < l.length := by rw [← HN.out]; exact hlt
      obtain ⟨g, o, rfl, hc⟩ := (HL.out.keep HI.out.2).at_ (ne_nil_of_lt hil)
      have e0 := hc i hil
      rw [show l[i] = l.getD i 0 by simp [List.getD, hil]] at e0
      obtain ⟨p1, p2, p3, p4⟩ := HPR.out i hlt
      obtain ⟨b1, b2⟩ := HBB.out i hil
      have HNX : Hid (nbK l x (i + 1) = nbK l x i ++ [x + strI l i * ((x / strI l i % l.getD i 0 + 1) % l.getD i 0 - x / strI l i % l.getD i 0), x + strI l i * ((x / strI l i % l.getD i 0 - 1) % l.getD i 0 - x / strI l i % l.getD i 0)]) := rfl
      have HST : Hid (strI l i = prodI (l.drop (i + 1))) := rfl
      generalize l.getD i 0 = s at *
      generalize strI l i = T at *
      generalize prodI (l.drop i) = D at *
      have hDT : wrap64 (D.tdiv s) = T := by
        have := Int.mul_nonneg (show 0 ≤ s by omega) (show 0 ≤ T by omega)
        rw [Int.tdiv_eq_ediv_of_nonneg (by omega), p1, Int.mul_comm, Int.mul_ediv_cancel _ (by omega)]
        exact wrap_small _ (by omega) (by omega)
      have hq0 : 0 ≤ x / T := Int.ediv_nonneg hx (by omega)
      have hq1 : x / T ≤ x := Int.ediv_le_self _ hx
      have hxT : wrap64 (x.tdiv T) = x / T := by
        rw [Int.tdiv_eq_ediv_of_nonneg hx]
        exact wrap_small _ (by omega) (by omega)
      have hqs : (x / T).tmod s = x / T % s := Int.tmod_eq_emod_of_nonneg hq0
      have hc0 : 0 ≤ x / T % s := Int.emod_nonneg _ (by omega)
      have hc1 : x / T % s < s := Int.emod_lt_of_pos _ (by omega)
      obtain ⟨c, hcq⟩ : ∃ c, c = x / T % s := ⟨_, rfl⟩
      rw [← hcq] at hqs hc0 hc1 HNX
      clear hcq
      have HM1 := Lib.hid (fun W => modulo_any (c + 1) s (by omega) (by omega) W)
      have HM2 := Lib.hid (fun W => modulo_any (c - 1) s (by omega) (by omega) W)
      have a0 : 0 ≤ (c + 1) % s := Int.emod_nonneg _ (by omega)
      have a1 : (c + 1) % s < s := Int.emod_lt_of_pos _ (by omega)
      have a2 : 0 ≤ (c - 1) % s := Int.emod_nonneg _ (by omega)
      have a3 : (c - 1) % s < s := Int.emod_lt_of_pos _ (by omega)
      have hw1 : wrap64 (c + 1) = c + 1 := wrap_small _ (by omega) (by omega)
      have hw2 : wrap64 (c - 1) = c - 1 := wrap_small _ (by omega) (by omega)
      generalize (c + 1) % s = m1 at *
      generalize (c - 1) % s = m2 at *
      have hw3 : wrap64 (m1 - c) = m1 - c := wrap_small _ (by omega) (by omega)
      have hw4 : wrap64 (m2 - c) = m2 - c := wrap_small _ (by omega) (by omega)
      have t1 : -256 * 16 ≤ T * (m1 - c) ∧ T * (m1 - c) ≤ 256 * 16 := by
        refine ⟨?_, Int.le_trans (Int.mul_le_mul_of_nonneg_left (show m1 - c ≤ 16 by omega) (by omega)) (by omega)⟩
        have := Int.mul_le_mul_of_nonneg_left (show -16 ≤ m1 - c by omega) (show 0 ≤ T by omega)
        omega
      have t2 : -256 * 16 ≤ T * (m2 - c) ∧ T * (m2 - c) ≤ 256 * 16 := by
        refine ⟨?_, Int.le_trans (Int.mul_le_mul_of_nonneg_left (show m2 - c ≤ 16 by omega) (by omega)) (by omega)⟩
        have := Int.mul_le_mul_of_nonneg_left (show -16 ≤ m2 - c by omega) (show 0 ≤ T by omega)
        omega
      have hw5 : wrap64 (T * (m1 - c)) = T * (m1 - c) := wrap_small _ (by omega) (by omega)
      have hw6 : wrap64 (T * (m2 - c)) = T * (m2 - c) := wrap_small _ (by omega) (by omega)
      have hw7 : wrap64 (x + T * (m1 - c)) = x + T * (m1 - c) := wrap_small _ (by omega) (by omega)
      have hw8 : wrap64 (x + T * (m2 - c)) = x + T * (m2 - c) := wrap_small _ (by omega) (by omega)
      obtain ⟨v', w2, hr, hn2, hb2⟩ := appTwo HI.out.1 (x + T * (m1 - c)) (x + T * (m2 - c)) (by rw [nbK_len]; omega) HI.out.2.size
      have HR := Lib.hid hr
      have HI2 : Hid (NewInts w.heap.size w2 v' (nbK l x (i + 1)) ∧ Below w.heap.size w w2) := ⟨by rw [HNX.out]; exact hn2, HI.out.2.trans hb2⟩
      have HWI := Lib.hid (wrap_small ((i : Int) + 1) (by omega) (by have := HN.out; omega))
      have HCS : Hid (((i : Int) + 1) = ((i + 1 : Nat) : Int)) := by show _ = _; rw [Int.natCast_add]; rfl
      have HME : Hid (N - (intOf (.int .i64 ((i : Int) + 1))).toNat < N - (intOf (.int .i64 (i : Int))).toNat) := by show _ < _; simp [intOf]; omega
      have HMO : Hid (N - (intOf (.int .i64 (wrap64 ((i : Int) + 1)))).toNat < N - (intOf (.int .i64 (i : Int))).toNat) := by show _ < _; rw [HWI.out]; exact HME.out
      have hs0 : s ≠ 0 := by omega
      have hT0 : T ≠ 0 := by omega
      clear hc p1 a0 a1 a2 a3 t1 t2 hr hn2 hb2 hq0 hq1 hc0 hc1 HNX hil HI
      go_wp2_with fail
      refine (HM1.out _).mono ?_
      rintro e wq ⟨rfl, rfl⟩
      go_wp2_with fail
      refine (HM2.out _).mono ?_
      rintro e wq ⟨rfl, rfl⟩
      go_wp2_with (at_builtin; refine Lib.wpList_append_run _ rfl (.tmp 32) (.tmp 53) 22 22 rfl _ _ rfl rfl _ _ HR.out ?_)
      go_roundw
      case rel => exact ⟨i + 1, by omega, HI2, by rw [← HST.out], by rw [HWI.out, HCS.out]⟩
      case measure => exact HMO.out
    · have hin : i = N := by omega
      subst hin
      have HSO := Lib.hid (sort_new HI.out.1 HI.out.2.size)
      have HB2 := Lib.hid HI.out.2
      clear HI
      go_wp2_with fail
      refine HSO.out.mono ?_
      rintro e w3 ⟨rfl, h3, hb3⟩
      have HB3 := Lib.hid (HB2.out.trans hb3)
      have HCO := Lib.hid (compact_new h3 HB3.out.size)
      clear HSO h3 hb3 HB2
      go_wp2_with fail
      refine HCO.out.mono ?_
      rintro e w4 ⟨u, rfl, h4, hb4⟩
      have HB4 := Lib.hid (HB3.out.trans hb4)
      have HV : Hid (VMake 148 #[u] (nbL l x) w.heap.size w4) := HNB.out u w4 HB4.out.size (by unfold nbL; rw [← HN.out]; exact h4)
      clear HCO h4 hb4 HB3 HNB
      unfold VMake at HV
      go_wp2_with fail
      refine HV.out.mono ?_
      rintro e w5 ⟨gf, lb, rfl, h5, hb5⟩
      have HR5 : Hid (VIter gf lb (nbL l x) w.heap.size w5 ∧ Below w.heap.size w w5) := ⟨h5, HB4.out.trans hb5⟩
      clear HV h5 hb5 HB4
      go_wp2_with fail
      go_ret
      exact ⟨gf, lb, rfl, HR5.out.1, HR5.out.2⟩
end Go.Proofs.YtbhkenphcahifaaGreat

namespace Go.Proofs.YtbhkenphcahifaaGreat
open Go.RowKit Go.Shelf
attribute [local go_sem] Oper.semAt_some
set_option maxRecDepth 100000
set_option maxHeartbeats 4000000

/-- the neighbors of a switch in a dragonfly: those of its group, those behind its ports -/
def dgA (a gr pl : Int) : Nat → List Int
  | 0 => []
  | m + 1 => dgA a gr pl m ++ (if (m : Int) ≠ pl then [gr * a + (m : Int)] else [])
def dgB (a h g gr pl : Int) (m : Nat) : List Int := (List.range m).map fun (p : Nat) => (gr + (pl * h + (p : Int)) + 1) % g * a + (g - 2 - (pl * h + (p : Int))) / h
theorem dgB_succ (a h g gr pl : Int) (m : Nat) : dgB a h g gr pl (m + 1) = dgB a h g gr pl m ++ [(gr + (pl * h + (m : Int)) + 1) % g * a + (g - 2 - (pl * h + (m : Int))) / h] := by unfold dgB; rw [List.range_succ, List.map_append]; rfl
theorem dgA_len (a gr pl : Int) : ∀ m, (dgA a gr pl m).length ≤ m
  | 0 => Nat.le_refl _
  | m + 1 => by rw [dgA, List.length_append]; have := dgA_len a gr pl m; split <;> simp <;> omega
theorem dgB_len (a h g gr pl : Int) (m : Nat) : (dgB a h g gr pl m).length = m := by simp [dgB]
def nbD (a h : Nat) (x : Int) : List Int := sortL (dgA a (x / a) (x % a) a ++ dgB a h ((a : Int) * h + 1) (x / a) (x % a) h)
theorem appOne {w : World} {lo : Nat} {v : Value} {R : List Int} (h : NewInts lo w v R) (s : Int) (hl : R.length ≤ 1000000) (hs : lo ≤ w.heap.size) :
    ∃ v' w2, (Builtin.append_ #[22, 22] 22 #[v, .slice (some ⟨w.heap.size, 0, none⟩) 1 1]).run Tryz.prog (w.alloc (.cells #[.int .i64 s] 3)) = .ok v' w2 ∧ NewInts lo w2 v' (R ++ [s]) ∧ Below lo w w2 := by
  obtain ⟨g, cap, w2, hr, hn, hg, hat, hz⟩ := app_one h s hl hs
  exact ⟨_, w2, hr, hn, ((Below.refl lo w).alloc hs _).trans ⟨hg.os, hg.tape, hg.output, hg.size, fun k hk => hg.block k (by simp; omega) (fun e => by have := (h.own.lt k e.symm).1; omega)⟩⟩
theorem dragNear (a h : Nat) (x : Int) (ha : 1 ≤ a) (ha2 : a ≤ 16) (hh : 1 ≤ h) (hh2 : h ≤ 4) (hx : 0 ≤ x) (hx2 : x < (a : Int) * ((a : Int) * h + 1)) (w : World) :
    VMake 195 #[.agg #[.int .i64 (a : Int), .int .i64 (h : Int), .int .i64 ((a : Int) * h + 1)], .int .i64 x] (nbD a h x) w.heap.size w := by
  have hah : (1 : Int) ≤ (a : Int) * h ∧ (a : Int) * h ≤ 64 := by
    have h1 : (1 : Int) * 1 ≤ (a : Int) * h := Int.mul_le_mul (by omega) (by omega) (by omega) (by omega)
    have h2 : (a : Int) * h ≤ 16 * 4 := Int.mul_le_mul (by omega) (by omega) (by omega) (by omega)
    omega
  have hNB : nbD a h x = sortL (dgA a (x / a) (x % a) a ++ dgB a h ((a : Int) * h + 1) (x / a) (x % a) h) := rfl
  obtain ⟨g, hg⟩ : ∃ g : Int, g = (a : Int) * h + 1 := ⟨_, rfl⟩
  rw [← hg] at hx2 hNB
  have hgr0 : 0 ≤ x / a := Int.ediv_nonneg hx (by omega)
  have hgr1 : x / a < g := Int.ediv_lt_of_lt_mul (by omega) (by rw [Int.mul_comm]; exact hx2)
  have hpl0 : 0 ≤ x % a := Int.emod_nonneg x (by omega)
  have hpl1 : x % a < a := Int.emod_lt_of_pos x (by omega)
  have E1 : wrap64 (x.tdiv a) = x / a := by rw [Int.tdiv_eq_ediv_of_nonneg hx]; exact wrap_small _ (by omega) (by omega)
  have E2 : x.tmod a = x % a := Int.tmod_eq_emod_of_nonneg hx
  have hane : (a : Int) ≠ 0 := by omega
  generalize x / a = gr at *
  obtain ⟨pl, hpl⟩ : ∃ pl, pl = x % a := ⟨_, rfl⟩
  rw [← hpl] at hNB hpl0 hpl1 E2
  have hplh : 0 ≤ pl * h ∧ pl * h + h ≤ g - 1 := by
    refine ⟨Int.mul_nonneg hpl0 (by omega), ?_⟩
    have h1 : (pl + 1) * (h : Int) ≤ (a : Int) * h := Int.mul_le_mul_of_nonneg_right (by omega) (by omega)
    rw [Int.add_mul] at h1
    omega
  have hgra : 0 ≤ gr * a ∧ gr * a ≤ 1040 := by
    refine ⟨Int.mul_nonneg hgr0 (by omega), ?_⟩
    have h1 : gr * (a : Int) ≤ 64 * 16 := Int.mul_le_mul (by omega) (by omega) (by omega) (by omega)
    omega
  have hcap : wrap64 ((a : Int) + (h : Int)) = ((a + h : Nat) : Int) := by rw [wrap_small _ (by omega) (by omega), Int.natCast_add]
  have HCP := Lib.hid hcap
  clear hcap
  have HGH := Lib.hid hah
  have HB9 := Lib.hid (And.intro hgr0 (And.intro hgr1 (And.intro hpl0 (And.intro hpl1 (And.intro hplh (And.intro hgra hg))))))
  have HBD := Lib.hid (And.intro ha (And.intro ha2 (And.intro hh hh2)))
  have HNB : Hid (∀ u w2, w.heap.size ≤ w2.heap.size → NewInts w.heap.size w2 u (nbD a h x) → VMake 148 #[u] (nbD a h x) w.heap.size w2) := by
    intro u w2 hs hu
    have hlen : (nbD a h x).length = (dgA a gr pl a ++ dgB a h g gr pl h).length := by rw [hNB, sort_len]
    rw [List.length_append, dgB_len] at hlen
    have h1 := dgA_len a gr pl a
    refine values_new hu hs (by omega) ?_
    intro e; rw [e] at hlen; simp at hlen; omega
  have HN2 := Lib.hid hNB
  generalize nbD a h x = DL at *
  have hmk := make_cap (a + h) (by omega)
  have hcap := HCP.out
  rw [← hcap] at hmk
  clear hcap
  have hz : (w.alloc (.cells #[.int .i64 (a : Int), .int .i64 (h : Int), .int .i64 g] 146)).heap.size = w.heap.size + 1 := by simp
  have q0 := heap_alloc_new w (.cells #[.int .i64 (a : Int), .int .i64 (h : Int), .int .i64 g] 146)
  have c0 := cellR 0 q0 rfl
  have c1 := cellR 1 q0 rfl
  have hb0 : Below w.heap.size w (w.alloc (.cells #[.int .i64 (a : Int), .int .i64 (h : Int), .int .i64 g] 146)) := (Below.refl w.heap.size w).alloc (Nat.le_refl _) _
  have Q0 := Lib.hid q0
  have HB0 := Lib.hid hb0
  have HZ0 := Lib.hid hz
  rw [← hg]
  clear q0 hb0 hz hg hgr0 hgr1 hpl0 hplh hgra hah hNB hx hx2 hpl hpl1 ha ha2 hh hh2
  unfold VMake
  go_enter Tryz.func195, Tryz.ntmps195
  go_wp2_with fail
  go_quiet (fail)
  rw [E1]
  have Q1 : Hid (((w.alloc (.cells #[.int .i64 (a : Int), .int .i64 (h : Int), .int .i64 g] 146)).drewN nq).heap[w.heap.size]? = some (.cells #[.int .i64 (a : Int), .int .i64 (h : Int), .int .i64 g] 146 (0, 0))) := Q0.out
  have HZ1 : Hid (((w.alloc (.cells #[.int .i64 (a : Int), .int .i64 (h : Int), .int .i64 g] 146)).drewN nq).heap.size = w.heap.size + 1) := HZ0.out
  have HB1 : Hid (Below w.heap.size w ((w.alloc (.cells #[.int .i64 (a : Int), .int .i64 (h : Int), .int .i64 g] 146)).drewN nq)) := below_drewN HB0.out _
  clear Q0 HZ0 HB0 c0 c1 E1 E2
  generalize (w.alloc (.cells #[.int .i64 (a : Int), .int .i64 (h : Int), .int .i64 g] 146)).drewN nq = X at *
  have c0 := cellR 0 Q1.out rfl
  have c1 := cellR 1 Q1.out rfl
  have hal : Below X.heap.size X (X.alloc (.cells (rowA (List.replicate (a + h) 0)) 3)) := (Below.refl _ _).alloc (Nat.le_refl _) _
  have k0 := kcell hal c0
  have k1 := kcell hal c1
  have HN0 : Hid (NewInts (w.heap.size + 1) (X.alloc (.cells (rowA (List.replicate (a + h) 0)) 3)) (.slice (some ⟨X.heap.size, 0, none⟩) 0 (a + h)) [] ∧ Below w.heap.size w (X.alloc (.cells (rowA (List.replicate (a + h) 0)) 3)) ∧ (X.alloc (.cells (rowA (List.replicate (a + h) 0)) 3)).heap[w.heap.size]? = some (.cells #[.int .i64 (a : Int), .int .i64 (h : Int), .int .i64 g] 146 (0, 0)) ∧ w.heap.size < (X.alloc (.cells (rowA (List.replicate (a + h) 0)) 3)).heap.size) :=
    ⟨new_cap (a + h) (w.heap.size + 1) (by have := HBD.out; omega) X (by rw [HZ1.out]; omega), HB1.out.trans (hal.mono (by rw [HZ1.out]; omega)), heapB hal Q1.out, by simp; rw [HZ1.out]; omega⟩
  clear hal
  go_wp2_with fail
  clear c0 c1 k0 k1 hmk Q1 HB1
  generalize hY : X.alloc (.cells (rowA (List.replicate (a + h) 0)) 3) = Y at *
  clear hY
  obtain ⟨v0, hv0⟩ : ∃ v0, v0 = Value.slice (some ⟨X.heap.size, 0, none⟩) 0 (a + h) := ⟨_, rfl⟩
  rw [← hv0] at HN0
  have HV0 := Lib.hid hv0
  clear hv0
  go_loopw [7, 26] (fun v iv wr => ∃ (i : Nat), i ≤ a ∧ iv = .int .i64 (i : Int) ∧ Hid (NewInts (w.heap.size + 1) wr v (dgA a gr pl i) ∧ Below w.heap.size w wr ∧ wr.heap[w.heap.size]? = some (.cells #[.int .i64 (a : Int), .int .i64 (h : Int), .int .i64 g] 146 (0, 0)) ∧ w.heap.size < wr.heap.size)) (fun _ iv _ => a - (intOf iv).toNat)
  case atStart => exact ⟨0, Nat.zero_le _, rfl, by rw [← HV0.out]; exact HN0⟩
  case round =>
    clear HN0 HV0
    obtain ⟨i, hi, rfl, HI⟩ := hrel
    have c0 := cellR 0 HI.out.2.2.1 rfl
    have c1 := cellR 1 HI.out.2.2.1 rfl
    by_cases hlt : i < a
    · have d1 : decide ((i : Int) < (a : Int)) = true := decide_eq_true (by omega)
      have h9 := HB9.out
      have HWI := Lib.hid (wrap_small ((i : Int) + 1) (by omega) (by have := HBD.out; omega))
      have HCS : Hid (((i : Int) + 1) = ((i + 1 : Nat) : Int)) := by show _ = _; rw [Int.natCast_add]; rfl
      have HME : Hid (a - (intOf (.int .i64 ((i : Int) + 1))).toNat < a - (intOf (.int .i64 (i : Int))).toNat) := by show _ < _; simp [intOf]; omega
      have HMO : Hid (a - (intOf (.int .i64 (wrap64 ((i : Int) + 1)))).toNat < a - (intOf (.int .i64 (i : Int))).toNat) := by show _ < _; rw [HWI.out]; exact HME.out
      have HK1 : Hid (i + 1 ≤ a) := hlt
      by_cases hip : (i : Int) = pl
      · have d2 : ((i : Int) != pl) = false := by simp [hip]
        have HNX : Hid (dgA a gr pl (i + 1) = dgA a gr pl i) := by show _ = _; rw [dgA, if_neg (by simp [hip]), List.append_nil]
        have HI2 : Hid (NewInts (w.heap.size + 1) wr u7 (dgA a gr pl (i + 1)) ∧ Below w.heap.size w wr ∧ wr.heap[w.heap.size]? = some (.cells #[.int .i64 (a : Int), .int .i64 (h : Int), .int .i64 g] 146 (0, 0)) ∧ w.heap.size < wr.heap.size) := by rw [HNX.out]; exact HI
        clear hip h9 HNX
        go_wp2_with fail
        go_roundw
        case rel => exact ⟨i + 1, HK1.out, by first | rw [HWI.out, HCS.out] | rw [HCS.out], HI2⟩
        case measure => first | exact HMO.out | exact HME.out
      · have d2 : ((i : Int) != pl) = true := by simp [hip]
        have hga := h9.2.2.2.2.2.1
        have HW1 := Lib.hid (wrap_small (gr * a) (by omega) (by omega))
        have HW2 := Lib.hid (wrap_small (gr * a + (i : Int)) (by omega) (by have := HBD.out; omega))
        obtain ⟨v', w2, hr, hn2, hb2⟩ := appOne HI.out.1 (gr * a + (i : Int)) (by have := dgA_len a gr pl i; have := HBD.out; omega) HI.out.2.2.2
        have HI2 : Hid (NewInts (w.heap.size + 1) w2 v' (dgA a gr pl (i + 1)) ∧ Below w.heap.size w w2 ∧ w2.heap[w.heap.size]? = some (.cells #[.int .i64 (a : Int), .int .i64 (h : Int), .int .i64 g] 146 (0, 0)) ∧ w.heap.size < w2.heap.size) := by
          refine ⟨?_, HI.out.2.1.trans (hb2.mono (by omega)), (hb2.block _ (by omega)).trans HI.out.2.2.1, Nat.lt_of_lt_of_le HI.out.2.2.2 hb2.size⟩
          rw [dgA, if_pos hip]; exact hn2
        have HR := Lib.hid hr
        clear hip h9 hga hr hn2 hb2
        have hw1 := HW1.out
        have hw2 := HW2.out
        go_wp2_with (at_builtin; refine Lib.wpList_append_run _ rfl (.tmp 32) (.tmp 39) 22 22 rfl _ _ rfl rfl _ _ HR.out ?_)
        go_roundw
        case rel => exact ⟨i + 1, HK1.out, by first | rw [HWI.out, HCS.out] | rw [HCS.out], HI2⟩
        case measure => first | exact HMO.out | exact HME.out
    · have hin : i = a := by omega
      subst hin
      have HI0 := HI
      clear HI hlt hi
      go_wp2_with fail
      clear c0 c1
      go_loopw [7, 44] (fun v iv wr => ∃ (j : Nat), j ≤ h ∧ iv = .int .i64 (j : Int) ∧ Hid (NewInts (w.heap.size + 1) wr v (dgA i gr pl i ++ dgB i h g gr pl j) ∧ Below w.heap.size w wr ∧ wr.heap[w.heap.size]? = some (.cells #[.int .i64 (i : Int), .int .i64 (h : Int), .int .i64 g] 146 (0, 0)) ∧ w.heap.size < wr.heap.size)) (fun _ iv _ => h - (intOf iv).toNat)
      case atStart => exact ⟨0, Nat.zero_le _, rfl, by rw [show dgB i h g gr pl 0 = [] from rfl, List.append_nil]; exact HI0⟩
      case round =>
        clear HI0
        obtain ⟨j, hj, rfl, HI⟩ := hrel
        have c0 := cellR 0 HI.out.2.2.1 rfl
        have c1 := cellR 1 HI.out.2.2.1 rfl
        have c2 := cellR 2 HI.out.2.2.1 rfl
        by_cases hlt : j < h
        · have d1 : decide ((j : Int) < (h : Int)) = true := decide_eq_true (by omega)
          have h9 := HB9.out
          have hb9 := HBD.out
          have hg9 := HGH.out
          have HWI := Lib.hid (wrap_small ((j : Int) + 1) (by omega) (by omega))
          have HCS : Hid (((j : Int) + 1) = ((j + 1 : Nat) : Int)) := by show _ = _; rw [Int.natCast_add]; rfl
          have HME : Hid (h - (intOf (.int .i64 ((j : Int) + 1))).toNat < h - (intOf (.int .i64 (j : Int))).toNat) := by show _ < _; simp [intOf]; omega
          have HMO : Hid (h - (intOf (.int .i64 (wrap64 ((j : Int) + 1)))).toNat < h - (intOf (.int .i64 (j : Int))).toNat) := by show _ < _; rw [HWI.out]; exact HME.out
          have HK1 : Hid (j + 1 ≤ h) := hlt
          have HW1 := Lib.hid (wrap_small (pl * (h : Int)) (by omega) (by omega))
          have HW2 := Lib.hid (wrap_small (pl * (h : Int) + (j : Int)) (by omega) (by omega))
          have HBH := Lib.hid (fun W => behind_any (i : Int) (h : Int) g gr (pl * (h : Int) + (j : Int)) (by omega) (by omega) (by omega) (by omega) (by omega) (by omega) h9.1 (by omega) (by omega) (by omega) W)
          obtain ⟨y, hy⟩ : ∃ y, y = (gr + (pl * (h : Int) + (j : Int)) + 1) % g * (i : Int) + (g - 2 - (pl * (h : Int) + (j : Int))) / (h : Int) := ⟨_, rfl⟩
          rw [← hy] at HBH
          have HY := Lib.hid hy
          clear h9 hb9 hg9 hy
          have hw1 := HW1.out
          have hw2 := HW2.out
          go_wp2_with fail
          clear c0 c1 c2
          refine (HBH.out _).mono ?_
          rintro e w1 ⟨rfl, hb1⟩
          have HI1 : Hid (NewInts (w.heap.size + 1) w1 u7 (dgA i gr pl i ++ dgB i h g gr pl j) ∧ Below w.heap.size w w1 ∧ w1.heap[w.heap.size]? = some (.cells #[.int .i64 (i : Int), .int .i64 (h : Int), .int .i64 g] 146 (0, 0)) ∧ w.heap.size < w1.heap.size) :=
            ⟨HI.out.1.keep2 hb1, HI.out.2.1.trans (hb1.mono HI.out.2.1.size), heapB hb1 HI.out.2.2.1, Nat.lt_of_lt_of_le HI.out.2.2.2 hb1.size⟩
          obtain ⟨v', w2, hr, hn2, hb2⟩ := appOne HI1.out.1 y (by have := dgA_len i gr pl i; have := HBD.out; rw [List.length_append, dgB_len]; omega) HI1.out.2.2.2
          have HI2 : Hid (NewInts (w.heap.size + 1) w2 v' (dgA i gr pl i ++ dgB i h g gr pl (j + 1)) ∧ Below w.heap.size w w2 ∧ w2.heap[w.heap.size]? = some (.cells #[.int .i64 (i : Int), .int .i64 (h : Int), .int .i64 g] 146 (0, 0)) ∧ w.heap.size < w2.heap.size) := by
            refine ⟨?_, HI1.out.2.1.trans (hb2.mono (by omega)), (hb2.block _ (by omega)).trans HI1.out.2.2.1, Nat.lt_of_lt_of_le HI1.out.2.2.2 hb2.size⟩
            rw [dgB_succ, ← HY.out, ← List.append_assoc]; exact hn2
          have HR := Lib.hid hr
          clear hr hn2 hb2 hb1 HI HI1 HBH
          go_wp2_with (at_builtin; refine Lib.wpList_append_run _ rfl (.tmp 47) (.tmp 57) 22 22 rfl _ _ rfl rfl _ _ HR.out ?_)
          go_roundw
          case rel => exact ⟨j + 1, HK1.out, by first | rw [HWI.out, HCS.out] | rw [HCS.out], HI2⟩
          case measure => first | exact HMO.out | exact HME.out
        · have hjh : j = h := by omega
          subst hjh
          have HSO := Lib.hid (sort_new HI.out.1 HI.out.2.2.2)
          have HI3 := HI
          clear HI c0 c1 c2
          go_wp2_with fail
          refine HSO.out.mono ?_
          rintro e w3 ⟨rfl, h3, hb3⟩
          have HB3 : Hid (Below w.heap.size w w3) := HI3.out.2.1.trans (hb3.mono (by omega))
          have HV : Hid (VMake 148 #[u7] DL w.heap.size w3) := HNB.out u7 w3 HB3.out.size (by rw [HN2.out]; exact ⟨own_lower7 h3.own (by omega), h3.len⟩)
          clear HSO h3 hb3 HNB HI3
          unfold VMake at HV
          go_wp2_with fail
          refine HV.out.mono ?_
          rintro e w5 ⟨gf, lb, rfl, h5, hb5⟩
          have HR5 : Hid (VIter gf lb DL w.heap.size w5 ∧ Below w.heap.size w w5) := ⟨h5, HB3.out.trans hb5⟩
          clear HV h5 hb5 HB3
          go_wp2_with fail
          go_ret
          exact ⟨gf, lb, rfl, HR5.out.1, HR5.out.2⟩
end Go.Proofs.YtbhkenphcahifaaGreat

namespace Go.Proofs.YtbhkenphcahifaaGreat
open Go.RowKit Go.Shelf
attribute [local go_sem] Oper.semAt_some
set_option maxRecDepth 100000
set_option maxHeartbeats 4000000

theorem m_near2 (a b c : Int) (w : World) : (method 330 142 (.agg #[.int .i64 a, .int .i64 b, .int .i64 c]) "armada/net.neighbors").run Tryz.prog w = .ok (181, .agg #[.int .i64 a, .int .i64 b, .int .i64 c]) w := by kernel_rfl
theorem m_near3 (a b c : Int) (w : World) : (method 330 146 (.agg #[.int .i64 a, .int .i64 b, .int .i64 c]) "armada/net.neighbors").run Tryz.prog w = .ok (195, .agg #[.int .i64 a, .int .i64 b, .int .i64 c]) w := by kernel_rfl
theorem treeNearMake (k lv : Nat) (x : Int) (hk : 1 ≤ k) (hk2 : k ≤ 16) (hlv : 1 ≤ lv) (hlv2 : lv ≤ 5) (hww2 : k ^ (lv - 1) ≤ 1000) (hx : 0 ≤ x) (hx2 : x < (lv : Int) * ((k ^ (lv - 1) : Nat) : Int)) (w : World) :
    VMake 181 #[.agg #[.int .i64 (k : Int), .int .i64 (lv : Int), .int .i64 ((k ^ (lv - 1) : Nat) : Int)], .int .i64 x] (nbT k lv x) w.heap.size w := by
  obtain ⟨hb, q0, q1, hz⟩ := twoN w (.cells #[.int .i64 (k : Int), .int .i64 (lv : Int), .int .i64 ((k ^ (lv - 1) : Nat) : Int)] 142) (.cells #[.int .i64 x] 3)
  have HB := Lib.hid hb
  have HI : Hid (VIter 187 #[.pointer (some ⟨w.heap.size + 1, 0, none⟩), .pointer (some ⟨w.heap.size, 0, none⟩)] (nbT k lv x) w.heap.size ((w.alloc (.cells #[.int .i64 (k : Int), .int .i64 (lv : Int), .int .i64 ((k ^ (lv - 1) : Nat) : Int)] 142)).alloc (.cells #[.int .i64 x] 3))) := by
    refine ⟨enters_of Tryz.func187 (by kernel_rfl) rfl, [w.heap.size, w.heap.size + 1], ?_, fun n => treeNear w.heap.size (w.heap.size + 1) k lv x hk hk2 hlv hlv2 hww2 hx hx2 q0 q1 n⟩
    intro b hm
    simp only [List.mem_cons, List.not_mem_nil, or_false] at hm
    rcases hm with rfl | rfl
    · exact ⟨Nat.le_refl _, _, q0, rfl⟩
    · exact ⟨by omega, _, q1, rfl⟩
  clear hb q0 q1 hww2 hx2 hz
  generalize ((k ^ (lv - 1) : Nat) : Int) = ww at *
  unfold VMake
  go_enter Tryz.func181, Tryz.ntmps181
  go_wp2_with fail
  go_ret
  exact ⟨187, _, rfl, HI.out, HB.out⟩
theorem near_make2 {l : List Int} {hosts x : Int} (hv : vOk 2 l hosts) (hx0 : 0 ≤ x) (hx1 : x < swI 2 l) (W : World) :
    VMake 181 #[.agg #[.int .i64 (l.getD 0 0), .int .i64 (l.getD 1 0), .int .i64 (wordsI l)], .int .i64 x] (nbT (l.getD 0 0).toNat (l.getD 1 0).toNat x) W.heap.size W := by
  have hr : rOk l hosts := by
    rcases hv with ⟨h0, h1⟩ | ⟨h0, h1⟩ | ⟨h0, h1⟩
    · cases h0
    · exact h1
    · cases h0
  have hwb := words_bound hr
  obtain ⟨_, h1, h2, _⟩ := hr
  have hs : swI 2 l = l.getD 1 0 * wordsI l := rfl
  rw [hs] at hx1
  have hw : wordsI l = (((l.getD 0 0).toNat ^ ((l.getD 1 0).toNat - 1) : Nat) : Int) := rfl
  rw [hw] at hx1 hwb ⊢
  clear hv hs hw
  generalize l.getD 0 0 = A at *
  generalize l.getD 1 0 = C at *
  obtain ⟨k, rfl⟩ := Int.eq_ofNat_of_zero_le (show 0 ≤ A by omega)
  obtain ⟨lv, rfl⟩ := Int.eq_ofNat_of_zero_le (show 0 ≤ C by omega)
  simp only [Int.toNat_natCast] at hx1 hwb ⊢
  exact treeNearMake k lv x (by omega) (by omega) (by omega) (by omega) (by omega) hx0 hx1 W
theorem near_make3 {l : List Int} {hosts x : Int} (hv : vOk 3 l hosts) (hx0 : 0 ≤ x) (hx1 : x < swI 3 l) (W : World) :
    VMake 195 #[.agg #[.int .i64 (l.getD 0 0), .int .i64 (l.getD 1 0), .int .i64 (l.getD 0 0 * l.getD 1 0 + 1)], .int .i64 x] (nbD (l.getD 0 0).toNat (l.getD 1 0).toNat x) W.heap.size W := by
  have hr : dOk l hosts := by
    rcases hv with ⟨h0, h1⟩ | ⟨h0, h1⟩ | ⟨h0, h1⟩
    · cases h0
    · cases h0
    · exact h1
  obtain ⟨_, _, h1, h2, h3⟩ := hr
  have hs : swI 3 l = l.getD 0 0 * (l.getD 0 0 * l.getD 1 0 + 1) := rfl
  rw [hs] at hx1
  clear hv hs
  generalize l.getD 0 0 = A at *
  generalize l.getD 1 0 = C at *
  obtain ⟨a, rfl⟩ := Int.eq_ofNat_of_zero_le (show 0 ≤ A by omega)
  obtain ⟨h, rfl⟩ := Int.eq_ofNat_of_zero_le (show 0 ≤ C by omega)
  simp only [Int.toNat_natCast] at hx1 ⊢
  exact dragNear a h x (by omega) (by omega) (by omega) (by omega) hx0 hx1 W
/-- Neighbors over any maker of the neighbors -/
theorem Neighbors2_any {w : World} {sa : Option Addr} {l : List Int} (h : Ints w sa l) (sc : Nat) (hosts x : Int) (hv : vOk 2 l hosts) (hin : inB (swI 2 l) [x] = true) {L : List Int} (hL : L.length ≤ 100000)
    (hS : ∀ W, Below w.heap.size w W → VMake 181 #[.agg #[.int .i64 (l.getD 0 0), .int .i64 (l.getD 1 0), .int .i64 (wordsI l)], .int .i64 x] L W.heap.size W) :
    Calls Tryz.prog 13 #[.agg #[.int .i64 2, .slice sa l.length sc, .int .i64 hosts], .int .i64 x] w fun e w' => ∃ v, e = .returned (.tuple #[v, .int .i64 0]) ∧ NewInts w.heap.size w' v L ∧ Below w.heap.size w w' := by
  obtain ⟨hbx, q0, q1, hz⟩ := twoN w (.cells #[.int .i64 2, .slice sa l.length sc, .int .i64 hosts] 24) (.cells #[.int .i64 x] 3)
  have HB := Lib.hid hbx
  have c0 := cellR 0 (heap_alloc_new w (.cells #[.int .i64 2, .slice sa l.length sc, .int .i64 hosts] 24)) rfl
  have c1 := cellR 1 (heap_alloc_new w (.cells #[.int .i64 2, .slice sa l.length sc, .int .i64 hosts] 24)) rfl
  have c2 := cellR 2 (heap_alloc_new w (.cells #[.int .i64 2, .slice sa l.length sc, .int .i64 hosts] 24)) rfl
  have hi := ints_one (w.alloc (.cells #[.int .i64 2, .slice sa l.length sc, .int .i64 hosts] 24)) x
  rw [show (w.alloc (.cells #[.int .i64 2, .slice sa l.length sc, .int .i64 hosts] 24)).heap.size = w.heap.size + 1 by simp] at hi
  have HC : Hid (Calls Tryz.prog 53 #[.agg #[.int .i64 2, .slice sa l.length sc, .int .i64 hosts], .slice (some ⟨w.heap.size + 1, 0, none⟩) 1 1] ((w.alloc (.cells #[.int .i64 2, .slice sa l.length sc, .int .i64 hosts] 24)).alloc (.cells #[.int .i64 x] 3)) fun e w' => e = .returned (.tuple #[.iface 142 (.agg #[.int .i64 (l.getD 0 0), .int .i64 (l.getD 1 0), .int .i64 (wordsI l)]), .int .i64 0]) ∧ Below w.heap.size ((w.alloc (.cells #[.int .i64 2, .slice sa l.length sc, .int .i64 hosts] 24)).alloc (.cells #[.int .i64 x] 3)) w') := by
    refine (networkWith2_any (h.keep hbx) hi sc 1 hosts hv).mono ?_
    rintro e w' ⟨rfl, hb⟩
    exact ⟨by rw [if_pos hin]; rfl, hb.mono (by rw [hz]; omega)⟩
  have HS := Lib.hid hS
  have HLN := Lib.hid hL
  have hm := m_near2 (l.getD 0 0) (l.getD 1 0) (wordsI l)
  clear h hbx q0 q1 hi hz hv hin hS hL
  generalize l.length = N at *
  go_enter Tryz.func13, Tryz.ntmps13
  go_wp2_with fail
  refine HC.out.mono ?_
  rintro e w1 ⟨rfl, hb1⟩
  have HB1 := Lib.hid (HB.out.trans hb1)
  clear HC hb1 HB c0 c1 c2
  have HS1 : Hid (Calls Tryz.prog 181 #[.agg #[.int .i64 (l.getD 0 0), .int .i64 (l.getD 1 0), .int .i64 (wordsI l)], .int .i64 x] w1 fun e w' => ∃ gf lb, e = .returned (.func (.func gf) #[] lb) ∧ VIter gf lb L w1.heap.size w' ∧ Below w1.heap.size w1 w') := HS.out _ HB1.out
  clear HS
  go_wp2_with fail
  refine HS1.out.mono ?_
  rintro e w2 ⟨gf, lb, rfl, hI, hb2⟩
  have HB2 : Hid (Below w.heap.size w w2) := HB1.out.trans (hb2.mono HB1.out.size)
  have HCL := Lib.hid (collect_any hb2.size hI HLN.out)
  clear hI HS1 hb2 hm
  go_wp2_with fail
  refine HCL.out.mono ?_
  rintro e w3 ⟨v, rfl, hv, hb3⟩
  have HR : Hid (NewInts w.heap.size w3 v L ∧ Below w.heap.size w w3) := ⟨⟨own_lower7 hv.own HB1.out.size, hv.len⟩, HB2.out.trans (hb3.mono HB1.out.size)⟩
  clear HCL hv hb3 HB2 HB1
  go_wp2_with fail
  go_ret2
  exact ⟨_, rfl, HR.out.1, HR.out.2⟩
/-- Neighbors over any maker of the neighbors -/
theorem Neighbors3_any {w : World} {sa : Option Addr} {l : List Int} (h : Ints w sa l) (sc : Nat) (hosts x : Int) (hv : vOk 3 l hosts) (hin : inB (swI 3 l) [x] = true) {L : List Int} (hL : L.length ≤ 100000)
    (hS : ∀ W, Below w.heap.size w W → VMake 195 #[.agg #[.int .i64 (l.getD 0 0), .int .i64 (l.getD 1 0), .int .i64 (l.getD 0 0 * l.getD 1 0 + 1)], .int .i64 x] L W.heap.size W) :
    Calls Tryz.prog 13 #[.agg #[.int .i64 3, .slice sa l.length sc, .int .i64 hosts], .int .i64 x] w fun e w' => ∃ v, e = .returned (.tuple #[v, .int .i64 0]) ∧ NewInts w.heap.size w' v L ∧ Below w.heap.size w w' := by
  obtain ⟨hbx, q0, q1, hz⟩ := twoN w (.cells #[.int .i64 3, .slice sa l.length sc, .int .i64 hosts] 24) (.cells #[.int .i64 x] 3)
  have HB := Lib.hid hbx
  have c0 := cellR 0 (heap_alloc_new w (.cells #[.int .i64 3, .slice sa l.length sc, .int .i64 hosts] 24)) rfl
  have c1 := cellR 1 (heap_alloc_new w (.cells #[.int .i64 3, .slice sa l.length sc, .int .i64 hosts] 24)) rfl
  have c2 := cellR 2 (heap_alloc_new w (.cells #[.int .i64 3, .slice sa l.length sc, .int .i64 hosts] 24)) rfl
  have hi := ints_one (w.alloc (.cells #[.int .i64 3, .slice sa l.length sc, .int .i64 hosts] 24)) x
  rw [show (w.alloc (.cells #[.int .i64 3, .slice sa l.length sc, .int .i64 hosts] 24)).heap.size = w.heap.size + 1 by simp] at hi
  have HC : Hid (Calls Tryz.prog 53 #[.agg #[.int .i64 3, .slice sa l.length sc, .int .i64 hosts], .slice (some ⟨w.heap.size + 1, 0, none⟩) 1 1] ((w.alloc (.cells #[.int .i64 3, .slice sa l.length sc, .int .i64 hosts] 24)).alloc (.cells #[.int .i64 x] 3)) fun e w' => e = .returned (.tuple #[.iface 146 (.agg #[.int .i64 (l.getD 0 0), .int .i64 (l.getD 1 0), .int .i64 (l.getD 0 0 * l.getD 1 0 + 1)]), .int .i64 0]) ∧ Below w.heap.size ((w.alloc (.cells #[.int .i64 3, .slice sa l.length sc, .int .i64 hosts] 24)).alloc (.cells #[.int .i64 x] 3)) w') := by
    refine (networkWith3_any (h.keep hbx) hi sc 1 hosts hv).mono ?_
    rintro e w' ⟨rfl, hb⟩
    exact ⟨by rw [if_pos hin]; rfl, hb.mono (by rw [hz]; omega)⟩
  have HS := Lib.hid hS
  have HLN := Lib.hid hL
  have hm := m_near3 (l.getD 0 0) (l.getD 1 0) (l.getD 0 0 * l.getD 1 0 + 1)
  clear h hbx q0 q1 hi hz hv hin hS hL
  generalize l.length = N at *
  go_enter Tryz.func13, Tryz.ntmps13
  go_wp2_with fail
  refine HC.out.mono ?_
  rintro e w1 ⟨rfl, hb1⟩
  have HB1 := Lib.hid (HB.out.trans hb1)
  clear HC hb1 HB c0 c1 c2
  have HS1 : Hid (Calls Tryz.prog 195 #[.agg #[.int .i64 (l.getD 0 0), .int .i64 (l.getD 1 0), .int .i64 (l.getD 0 0 * l.getD 1 0 + 1)], .int .i64 x] w1 fun e w' => ∃ gf lb, e = .returned (.func (.func gf) #[] lb) ∧ VIter gf lb L w1.heap.size w' ∧ Below w1.heap.size w1 w') := HS.out _ HB1.out
  clear HS
  go_wp2_with fail
  refine HS1.out.mono ?_
  rintro e w2 ⟨gf, lb, rfl, hI, hb2⟩
  have HB2 : Hid (Below w.heap.size w w2) := HB1.out.trans (hb2.mono HB1.out.size)
  have HCL := Lib.hid (collect_any hb2.size hI HLN.out)
  clear hI HS1 hb2 hm
  go_wp2_with fail
  refine HCL.out.mono ?_
  rintro e w3 ⟨v, rfl, hv, hb3⟩
  have HR : Hid (NewInts w.heap.size w3 v L ∧ Below w.heap.size w w3) := ⟨⟨own_lower7 hv.own HB1.out.size, hv.len⟩, HB2.out.trans (hb3.mono HB1.out.size)⟩
  clear HCL hv hb3 HB2 HB1
  go_wp2_with fail
  go_ret2
  exact ⟨_, rfl, HR.out.1, HR.out.2⟩
end Go.Proofs.YtbhkenphcahifaaGreat

namespace Go.Proofs.YtbhkenphcahifaaGreat
open Go.RowKit Go.Shelf
attribute [local go_sem] Oper.semAt_some
set_option maxRecDepth 100000
set_option maxHeartbeats 4000000

/-- an iterator that itself ranges over functions: it leaves records and marks behind, from the block s on; which blocks are its own (Fr), told against what lies between two rounds (J) -/
structure PrivG (s : Nat) (J : World → Prop) (Fr : Nat → World → Prop) : Prop where
  cells : ∀ W b, J W → Fr b W → ∃ o, W.heap[b]? = some o ∧ o.isCells = true
  new : ∀ W W2 b, J W → Below W.heap.size W W2 → W.heap.size ≤ b → (∃ o, W2.heap[b]? = some o ∧ o.isCells = true) → Fr b W2
  grow : ∀ W W2 b, J W → Fr b W → Below W.heap.size W W2 → Fr b W2
  jgrow : ∀ W W2, J W → Below W.heap.size W W2 → J W2
  jput : ∀ W b o o', J W → s ≤ b → W.heap[b]? = some o → o.isCells = false → J (W.putObj b o')
  fput : ∀ W b c o o', J W → Fr c W → s ≤ b → W.heap[b]? = some o → o.isCells = false → Fr c (W.putObj b o')
/-- what a round keeps for such an iterator -/
def Kx (lo : Nat) (Fr : Nat → World → Prop) (W W' : World) : Prop := Below lo W W' ∧ ∀ b, Fr b W → W'.heap[b]? = W.heap[b]? ∧ Fr b W'
theorem Kx.trans {lo : Nat} {Fr : Nat → World → Prop} {A B C : World} (h : Kx lo Fr A B) (k : Kx lo Fr B C) : Kx lo Fr A C :=
  ⟨h.1.trans k.1, fun b hb => ⟨((k.2 b (h.2 b hb).2).1).trans (h.2 b hb).1, (k.2 b (h.2 b hb).2).2⟩⟩
def SeqX {α : Type} (n : Nat) (gf : Nat) (lb : Array Value) (encs : α → Array Value) (Nd : List Nat) (lo : Nat) (L : List α) (w : World) : Prop :=
  ∀ (l : Nat) (J : List α → World → Prop) (Fr : Nat → World → Prop) (W : World), Below w.heap.size w W → (∀ b ∈ Nd, Fr b W) → (∀ pre, PrivG W.heap.size (J pre) Fr) →
    (∀ pre x W1, J pre W1 → pre ++ [x] <+: L → YieldAt Fence.wide (n - 1) Tryz.prog l (encs x) W1 fun e W' => e = .returned (.bool true) ∧ J (pre ++ [x]) W' ∧ Kx lo Fr W1 W' ∧ KeepsFrom W.heap.size W1 W') →
    J [] W → CallsIn Fence.wide n Tryz.prog gf (#[.func (.yield l) #[] #[]] ++ lb) W fun e W' => (∃ v, e = .returned v) ∧ J L W'
theorem SeqX.later {α : Type} {n gf lo : Nat} {lb : Array Value} {encs : α → Array Value} {Nd : List Nat} {L : List α} {w w2 : World} (h : SeqX n gf lb encs Nd lo L w) (hb : Below w.heap.size w w2) : SeqX n gf lb encs Nd lo L w2 :=
  fun l J Fr W hW => h l J Fr W (hb.trans (hW.mono hb.size))
/-- what abides new blocks and stores into records from B on abides what a loop does -/
theorem own_of {α : Type} {B : Nat} {I : α → World → Prop} (hg : ∀ s X Y, I s X → Below X.heap.size X Y → I s Y) (hp : ∀ s X b o o', I s X → B ≤ b → X.heap[b]? = some o → o.isCells = false → I s (X.putObj b o')) : OwnFrom B I := by
  intro s X Y row hJ hgr hr
  cases row with
  | none => exact hg s X Y hJ (below_of_grown hgr)
  | some r =>
    obtain ⟨hB, o, ho, hc⟩ := hr r rfl
    obtain ⟨o', hb, _⟩ := grown_split hgr (Array.getElem?_eq_some_iff.1 ho).1
    exact hg s _ Y (hp s X r o o' hJ hB ho hc) hb
/-- a range over such an iterator, by a body that never leaves -/
theorem range_x {α : Type} {n : Nat} {g : Operand} {ps : Array Tmp} {assign body : Code} {Q : Exit → Act → World → Prop} {a : Act} {w : World} (h1 : 1 ≤ n) {gf : Nat} {lb : Array Value}
    (hg : a.eval g = .func (.func gf) #[] lb) (eg : ∀ args w, (callFunc gf args).run Tryz.prog w = .ok (.enter gf args) w) {encs : α → Array Value} {Nd : List Nat} {lo : Nat} {Fr : Nat → World → Prop} {L : List α}
    (hseq : SeqX (n - 1) gf lb encs Nd lo L w) (hnd : ∀ b ∈ Nd, Fr b w) (hlo : lo ≤ w.heap.size)
    (hps : ∀ x, (encs x).size = ps.size) (I : List α → World → Prop) (hG : ∀ pre, PrivG w.heap.size (I pre) Fr) (h0 : I [] w) (Ax : α → Act → World → Prop) (hAx : ∀ x a', OwnFrom w.heap.size (fun (_ : Unit) W => Ax x a' W))
    (hassign : ∀ (l : Nat) (pre : List α) (x : α) (W : World) (K : Act → World → Prop), I pre W → pre ++ [x] <+: L → (∀ a' W', KeepsFrom w.heap.size W W' → Kx lo Fr W W' → I pre W' → Ax x a' W' → K a' W') → assign.wpIn (Fence.wide.inRound l) (n - 1 - 1) Tryz.prog (Exit.then K (fun _ _ _ => False)) { tmps := (ps.zip (encs x)).foldl (fun t (p, v) => t.setIfInBounds p v) a.tmps, defers := [] } W)
    (hbody : ∀ (l : Nat) (pre : List α) (x : α) (a' : Act) (W : World), I pre W → Ax x a' W → pre ++ [x] <+: L → body.wpIn (Fence.wide.inRound l) (n - 1 - 1) Tryz.prog (ownPostG w.heap.size (Kx lo Fr) I (fun _ _ _ => False) (pre ++ [x]) W) a' W)
    (hdone : ∀ (D : Nat) (W : World), w.heap.size ≤ D → I L W → W.heap[D]? = some (.deferred (some [])) → Q .normal { a with defers := { target := .collected D, args := #[] } :: a.defers } W) :
    (Code.rangeFunc g ps assign body).wpIn Fence.wide n Tryz.prog Q a w := by
  have hI : OwnFrom w.heap.size I := own_of (fun s X Y h hb => (hG s).jgrow X Y h hb) (fun s X b o o' h hB ho hc => (hG s).jput X b o o' h hB ho hc)
  have hput : ∀ (pre : List α) (V : World) (l : Nat) (o o' : Obj), I pre V → w.heap.size ≤ l → V.heap[l]? = some o → o.isCells = false → Kx lo Fr V (V.putObj l o') := fun pre V l o o' hi hl ho hc =>
    ⟨⟨rfl, rfl, rfl, by simp [World.putObj], fun k hk => World.putObj_heap_other (by omega)⟩, fun b hb => ⟨World.putObj_heap_other (fun e => by subst e; obtain ⟨oc, h1, h2⟩ := (hG pre).cells V _ hi hb; rw [ho] at h1; cases h1; rw [hc] at h2; cases h2), (hG pre).fput V l b o o' hi hb hl ho hc⟩⟩
  refine wpIn_rangeFunc ?_
  intro fn hfn
  rw [show Fence.wide.round = none from rfl]
  let rc : LoopState → Option Code → Loop := fun st pe => { state := st, pending := pe, fn, tmps := a.tmps, params := ps, assign, body, defers := w.heap.size }
  obtain ⟨W1, hW1⟩ : ∃ W1, (w.alloc (.deferred (some []))).alloc (.loop (rc .ready none)) = W1 := ⟨_, rfl⟩
  have hb1 : Below w.heap.size w W1 := by
    rw [← hW1]; exact ((Below.refl _ w).alloc (Nat.le_refl _) _).alloc (by simp) _
  have hl1 : W1.heap[w.heap.size + 1]? = some (.loop (rc .ready none)) := by
    rw [← hW1]; have := World.alloc_heap_new (w.alloc (.deferred (some []))) (.loop (rc .ready none)); rwa [World.size_alloc] at this
  have hk1 : W1.heap[w.heap.size]? = some (.deferred (some [])) := by
    rw [← hW1]; exact (Below.heap_alloc _ _ _ (by simp)).trans (World.alloc_heap_new w _)
  have hi1 : I [] W1 := by rw [← hW1]; exact hI.alloc _ (hI.alloc _ h0)
  refine ⟨w.heap.size + 1, [{ target := .collected w.heap.size, args := #[] }], W1, { target := .fn (.func gf) lb, args := #[.func (.yield (w.heap.size + 1)) #[] #[]] }, W1, gf,
    #[.func (.yield (w.heap.size + 1)) #[] #[]] ++ lb, W1, ?_, ?_, ?_, ?_, fun _ => h1, ?_⟩
  · rw [← hW1]; exact run_enterLoop_outer _ _ _ _ _
  · simp only [resolve, hg]
    simp [go_sem]
  · intro f' hf'; trivial
  · simp [invoke, go_sem, eg]
  · have hz1 : W1.heap.size = w.heap.size + 2 := by rw [← hW1]; simp
    refine (hseq (w.heap.size + 1) (fun pre W => I pre W ∧ W.heap[w.heap.size + 1]? = some (.loop (rc .ready none)) ∧ W.heap[w.heap.size]? = some (.deferred (some []))) Fr W1 hb1 (fun b hb => (hG []).grow w W1 b h0 (hnd b hb) hb1) ?_ ?_ ⟨hi1, hl1, hk1⟩).mono ?_
    · intro pre
      have p := hG pre
      refine ⟨fun W b hj => p.cells W b hj.1, fun W W2 b hj => p.new W W2 b hj.1, fun W W2 b hj => p.grow W W2 b hj.1, fun W W2 hj hb => ⟨p.jgrow W W2 hj.1 hb, ?_, ?_⟩, fun W b o o' hj hb ho hc => ⟨p.jput W b o o' hj.1 (by omega) ho hc, ?_, ?_⟩, fun W b c o o' hj hf hb ho hc => p.fput W b c o o' hj.1 hf (by omega) ho hc⟩
      · rw [hb.block _ (Array.getElem?_eq_some_iff.1 hj.2.1).1]; exact hj.2.1
      · rw [hb.block _ (Array.getElem?_eq_some_iff.1 hj.2.2).1]; exact hj.2.2
      · exact (World.putObj_heap_other (by omega)).trans hj.2.1
      · exact (World.putObj_heap_other (by omega)).trans hj.2.2
    · rintro pre x W ⟨hi, hl, hk⟩ hlen
      refine ⟨fn, _, assign, body, run_yield (P := Tryz.prog) (args := encs x) hl (hps x), roundIn_of_wpIn hfn (hassign _ pre x W _ hi hlen (fun a' V hkv hkpv hiv hax => ?_))⟩
      have hlv := hkv.same _ _ (by omega) hl rfl
      have hkv2 := hkv.same _ _ (Nat.le_refl _) hk rfl
      have hlt : w.heap.size + 1 < V.heap.size := (Array.getElem?_eq_some_iff.1 hlv).1
      refine ⟨_, run_beginRound hlv rfl, ?_⟩
      have hl2 := World.putObj_heap_same (w := V) (o := .loop { rc .ready none with state := .busy }) hlt
      have hk2 : (V.putObj (w.heap.size + 1) (.loop { rc .ready none with state := .busy })).heap[w.heap.size]? = some (.deferred (some [])) := (World.putObj_heap_other (by omega)).trans hkv2
      have hiv2 := hI.putObj (.loop { rc .ready none with state := .busy }) hiv (by omega) hlv rfl
      refine wpIn_mono (hbody (w.heap.size + 1) pre x a' _ hiv2 ((hAx x a').putObj (s := ()) _ hax (by omega) hlv rfl) hlen) ?_
      rintro e a3 W3 hp
      cases e with
      | normal =>
        obtain ⟨hk3, hkp3, hi3⟩ := hp
        have hl3 := hk3.same _ _ (by omega) hl2 rfl
        have hk4 := hk3.same _ _ (Nat.le_refl _) hk2 rfl
        have hkf : ∀ (U : World) (o' : Obj), w.heap.size + 1 < U.heap.size → KeepsFrom W1.heap.size U (U.putObj (w.heap.size + 1) o') := fun U o' hv => ⟨by simp [World.putObj], fun k o hk ho _ => (World.putObj_heap_other (by omega)).trans ho⟩
        have hk5 : KeepsFrom W1.heap.size (V.putObj (w.heap.size + 1) (.loop { rc .ready none with state := .busy })) W3 := ⟨hk3.size, fun k o hk ho hc => hk3.same k o (by omega) ho hc⟩
        have hk6 : KeepsFrom W1.heap.size W V := ⟨hkv.size, fun k o hk ho hc => hkv.same k o (by omega) ho hc⟩
        exact ⟨_, _, run_endRound (P := Tryz.prog) none hl3, rfl, ⟨hI.putObj _ hi3 (by omega) hl3 rfl, World.putObj_heap_same (Array.getElem?_eq_some_iff.1 hl3).1, (World.putObj_heap_other (by omega)).trans hk4⟩, Kx.trans hkpv (Kx.trans (Kx.trans (hput pre V _ _ _ hiv (by omega) hlv rfl) hkp3) (hput _ W3 _ _ _ hi3 (by omega) hl3 rfl)), hk6.trans (((hkf V _ hlt).trans hk5).trans (hkf W3 _ (Array.getElem?_eq_some_iff.1 hl3).1))⟩
      | ret => exact hp.2.elim
      | exit id => exact hp.2.elim
      | goto t => exact hp.2.elim
      | panic ch => exact hp.elim
      | outgrown => exact hp.elim
    · rintro e W2 ⟨⟨v, rfl⟩, hi, hl, hk⟩
      exact ⟨none, _, run_endLoop (P := Tryz.prog) hl (by simp), hdone _ _ (Nat.le_refl _) (hI.putObj _ hi (by omega) hl rfl) ((World.putObj_heap_other (by omega)).trans hk)⟩
/-- a function leaves through its marks: what abides stores into records holds behind them -/
theorem leaves_marksP {F : Fence} {n : Nat} {P : Program} {fn : Func} {tmps : Array Value} {R : Ending → World → Prop} {B : Nat} (Φ : World → Prop) (hp : ∀ X b o o', Φ X → B ≤ b → X.heap[b]? = some o → o.isCells = false → Φ (X.putObj b o')) : ∀ (Ds : List Nat) (w : World), Marks B Ds w → Φ w → (∀ w', Φ w' → LeavesIn F n P fn tmps R [] .returning w') → LeavesInM F n P fn tmps R (Ds.map mk) .returning w
  | [], w, _, hw, h => h w hw
  | D :: Ds, w, hm, hw, h => by
    have hD := hm.open_ D (by simp)
    have hn := List.nodup_cons.1 hm.nodup
    refine ⟨by simp, .inl ⟨D, _, rfl, run_takeDeferred hD.2, ?_⟩⟩
    refine leaves_marksP Φ hp Ds _ ⟨fun E hE => ⟨(hm.open_ E (by simp [hE])).1, ?_⟩, hn.2⟩ (hp w D _ _ hw hD.1 hD.2 rfl) h
    have hne : E ≠ D := by rintro rfl; exact hn.1 hE
    exact (World.putObj_heap_other hne).trans (hm.open_ E (by simp [hE])).2
/-- what is captured, the iterator's own -/
def CapG (Fr : Nat → World → Prop) (cs : List (Nat × Obj)) (W : World) : Prop := ∀ p ∈ cs, Fr p.1 W ∧ W.heap[p.1]? = some p.2
theorem CapG.below {s : Nat} {J : World → Prop} {Fr : Nat → World → Prop} {cs : List (Nat × Obj)} {W W' : World} (h : CapG Fr cs W) (g : PrivG s J Fr) (hJ : J W) (hb : Below W.heap.size W W') : CapG Fr cs W' := fun p hp => ⟨g.grow W W' _ hJ (h p hp).1 hb, heapB hb (h p hp).2⟩
theorem CapG.put {s : Nat} {J : World → Prop} {Fr : Nat → World → Prop} {cs : List (Nat × Obj)} {W : World} (h : CapG Fr cs W) (g : PrivG s J Fr) (hJ : J W) {b : Nat} {o : Obj} (o' : Obj) (hb : s ≤ b) (ho : W.heap[b]? = some o) (hc : o.isCells = false) : CapG Fr cs (W.putObj b o') := fun p hp => by
  refine ⟨g.fput W b _ o o' hJ (h p hp).1 hb ho hc, (World.putObj_heap_other (fun e => ?_)).trans (h p hp).2⟩
  obtain ⟨oc, h1, h2⟩ := g.cells W _ hJ (h p hp).1
  rw [e, ho] at h1; cases h1; rw [hc] at h2; cases h2
theorem CapG.kx {lo : Nat} {Fr : Nat → World → Prop} {cs : List (Nat × Obj)} {W W' : World} (h : CapG Fr cs W) (k : Kx lo Fr W W') : CapG Fr cs W' := fun p hp => ⟨(k.2 _ (h p hp).1).2, ((k.2 _ (h p hp).1).1).trans (h p hp).2⟩
theorem CapG.has {Fr : Nat → World → Prop} {cs : List (Nat × Obj)} {W : World} (h : CapG Fr cs W) : Has cs W := fun p hp => (h p hp).2
theorem Has.m2 {p q s : Nat × Obj} {r : List (Nat × Obj)} {W : World} (h : Has (p :: q :: s :: r) W) : W.heap[s.1]? = some s.2 := h s (by simp)
theorem Marks.put {B : Nat} {Ds : List Nat} {W : World} (h : Marks B Ds W) {b : Nat} (o' : Obj) (hb : ∀ D ∈ Ds, D < b) : Marks B Ds (W.putObj b o') := h.keep fun D hD => World.putObj_heap_other (by have := hb D hD; omega)
theorem Marks.from {B s : Nat} {Ds : List Nat} {W W' : World} (h : Marks B Ds W) (k : KeepsFrom s W W') (hs : s ≤ B) : Marks B Ds W' := ⟨fun D hD => ⟨(h.open_ D hD).1, k.same D _ (by have := (h.open_ D hD).1; omega) (h.open_ D hD).2 rfl⟩, h.nodup⟩
/-- a yield inside another loop's round -/
theorem YieldAt.inRound {m l : Nat} {P : Program} {args : Array Value} {W : World} {R : Ending → World → Prop} (l' : Nat) (h : YieldAt Fence.wide m P l args W R) : YieldAt (Fence.wide.inRound l') m P l args W R := h
end Go.Proofs.YtbhkenphcahifaaGreat

namespace Go.Proofs.YtbhkenphcahifaaGreat
open Go.RowKit Go.Shelf
attribute [local go_sem] Oper.semAt_some
set_option maxRecDepth 100000
set_option maxHeartbeats 4000000

/-- the links of a switch to those behind it; all links -/
def selL (x : Int) (l : List Int) : List (Int × Int) := (l.filter fun y => decide (x < y)).map fun y => (x, y)
def lkL (NB : Int → List Int) : Nat → List (Int × Int)
  | 0 => []
  | x + 1 => lkL NB x ++ selL (x : Int) (NB (x : Int))
theorem selL_snoc (x : Int) (l : List Int) (y : Int) : selL x (l ++ [y]) = selL x l ++ (if x < y then [(x, y)] else []) := by
  unfold selL
  by_cases h : x < y
  · simp [List.filter_append, h]
  · simp [List.filter_append, h]
theorem lkL_mono0 (NB : Int → List Int) {a b : Nat} (h : a ≤ b) : ∃ r, lkL NB b = lkL NB a ++ r := by
  induction b with
  | zero => obtain rfl : a = 0 := by omega
            exact ⟨[], by simp⟩
  | succ b ih =>
    by_cases hab : a = b + 1
    · subst hab; exact ⟨[], by simp⟩
    · obtain ⟨r, hr⟩ := ih (by omega)
      exact ⟨r ++ selL (b : Int) (NB (b : Int)), by rw [lkL, hr, List.append_assoc]⟩
theorem selL_mono (x : Int) {a b : List Int} (h : a <+: b) : selL x a <+: selL x b := by
  obtain ⟨r, rfl⟩ := h
  unfold selL
  rw [List.filter_append, List.map_append]
  exact List.prefix_append _ _
theorem lkL_pre (NB : Int → List Int) {x sw : Nat} (hx : x < sw) {l : List Int} (h : l <+: NB (x : Int)) : lkL NB x ++ selL (x : Int) l <+: lkL NB sw := by
  have h1 : lkL NB x ++ selL (x : Int) l <+: lkL NB (x + 1) := by
    obtain ⟨r, hr⟩ := selL_mono (x : Int) h
    exact ⟨r, by rw [lkL, ← hr, List.append_assoc]⟩
  obtain ⟨r, hr⟩ := lkL_mono0 NB (show x + 1 ≤ sw from hx)
  exact h1.trans ⟨r, hr.symm⟩
theorem Marks.grown {B : Nat} {Ds : List Nat} {w w' : World} (h : Marks B Ds w) (hb : Below w.heap.size w w') : Marks B Ds w' := h.keep fun D hD => hb.block _ (h.lt hD)
theorem YieldAt.any {m m' l : Nat} {P : Program} {args : Array Value} {W : World} {R : Ending → World → Prop} (h : YieldAt Fence.wide m P l args W R) : YieldAt Fence.wide m' P l args W R := by
  obtain ⟨fn, tm, as_, bd, hy, hR⟩ := h
  exact ⟨fn, tm, as_, bd, hy, hR.1, fun c cs _ => hR.2 c cs (room_wide _)⟩
abbrev encL : Int × Int → Array Value := fun p => #[.agg #[.int .i64 p.1, .int .i64 p.2]]
theorem linksIter (Bn : Nat) (rcv : Value) (ty fs fn sw : Nat) (ho : Int) (NB : Int → List Int) (lo : Nat) {w : World} (hlo : lo ≤ w.heap.size) (hsw : sw ≤ 1000)
    (hms : ∀ W, (method 330 ty rcv "armada/net.size").run Tryz.prog W = .ok (fs, rcv) W) (hmn : ∀ W, (method 330 ty rcv "armada/net.neighbors").run Tryz.prog W = .ok (fn, rcv) W)
    (hes : ∀ args W, (callFunc fs args).run Tryz.prog W = .ok (.enter fs args) W) (hen : ∀ args W, (callFunc fn args).run Tryz.prog W = .ok (.enter fn args) W)
    (hsz : ∀ W, Below lo w W → Calls Tryz.prog fs #[rcv] W fun e w' => e = .returned (.tuple #[.int .i64 (sw : Int), .int .i64 ho]) ∧ Below W.heap.size W w')
    (hnb : ∀ (x : Nat), x < sw → ∀ W, Below lo w W → VMake fn #[rcv, .int .i64 (x : Int)] (NB (x : Int)) W.heap.size W)
    (q0 : w.heap[Bn]? = some (.cells #[.iface ty rcv] 96 (0, 0))) (n : Nat) :
    SeqX n 93 #[.pointer (some ⟨Bn, 0, none⟩)] encL [Bn] lo (lkL NB sw) w := by
  intro ll J Fr W hW hnd hG hY h0
  have HSZ := Lib.hid hsz
  have HNB := Lib.hid hnb
  have HLO := Lib.hid hlo
  have HG := Lib.hid hG
  have HY := Lib.hid hY
  have q1 : (W.alloc (.cells #[.func (.yield ll) #[] #[]] 150)).heap[W.heap.size]? = some (.cells #[.func (.yield ll) #[] #[]] 150 (0, 0)) := heap_alloc_new W _
  have hba : Below W.heap.size W (W.alloc (.cells #[.func (.yield ll) #[] #[]] 150)) := (Below.refl _ _).alloc (Nat.le_refl _) _
  have HC : Hid (CapG Fr [(Bn, .cells #[.iface ty rcv] 96 (0, 0)), (W.heap.size, .cells #[.func (.yield ll) #[] #[]] 150 (0, 0))] (W.alloc (.cells #[.func (.yield ll) #[] #[]] 150))) := by
    intro p hp
    simp only [List.mem_cons, List.not_mem_nil, or_false] at hp
    rcases hp with rfl | rfl
    · exact ⟨(hG []).grow _ _ _ h0 (hnd _ (by simp)) hba, heapB hba (heapB hW q0)⟩
    · exact ⟨(hG []).new _ _ _ h0 hba (Nat.le_refl _) ⟨_, q1, rfl⟩, q1⟩
  have HJ : Hid (J [] (W.alloc (.cells #[.func (.yield ll) #[] #[]] 150))) := (hG []).jgrow _ _ h0 hba
  have HB : Hid (Below lo w (W.alloc (.cells #[.func (.yield ll) #[] #[]] 150))) := (hW.mono hlo).trans (hba.mono (Nat.le_trans hlo hW.size))
  have HS : Hid (W.heap.size < (W.alloc (.cells #[.func (.yield ll) #[] #[]] 150)).heap.size) := by show _ < _; simp
  have HWS : Hid (w.heap.size ≤ W.heap.size) := hW.size
  have c0 := cellR 0 HC.out.has.m0 rfl
  clear hsz hnb hlo hG hY hW hnd h0 q0 q1 hba
  refine callsIn_wide.2 ((callsIn_wide (n := 4)).1 ?_)
  refine callsIn_of_wp_marks Tryz.func93 rfl trivial ?_ rfl
  simp only [Tryz.ntmps93, List.size_toArray, List.length_cons, List.length_nil, Nat.reduceAdd, Nat.reduceSub, Array.replicate_succ, Array.replicate_zero, List.push_toArray, List.append_toArray, List.nil_append, List.cons_append]
  gi_wp2
  obtain ⟨s, hs⟩ : ∃ s, s = W.heap.size := ⟨_, rfl⟩
  rw [← hs] at HC HS HWS
  have HSE := Lib.hid hs
  generalize W.alloc (.cells #[.func (.yield ll) #[] #[]] 150) = X at *
  rw [← hs]
  clear hs c0
  refine ⟨trivial, callsIn_wide.2 ((HSZ.out X HB.out).mono ?_)⟩
  rintro e w1 ⟨rfl, hb1⟩
  have HC1 := Lib.hid (HC.out.below (HG.out _) HJ.out hb1)
  have HJ1 := Lib.hid ((HG.out _).jgrow _ _ HJ.out hb1)
  have HB1 := Lib.hid (HB.out.trans (hb1.mono (Nat.le_trans HLO.out HB.out.size)))
  have HS1 : Hid (s < w1.heap.size) := Nat.lt_of_lt_of_le HS.out hb1.size
  clear HC HJ HB HS hb1 HSZ hms hes
  gi_wp2
  refine wpIn_loop (fun a W' => ∃ (x : Nat) (Ds : List Nat) (u5 u14 u15 u16 u17 u18 u31 : Value), x ≤ sw ∧ Hid (J (lkL NB x) W' ∧ CapG Fr [(Bn, .cells #[.iface ty rcv] 96 (0, 0)), (s, .cells #[.func (.yield ll) #[] #[]] 150 (0, 0))] W' ∧ Marks s Ds W' ∧ Below lo w W' ∧ s < W'.heap.size) ∧ a = ⟨#[Value.func (Fn.yield ll) #[] #[], Value.pointer (some ⟨Bn, 0, none⟩), Value.pointer (some ⟨s, 0, none⟩), Value.int IntKind.i64 ((sw : Int)), Value.int IntKind.i64 (ho), u5, undef, Value.tuple #[Value.int IntKind.i64 ((sw : Int)), Value.int IntKind.i64 (ho)], Value.iface ty rcv, Value.tuple #[Value.int IntKind.i64 ((sw : Int)), Value.int IntKind.i64 (ho)], Value.int IntKind.i64 ((sw : Int)), Value.int IntKind.i64 (ho), Value.int IntKind.i64 ((sw : Int)), Value.int IntKind.i64 ((x : Int)), u14, u15, u16, u17, u18, undef, undef, undef, undef, undef, undef, undef, undef, undef, undef, undef, undef, u31], Ds.map mk⟩) (fun a _ => sw - (intOf (a.tmps.getD 13 undef)).toNat) ⟨0, [], undef, undef, undef, undef, undef, undef, undef, Nat.zero_le _, ⟨HJ1.out, HC1.out, Marks.nil _ _, HB1.out, HS1.out⟩, rfl⟩ ?_
  clear HJ1 HC1 HB1 HS1
  rintro a wr ⟨x, Ds, u5, u14, u15, u16, u17, u18, u31, hx, HI, rfl⟩
  by_cases hlt : x < sw
  · have d1 : decide ((x : Int) < (sw : Int)) = true := decide_eq_true (by omega)
    obtain ⟨bx, hbx⟩ : ∃ bx, bx = wr.heap.size := ⟨_, rfl⟩
    have HBX := Lib.hid hbx
    have hba : Below wr.heap.size wr (wr.alloc (.cells #[.int .i64 (x : Int)] 3)) := (Below.refl _ _).alloc (Nat.le_refl _) _
    have qb : (wr.alloc (.cells #[.int .i64 (x : Int)] 3)).heap[wr.heap.size]? = some (.cells #[.int .i64 (x : Int)] 3 (0, 0)) := heap_alloc_new wr _
    have HV : Hid (J (lkL NB x) (wr.alloc (.cells #[.int .i64 (x : Int)] 3)) ∧ CapG Fr [(Bn, .cells #[.iface ty rcv] 96 (0, 0)), (s, .cells #[.func (.yield ll) #[] #[]] 150 (0, 0)), (bx, .cells #[.int .i64 (x : Int)] 3 (0, 0))] (wr.alloc (.cells #[.int .i64 (x : Int)] 3)) ∧ Marks s Ds (wr.alloc (.cells #[.int .i64 (x : Int)] 3)) ∧ Below lo w (wr.alloc (.cells #[.int .i64 (x : Int)] 3)) ∧ s < (wr.alloc (.cells #[.int .i64 (x : Int)] 3)).heap.size) := by
      obtain ⟨i1, i2, i3, i4, i5⟩ := HI.out
      refine ⟨(HG.out _).jgrow _ _ i1 hba, ?_, i3.grown hba, i4.trans (hba.mono (Nat.le_trans HLO.out i4.size)), Nat.lt_of_lt_of_le i5 hba.size⟩
      have hc := i2.below (HG.out _) i1 hba
      intro p hp
      simp only [List.mem_cons, List.not_mem_nil, or_false] at hp
      rcases hp with rfl | rfl | rfl
      · exact hc _ (by simp)
      · exact hc _ (by simp)
      · rw [HBX.out]; exact ⟨(HG.out _).new _ _ _ i1 hba (Nat.le_refl _) ⟨_, qb, rfl⟩, qb⟩
    have HMX : Hid (∀ D ∈ Ds, D < bx) := fun D hD => by rw [HBX.out]; exact HI.out.2.2.1.lt hD
    clear qb hba HI
    have c0 := cellR 0 HV.out.2.1.has.m0 rfl
    have cb := cellR 0 HV.out.2.1.has.m2 rfl
    rw [hbx] at cb
    gi_wp2
    clear c0 cb
    rw [← hbx]
    generalize wr.alloc (.cells #[.int .i64 (x : Int)] 3) = V at *
    clear hbx
    have HN1 : Hid (Calls Tryz.prog fn #[rcv, .int .i64 (x : Int)] V fun e w' => ∃ gf lb, e = .returned (.func (.func gf) #[] lb) ∧ VIter gf lb (NB (x : Int)) V.heap.size w' ∧ Below V.heap.size V w') := HNB.out x hlt V HV.out.2.2.2.1
    refine ⟨trivial, callsIn_wide.2 (HN1.out.mono ?_)⟩
    rintro e w2 ⟨gf, lb, rfl, hvi, hb2⟩
    obtain ⟨heg, Nd, hNd, hSq⟩ := hvi
    have HNF : Hid (∀ b ∈ Nd, Fr b w2) := fun b hb => (HG.out _).new V w2 b HV.out.1 hb2 (hNd b hb).1 (hNd b hb).2
    have hNl : ∀ b ∈ Nd, b < w2.heap.size := fun b hb => by obtain ⟨_, o, h2, _⟩ := hNd b hb; exact (Array.getElem?_eq_some_iff.1 h2).1
    have HW2 : Hid (J (lkL NB x) w2 ∧ CapG Fr [(Bn, .cells #[.iface ty rcv] 96 (0, 0)), (s, .cells #[.func (.yield ll) #[] #[]] 150 (0, 0)), (bx, .cells #[.int .i64 (x : Int)] 3 (0, 0))] w2 ∧ Marks s Ds w2 ∧ Below lo w w2 ∧ s < w2.heap.size) := by
      obtain ⟨i1, i2, i3, i4, i5⟩ := HV.out
      exact ⟨(HG.out _).jgrow _ _ i1 hb2, i2.below (HG.out _) i1 hb2, i3.grown hb2, i4.trans (hb2.mono (Nat.le_trans HLO.out i4.size)), Nat.lt_of_lt_of_le i5 hb2.size⟩
    have HVW : Hid (V.heap.size ≤ w2.heap.size) := hb2.size
    have HBV : Hid (bx < V.heap.size) := (Array.getElem?_eq_some_iff.1 HV.out.2.1.has.m2).1
    clear HV HN1 hb2 hNd
    have HSQ := Lib.hid (fun n => hSq n)
    clear hSq
    gi_wp2
    refine range_r (L := NB (x : Int)) (Nd := Nd) (by omega) rfl heg (HSQ.out _) hNl (fun _ => rfl) (fun pre W' => (J (lkL NB x ++ selL (x : Int) pre) W' ∧ CapG Fr [(Bn, .cells #[.iface ty rcv] 96 (0, 0)), (s, .cells #[.func (.yield ll) #[] #[]] 150 (0, 0)), (bx, .cells #[.int .i64 (x : Int)] 3 (0, 0))] W' ∧ Marks s Ds W' ∧ Below lo w W' ∧ s < W'.heap.size) ∧ (∀ b ∈ Nd, Fr b W')) ?hI ?grow ⟨by rw [show selL (x : Int) [] = [] from rfl, List.append_nil]; exact HW2.out, HNF.out⟩ (fun y => ⟨#[Value.func (Fn.yield ll) #[] #[], Value.pointer (some ⟨Bn, 0, none⟩), Value.pointer (some ⟨s, 0, none⟩), Value.int IntKind.i64 ((sw : Int)), Value.int IntKind.i64 (ho), Value.pointer (some ⟨bx, 0, none⟩), Value.int IntKind.i64 (y), Value.tuple #[Value.int IntKind.i64 ((sw : Int)), Value.int IntKind.i64 (ho)], Value.iface ty rcv, Value.tuple #[Value.int IntKind.i64 ((sw : Int)), Value.int IntKind.i64 (ho)], Value.int IntKind.i64 ((sw : Int)), Value.int IntKind.i64 (ho), Value.int IntKind.i64 ((sw : Int)), Value.int IntKind.i64 ((x : Int)), Value.bool true, Value.int IntKind.i64 ((x : Int)), Value.iface ty rcv, Value.int IntKind.i64 ((x : Int)), Value.func (Fn.func gf) #[] lb, Value.int IntKind.i64 (y), undef, undef, undef, undef, undef, undef, undef, undef, undef, undef, undef, u31], []⟩) ?assign ?body ?done
    case hI =>
      refine own_of ?_ ?_
      · rintro pre A B ⟨⟨i1, i2, i3, i4, i5⟩, i6⟩ hb
        exact ⟨⟨(HG.out _).jgrow _ _ i1 hb, i2.below (HG.out _) i1 hb, i3.grown hb, i4.trans (hb.mono (Nat.le_trans HLO.out i4.size)), Nat.lt_of_lt_of_le i5 hb.size⟩, fun b hm => (HG.out _).grow _ _ _ i1 (i6 b hm) hb⟩
      · rintro pre A b o o' ⟨⟨i1, i2, i3, i4, i5⟩, i6⟩ hB ho hc
        have hsb : W.heap.size ≤ b := by rw [← HSE.out]; have := HW2.out.2.2.2.2; omega
        have hlb : lo ≤ b := by have h7 := HLO.out; have h8 := HWS.out; rw [HSE.out] at h8; omega
        refine ⟨⟨(HG.out _).jput A b o o' i1 hsb ho hc, i2.put (HG.out _) i1 o' hsb ho hc, i3.put o' (fun D hD => by have h7 := HMX.out D hD; have h8 := HBV.out; have h9 := HVW.out; omega), i4.trans ⟨rfl, rfl, rfl, by simp [World.putObj], fun k hk => World.putObj_heap_other (by omega)⟩, by simpa [World.putObj] using i5⟩, fun c hm => (HG.out _).fput A b c o o' i1 (i6 c hm) hsb ho hc⟩
    case grow =>
      rintro pre A B ⟨⟨i1, i2, i3, i4, i5⟩, i6⟩ hb
      exact ⟨⟨(HG.out _).jgrow _ _ i1 hb, i2.below (HG.out _) i1 hb, i3.grown hb, i4.trans (hb.mono (Nat.le_trans HLO.out i4.size)), Nat.lt_of_lt_of_le i5 hb.size⟩, fun b hm => (HG.out _).grow _ _ _ i1 (i6 b hm) hb⟩
    case assign =>
      intro q y W' K hK
      gi_wp2
      exact hK
    case body =>
      rintro q pre y W' ⟨⟨i1, i2, i3, i4, i5⟩, i6⟩ hpre
      have cs := cellR 0 i2.has.m1 rfl
      have cb := cellR 0 i2.has.m2 rfl
      by_cases hxy : (x : Int) < y
      · have d2 : decide ((x : Int) < y) = true := decide_eq_true hxy
        have HNX : Hid (lkL NB x ++ selL (x : Int) (pre ++ [y]) = lkL NB x ++ selL (x : Int) pre ++ [((x : Int), y)]) := by show _ = _; rw [selL_snoc, if_pos hxy, List.append_assoc]
        have HPR : Hid (lkL NB x ++ selL (x : Int) pre ++ [((x : Int), y)] <+: lkL NB sw) := by show _ <+: _; rw [← HNX.out]; exact lkL_pre NB hlt hpre
        obtain ⟨fn2, tm, as_, bd, hy, hR⟩ := YieldAt.inRound q (YieldAt.any (m' := 1) (HY.out _ ((x : Int), y) W' i1 HPR.out))
        have HKS : Hid (∀ A, KeepsFrom W.heap.size W' A → KeepsFrom w2.heap.size W' A) := fun A hk => ⟨hk.size, fun j o hj ho hc => hk.same j o (by have h7 := HW2.out.2.2.2.2; rw [← HSE.out]; omega) ho hc⟩
        have HI3 := Lib.hid i3
        have HI4 := Lib.hid i4
        have HI2 := Lib.hid i2
        have HI6 := Lib.hid i6
        have HI5 := Lib.hid i5
        clear hpre i2 i3 i4 i5 i6 i1
        gi_wp2
        refine hR.mono ?_
        rintro e W3 ⟨rfl, j1, jk, jf⟩
        have HP3 : Hid (KeepsFrom w2.heap.size W' W3 ∧ (∀ b ∈ Nd, W3.heap[b]? = W'.heap[b]?) ∧ (J (lkL NB x ++ selL (x : Int) (pre ++ [y])) W3 ∧ CapG Fr [(Bn, .cells #[.iface ty rcv] 96 (0, 0)), (s, .cells #[.func (.yield ll) #[] #[]] 150 (0, 0)), (bx, .cells #[.int .i64 (x : Int)] 3 (0, 0))] W3 ∧ Marks s Ds W3 ∧ Below lo w W3 ∧ s < W3.heap.size) ∧ (∀ b ∈ Nd, Fr b W3)) := by
          refine ⟨HKS.out _ jf, fun b hm => (jk.2 b (HI6.out b hm)).1, ⟨by rw [HNX.out]; exact j1, HI2.out.kx jk, HI3.out.from jf (by rw [← HSE.out]; exact Nat.le_refl _), HI4.out.trans jk.1, Nat.lt_of_lt_of_le HI5.out jf.size⟩, fun b hm => (jk.2 b (HI6.out b hm)).2⟩
        clear hy hR j1 jk jf cs cb HKS HI2 HI3 HI4 HI5 HI6
        gi_wp2
        exact HP3.out
      · have d2 : decide ((x : Int) < y) = false := decide_eq_false hxy
        have HNX : Hid (lkL NB x ++ selL (x : Int) (pre ++ [y]) = lkL NB x ++ selL (x : Int) pre) := by show _ = _; rw [selL_snoc, if_neg hxy, List.append_nil]
        have HP3 : Hid ((J (lkL NB x ++ selL (x : Int) (pre ++ [y])) W' ∧ CapG Fr [(Bn, .cells #[.iface ty rcv] 96 (0, 0)), (s, .cells #[.func (.yield ll) #[] #[]] 150 (0, 0)), (bx, .cells #[.int .i64 (x : Int)] 3 (0, 0))] W' ∧ Marks s Ds W' ∧ Below lo w W' ∧ s < W'.heap.size) ∧ (∀ b ∈ Nd, Fr b W')) := ⟨⟨by rw [HNX.out]; exact i1, i2, i3, i4, i5⟩, i6⟩
        clear i1 i2 i3 i4 i5 i6 hpre
        gi_wp2
        refine ⟨fun f hf => (by cases hf), ?_⟩
        gi_wp2
        exact ⟨KeepsFrom.refl _ _, fun _ _ => rfl, HP3.out⟩
    case done =>
      rintro D W' hD ⟨⟨i1, i2, i3, i4, i5⟩, i6⟩ hK
      have HI3 : Hid (J (lkL NB (x + 1)) W' ∧ CapG Fr [(Bn, .cells #[.iface ty rcv] 96 (0, 0)), (s, .cells #[.func (.yield ll) #[] #[]] 150 (0, 0))] W' ∧ Marks s (D :: Ds) W' ∧ Below lo w W' ∧ s < W'.heap.size) := by
        refine ⟨i1, fun p hp => i2 p (by simp at hp ⊢; rcases hp with h | h <;> simp [h]), ?_, i4, i5⟩
        refine ⟨fun E hE => ?_, List.nodup_cons.2 ⟨fun hE => ?_, i3.nodup⟩⟩
        · rcases List.mem_cons.1 hE with rfl | hE
          · exact ⟨by have := HW2.out.2.2.2.2; omega, hK⟩
          · exact i3.open_ E hE
        · have h7 := HMX.out D hE; have h8 := HBV.out; have h9 := HVW.out; omega
      have HWI := Lib.hid (wrap_small ((x : Int) + 1) (by omega) (by omega))
      have HCS : Hid (((x : Int) + 1) = ((x + 1 : Nat) : Int)) := by show _ = _; rw [Int.natCast_add]; rfl
      have HME : Hid (sw - (intOf (.int .i64 ((x : Int) + 1))).toNat < sw - (intOf (.int .i64 (x : Int))).toNat) := by show _ < _; simp [intOf]; omega
      have HK1 : Hid (x + 1 ≤ sw) := hlt
      clear i1 i2 i3 i4 i5 i6 hK
      gi_wp2
      refine ⟨?_, HME.out⟩
      rw [HCS.out]
      exact ⟨x + 1, D :: Ds, _, _, _, _, _, _, _, HK1.out, HI3, rfl⟩
  · have hxs : x = sw := by omega
    have d1 : decide ((x : Int) < (sw : Int)) = false := decide_eq_false (by omega)
    have HI9 := HI
    gi_wp2
    refine leaves_marksP (B := s) (fun X => J (lkL NB sw) X) (fun X b o o' h hB ho hc => (HG.out _).jput X b o o' h (by rw [← HSE.out]; exact hB) ho hc) Ds _ HI9.out.2.2.1 (by rw [← hxs]; exact HI9.out.1) (fun w' hw => ?_)
    refine ⟨.tuple #[], ?_, ⟨_, rfl⟩, hw⟩
    simp [results, Tryz.results93, go_sem]
end Go.Proofs.YtbhkenphcahifaaGreat

namespace Go.Proofs.YtbhkenphcahifaaGreat
open Go.RowKit Go.Shelf
attribute [local go_sem] Oper.semAt_some
set_option maxRecDepth 100000
set_option maxHeartbeats 4000000

/-- the neighbors of a switch in any network -/
def nbS (kind : Int) (l : List Int) (x : Int) : List Int := if kind = 1 then nbL l x else if kind = 2 then nbT (l.getD 0 0).toNat (l.getD 1 0).toNat x else nbD (l.getD 0 0).toNat (l.getD 1 0).toNat x
/-- what is known of a network behind its interface -/
structure NetK (w0 : World) (lo ty fs fn : Nat) (rcv : Value) (sw : Nat) (ho : Int) (NB : Int → List Int) : Prop where
  ms : ∀ W, (method 330 ty rcv "armada/net.size").run Tryz.prog W = .ok (fs, rcv) W
  mn : ∀ W, (method 330 ty rcv "armada/net.neighbors").run Tryz.prog W = .ok (fn, rcv) W
  es : ∀ args W, (callFunc fs args).run Tryz.prog W = .ok (.enter fs args) W
  en : ∀ args W, (callFunc fn args).run Tryz.prog W = .ok (.enter fn args) W
  sz : ∀ W, Below lo w0 W → Calls Tryz.prog fs #[rcv] W fun e w' => e = .returned (.tuple #[.int .i64 (sw : Int), .int .i64 ho]) ∧ Below W.heap.size W w'
  nb : ∀ (x : Nat), x < sw → ∀ W, Below lo w0 W → VMake fn #[rcv, .int .i64 (x : Int)] (NB (x : Int)) W.heap.size W
theorem NetK.later {w0 w1 : World} {lo ty fs fn : Nat} {rcv : Value} {sw : Nat} {ho : Int} {NB : Int → List Int} (h : NetK w0 lo ty fs fn rcv sw ho NB) (hb : Below lo w0 w1) : NetK w1 lo ty fs fn rcv sw ho NB :=
  ⟨h.ms, h.mn, h.es, h.en, fun W hW => h.sz W (hb.trans hW), fun x hx W hW => h.nb x hx W (hb.trans hW)⟩
theorem netK {w0 : World} {sa : Option Addr} {l : List Int} (h : Ints w0 sa l) (sc : Nat) {kind hosts : Int} (hv : vOk kind l hosts) :
    ∃ ty fs fn rcv sw, netV kind sa sc l = .iface ty rcv ∧ ((sw : Nat) : Int) = swI kind l ∧ sw ≤ 1000 ∧ NetK w0 w0.heap.size ty fs fn rcv sw (hoI kind l) (nbS kind l) := by
  obtain ⟨b1, b2, b3, b4, b5, b6⟩ := v_bound hv
  have hsw := sw_max hv
  obtain ⟨n, hn⟩ := Int.eq_ofNat_of_zero_le (show 0 ≤ swI kind l by omega)
  rcases v_kind hv with rfl | rfl | rfl
  · refine ⟨138, 144, 140, _, n, rfl, hn.symm, by omega, fun W => m_size1 sa l.length sc (prodI l) W, fun W => m_near1 sa l.length sc (prodI l) W, enters_of Tryz.func144 (by kernel_rfl) rfl, enters_of Tryz.func140 (by kernel_rfl) rfl, fun W hW => ?_, fun x hx W hW => ?_⟩
    · rw [← hn]; exact sizeT_any sa l.length sc (prodI l) W
    · obtain ⟨⟨h1, h2⟩, hs⟩ := tOk_sides (torus_v hv)
      have hp : swI 1 l = prodI l := rfl
      exact neighbors_any (h.keep hW) h1 h2 hs (by omega) sc (x : Int) (by omega) (by omega)
  · refine ⟨142, 185, 181, _, n, rfl, hn.symm, by omega, fun W => m_size2 _ _ _ W, fun W => m_near2 _ _ _ W, enters_of Tryz.func185 (by kernel_rfl) rfl, enters_of Tryz.func181 (by kernel_rfl) rfl, fun W hW => ?_, fun x hx W hW => near_make2 hv (by omega) (by omega) W⟩
    rw [← hn]
    have hr : rOk l hosts := by
      rcases hv with ⟨h0, h1⟩ | ⟨h0, h1⟩ | ⟨h0, h1⟩
      · cases h0
      · exact h1
      · cases h0
    have hwb := words_bound hr
    obtain ⟨_, h1, h2, _⟩ := hr
    exact sizeR_any _ _ _ (by omega) (by omega) (by omega) (by omega) W
  · refine ⟨146, 199, 195, _, n, rfl, hn.symm, by omega, fun W => m_size3 _ _ _ W, fun W => m_near3 _ _ _ W, enters_of Tryz.func199 (by kernel_rfl) rfl, enters_of Tryz.func195 (by kernel_rfl) rfl, fun W hW => ?_, fun x hx W hW => near_make3 hv (by omega) (by omega) W⟩
    rw [← hn]
    have hr : dOk l hosts := by
      rcases hv with ⟨h0, h1⟩ | ⟨h0, h1⟩ | ⟨h0, h1⟩
      · cases h0
      · cases h0
      · exact h1
    obtain ⟨_, _, h1, h2, h3⟩ := hr
    have := drag_bound h1.1 h1.2 h2.1 h2.2
    exact sizeD_any _ _ _ (by omega) (by omega) (by omega) (by omega) W
/-- a function that yields links -/
def LIter (gf : Nat) (lb : Array Value) (lo : Nat) (L : List (Int × Int)) (s0 : Nat) (w : World) : Prop :=
  (∀ args w, (callFunc gf args).run Tryz.prog w = .ok (.enter gf args) w) ∧ ∃ Nd : List Nat, (∀ b ∈ Nd, s0 ≤ b ∧ ∃ o, w.heap[b]? = some o ∧ o.isCells = true) ∧ ∀ n, SeqX n gf lb encL Nd lo L w
theorem links_any {w : World} {lo ty fs fn : Nat} {rcv : Value} {sw : Nat} {ho : Int} {NB : Int → List Int} (hlo : lo ≤ w.heap.size) (hsw : sw ≤ 1000) (h : NetK w lo ty fs fn rcv sw ho NB) :
    Calls Tryz.prog 49 #[.iface ty rcv] w fun e w' => ∃ gf lb, e = .returned (.func (.func gf) #[] lb) ∧ LIter gf lb lo (lkL NB sw) w.heap.size w' ∧ Below w.heap.size w w' := by
  have q0 := heap_alloc_new w (.cells #[.iface ty rcv] 96)
  have hb : Below w.heap.size w (w.alloc (.cells #[.iface ty rcv] 96)) := (Below.refl _ _).alloc (Nat.le_refl _) _
  have HB := Lib.hid hb
  have HI : Hid (LIter 93 #[.pointer (some ⟨w.heap.size, 0, none⟩)] lo (lkL NB sw) w.heap.size (w.alloc (.cells #[.iface ty rcv] 96))) := by
    have h2 := h.later (hb.mono hlo)
    refine ⟨enters_of Tryz.func93 (by kernel_rfl) rfl, [w.heap.size], fun b hm => ?_, fun n => linksIter w.heap.size rcv ty fs fn sw ho NB lo (Nat.le_trans hlo hb.size) hsw h2.ms h2.mn h2.es h2.en h2.sz h2.nb q0 n⟩
    obtain rfl : b = w.heap.size := by simpa using hm
    exact ⟨Nat.le_refl _, _, q0, rfl⟩
  clear q0 hb h
  go_enter Tryz.func49, Tryz.ntmps49
  go_wp2_with fail
  go_ret
  exact ⟨93, _, rfl, HI.out, HB.out⟩
/-- a slice of booleans -/
structure Bls (w : World) (a : Option Addr) (l : List Bool) : Prop where
  len : l.length ≤ 17592186044416
  at_ : l ≠ [] → ∃ b off, a = some ⟨b, off, none⟩ ∧ ∀ j (h : j < l.length), w.cell? ⟨b, off + j, none⟩ = some (.bool l[j])
theorem Bls.keep {w w' : World} {a : Option Addr} {l : List Bool} (h : Bls w a l) (hb : Below w.heap.size w w') : Bls w' a l :=
  ⟨h.len, fun hl => by
    obtain ⟨b, off, ha, hc⟩ := h.at_ hl
    exact ⟨b, off, ha, fun j hj => (hb.cell (p := ⟨b, off + j, none⟩) (block_lt_of_cell (hc j hj))).trans (hc j hj)⟩⟩
/-- how many links are across a side -/
def cutL (bs : List Bool) (L : List (Int × Int)) : Nat := (L.filter fun p => bs.getD p.1.toNat false != bs.getD p.2.toNat false).length
end Go.Proofs.YtbhkenphcahifaaGreat
