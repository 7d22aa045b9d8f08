import Derived.Test.YtbhkenphcahifaaGreatNI
namespace Go.Proofs.YtbhkenphcahifaaGreat
open Go.RowKit Go.Shelf
attribute [local go_sem] Oper.semAt_some
set_option maxRecDepth 100000
set_option maxHeartbeats 4000000

/-- are some numbers those of switches -/
def inB (n : Int) (l : List Int) : Bool := l.all fun x => decide (0 ≤ x ∧ x ≤ n - 1)
/-- where a switch is -/
def placeL (kind : Int) (l : List Int) (x : Int) : List Int := if kind = 1 then coordsL l x else if kind = 2 then [x / wordsI l, x % wordsI l] else [x / l.getD 0 0, x % l.getD 0 0]
theorem networkWith1_any {w : World} {sa xa : Option Addr} {l xl : List Int} (h : Ints w sa l) (hx : Ints w xa xl) (sc xc : Nat) (hosts : Int) (hv : vOk 1 l hosts) :
    Calls Tryz.prog 53 #[.agg #[.int .i64 1, .slice sa l.length sc, .int .i64 hosts], .slice xa xl.length xc] w fun e w' => e = .returned (if inB (swI 1 l) xl = true then .tuple #[netV 1 sa sc l, .int .i64 0] else .tuple #[.nilIface, .int .i64 3]) ∧ Below w.heap.size w w' := by
  have HO : Hid (∀ W, Below w.heap.size w W → Calls Tryz.prog 47 #[.agg #[.int .i64 1, .slice sa l.length sc, .int .i64 hosts]] W fun e w' => Below W.heap.size W w' ∧ ((vOk 1 l hosts ∧ e = .returned (.tuple #[netV 1 sa sc l, .int .i64 0])) ∨ (¬ vOk 1 l hosts ∧ e = .returned (.tuple #[.nilIface, .int .i64 2])))) := fun W hb => networkOf_any (h.keep hb) sc 1 hosts
  have HB := Lib.hid ((Below.refl w.heap.size w).alloc (Nat.le_refl _) (.cells #[.int .i64 1, .slice sa l.length sc, .int .i64 hosts] 24))
  have Q0 := Lib.hid (heap_alloc_new w (.cells #[.int .i64 1, .slice sa l.length sc, .int .i64 hosts] 24))
  have c0 := cellR 0 Q0.out rfl
  have c1 := cellR 1 Q0.out rfl
  have c2 := cellR 2 Q0.out rfl
  have hvb := v_bound hv
  have HAB : Hid (∀ W, Below w.heap.size w W → Calls Tryz.prog 97 #[.int .i64 (swI 1 l), .slice xa xl.length xc] W fun e w' => e = .returned (.bool (inB (swI 1 l) xl)) ∧ W = w') := fun W hb => allBelow_any (hx.keep hb) xc (swI 1 l) (by omega) (by omega)
  have HSZ : Hid (∀ W, Calls Tryz.prog 144 #[.agg #[.slice sa l.length sc, .int .i64 (prodI l)]] W fun e w' => e = .returned (.tuple #[.int .i64 (swI 1 l), .int .i64 (hoI 1 l)]) ∧ Below W.heap.size W w') := fun W => sizeT_any sa l.length sc (prodI l) W
  have HNV : Hid (netV 1 sa sc l = .iface 138 (.agg #[.slice sa l.length sc, .int .i64 (prodI l)])) := rfl
  clear h hx hvb
  generalize inB (swI 1 l) xl = R at *
  generalize swI 1 l = SW at *
  generalize hoI 1 l = HO_ at *
  rw [HNV.out]
  cases R with
  | true =>
    go_enter Tryz.func53, Tryz.ntmps53
    go_wp2_with fail
    generalize w.alloc (.cells #[.int .i64 1, .slice sa l.length sc, .int .i64 hosts] 24) = X at *
    refine (HO.out _ HB.out).mono ?_
    rintro e w1 ⟨hb1, ⟨_, rfl⟩ | ⟨hn, _⟩⟩
    · rw [HNV.out]
      have hm := m_size1 sa l.length sc (prodI l)
      have HB1 := Lib.hid (HB.out.trans (hb1.mono HB.out.size))
      clear c0 c1 c2 Q0 HB hb1 HO
      go_wp2_with fail
      refine (HSZ.out _).mono ?_
      rintro e w2 ⟨rfl, hb2⟩
      have HB2 := Lib.hid (HB1.out.trans (hb2.mono HB1.out.size))
      clear HB1 hb2 HSZ hm
      go_wp2_with fail
      refine (HAB.out _ HB2.out).mono ?_
      rintro e w3 ⟨rfl, rfl⟩
      clear HAB
      go_wp2_with fail
      go_ret2
      exact ⟨rfl, HB2.out⟩
    · exact absurd hv hn
  | false =>
    go_enter Tryz.func53, Tryz.ntmps53
    go_wp2_with fail
    generalize w.alloc (.cells #[.int .i64 1, .slice sa l.length sc, .int .i64 hosts] 24) = X at *
    refine (HO.out _ HB.out).mono ?_
    rintro e w1 ⟨hb1, ⟨_, rfl⟩ | ⟨hn, _⟩⟩
    · rw [HNV.out]
      have hm := m_size1 sa l.length sc (prodI l)
      have HB1 := Lib.hid (HB.out.trans (hb1.mono HB.out.size))
      clear c0 c1 c2 Q0 HB hb1 HO
      go_wp2_with fail
      refine (HSZ.out _).mono ?_
      rintro e w2 ⟨rfl, hb2⟩
      have HB2 := Lib.hid (HB1.out.trans (hb2.mono HB1.out.size))
      clear HB1 hb2 HSZ hm
      go_wp2_with fail
      refine (HAB.out _ HB2.out).mono ?_
      rintro e w3 ⟨rfl, rfl⟩
      clear HAB
      go_wp2_with fail
      go_ret2
      exact ⟨rfl, HB2.out⟩
    · exact absurd hv hn
theorem networkWith2_any {w : World} {sa xa : Option Addr} {l xl : List Int} (h : Ints w sa l) (hx : Ints w xa xl) (sc xc : Nat) (hosts : Int) (hv : vOk 2 l hosts) :
    Calls Tryz.prog 53 #[.agg #[.int .i64 2, .slice sa l.length sc, .int .i64 hosts], .slice xa xl.length xc] w fun e w' => e = .returned (if inB (swI 2 l) xl = true then .tuple #[netV 2 sa sc l, .int .i64 0] else .tuple #[.nilIface, .int .i64 3]) ∧ Below w.heap.size w w' := by
  have HO : Hid (∀ W, Below w.heap.size w W → Calls Tryz.prog 47 #[.agg #[.int .i64 2, .slice sa l.length sc, .int .i64 hosts]] W fun e w' => Below W.heap.size W w' ∧ ((vOk 2 l hosts ∧ e = .returned (.tuple #[netV 2 sa sc l, .int .i64 0])) ∨ (¬ vOk 2 l hosts ∧ e = .returned (.tuple #[.nilIface, .int .i64 2])))) := fun W hb => networkOf_any (h.keep hb) sc 2 hosts
  have HB := Lib.hid ((Below.refl w.heap.size w).alloc (Nat.le_refl _) (.cells #[.int .i64 2, .slice sa l.length sc, .int .i64 hosts] 24))
  have Q0 := Lib.hid (heap_alloc_new w (.cells #[.int .i64 2, .slice sa l.length sc, .int .i64 hosts] 24))
  have c0 := cellR 0 Q0.out rfl
  have c1 := cellR 1 Q0.out rfl
  have c2 := cellR 2 Q0.out rfl
  have hvb := v_bound hv
  have HAB : Hid (∀ W, Below w.heap.size w W → Calls Tryz.prog 97 #[.int .i64 (swI 2 l), .slice xa xl.length xc] W fun e w' => e = .returned (.bool (inB (swI 2 l) xl)) ∧ W = w') := fun W hb => allBelow_any (hx.keep hb) xc (swI 2 l) (by omega) (by omega)
  have HSZ : Hid (∀ W, Calls Tryz.prog 185 #[.agg #[.int .i64 (l.getD 0 0), .int .i64 (l.getD 1 0), .int .i64 (wordsI l)]] W fun e w' => e = .returned (.tuple #[.int .i64 (swI 2 l), .int .i64 (hoI 2 l)]) ∧ Below W.heap.size W w') := fun W => by
    rcases hv with ⟨h9, _⟩ | ⟨_, h9⟩ | ⟨h9, _⟩
    · cases h9
    · have hwb := words_bound h9
      have h8 := h9.2.2.1
      exact sizeR_any (l.getD 0 0) (l.getD 1 0) (wordsI l) (by omega) (by omega) (by omega) (by omega) W
    · cases h9
  have HNV : Hid (netV 2 sa sc l = .iface 142 (.agg #[.int .i64 (l.getD 0 0), .int .i64 (l.getD 1 0), .int .i64 (wordsI l)])) := rfl
  clear h hx hvb
  generalize inB (swI 2 l) xl = R at *
  generalize swI 2 l = SW at *
  generalize hoI 2 l = HO_ at *
  rw [HNV.out]
  cases R with
  | true =>
    go_enter Tryz.func53, Tryz.ntmps53
    go_wp2_with fail
    generalize w.alloc (.cells #[.int .i64 2, .slice sa l.length sc, .int .i64 hosts] 24) = X at *
    refine (HO.out _ HB.out).mono ?_
    rintro e w1 ⟨hb1, ⟨_, rfl⟩ | ⟨hn, _⟩⟩
    · rw [HNV.out]
      have hm := m_size2 (l.getD 0 0) (l.getD 1 0) (wordsI l)
      have HB1 := Lib.hid (HB.out.trans (hb1.mono HB.out.size))
      clear c0 c1 c2 Q0 HB hb1 HO
      go_wp2_with fail
      refine (HSZ.out _).mono ?_
      rintro e w2 ⟨rfl, hb2⟩
      have HB2 := Lib.hid (HB1.out.trans (hb2.mono HB1.out.size))
      clear HB1 hb2 HSZ hm
      go_wp2_with fail
      refine (HAB.out _ HB2.out).mono ?_
      rintro e w3 ⟨rfl, rfl⟩
      clear HAB
      go_wp2_with fail
      go_ret2
      exact ⟨rfl, HB2.out⟩
    · exact absurd hv hn
  | false =>
    go_enter Tryz.func53, Tryz.ntmps53
    go_wp2_with fail
    generalize w.alloc (.cells #[.int .i64 2, .slice sa l.length sc, .int .i64 hosts] 24) = X at *
    refine (HO.out _ HB.out).mono ?_
    rintro e w1 ⟨hb1, ⟨_, rfl⟩ | ⟨hn, _⟩⟩
    · rw [HNV.out]
      have hm := m_size2 (l.getD 0 0) (l.getD 1 0) (wordsI l)
      have HB1 := Lib.hid (HB.out.trans (hb1.mono HB.out.size))
      clear c0 c1 c2 Q0 HB hb1 HO
      go_wp2_with fail
      refine (HSZ.out _).mono ?_
      rintro e w2 ⟨rfl, hb2⟩
      have HB2 := Lib.hid (HB1.out.trans (hb2.mono HB1.out.size))
      clear HB1 hb2 HSZ hm
      go_wp2_with fail
      refine (HAB.out _ HB2.out).mono ?_
      rintro e w3 ⟨rfl, rfl⟩
      clear HAB
      go_wp2_with fail
      go_ret2
      exact ⟨rfl, HB2.out⟩
    · exact absurd hv hn
theorem networkWith3_any {w : World} {sa xa : Option Addr} {l xl : List Int} (h : Ints w sa l) (hx : Ints w xa xl) (sc xc : Nat) (hosts : Int) (hv : vOk 3 l hosts) :
    Calls Tryz.prog 53 #[.agg #[.int .i64 3, .slice sa l.length sc, .int .i64 hosts], .slice xa xl.length xc] w fun e w' => e = .returned (if inB (swI 3 l) xl = true then .tuple #[netV 3 sa sc l, .int .i64 0] else .tuple #[.nilIface, .int .i64 3]) ∧ Below w.heap.size w w' := by
  have HO : Hid (∀ W, Below w.heap.size w W → Calls Tryz.prog 47 #[.agg #[.int .i64 3, .slice sa l.length sc, .int .i64 hosts]] W fun e w' => Below W.heap.size W w' ∧ ((vOk 3 l hosts ∧ e = .returned (.tuple #[netV 3 sa sc l, .int .i64 0])) ∨ (¬ vOk 3 l hosts ∧ e = .returned (.tuple #[.nilIface, .int .i64 2])))) := fun W hb => networkOf_any (h.keep hb) sc 3 hosts
  have HB := Lib.hid ((Below.refl w.heap.size w).alloc (Nat.le_refl _) (.cells #[.int .i64 3, .slice sa l.length sc, .int .i64 hosts] 24))
  have Q0 := Lib.hid (heap_alloc_new w (.cells #[.int .i64 3, .slice sa l.length sc, .int .i64 hosts] 24))
  have c0 := cellR 0 Q0.out rfl
  have c1 := cellR 1 Q0.out rfl
  have c2 := cellR 2 Q0.out rfl
  have hvb := v_bound hv
  have HAB : Hid (∀ W, Below w.heap.size w W → Calls Tryz.prog 97 #[.int .i64 (swI 3 l), .slice xa xl.length xc] W fun e w' => e = .returned (.bool (inB (swI 3 l) xl)) ∧ W = w') := fun W hb => allBelow_any (hx.keep hb) xc (swI 3 l) (by omega) (by omega)
  have HSZ : Hid (∀ W, Calls Tryz.prog 199 #[.agg #[.int .i64 (l.getD 0 0), .int .i64 (l.getD 1 0), .int .i64 (l.getD 0 0 * l.getD 1 0 + 1)]] W fun e w' => e = .returned (.tuple #[.int .i64 (swI 3 l), .int .i64 (hoI 3 l)]) ∧ Below W.heap.size W w') := fun W => by
    rcases hv with ⟨h9, _⟩ | ⟨h9, _⟩ | ⟨_, h9⟩
    · cases h9
    · cases h9
    · obtain ⟨b1, b2, b3, b4⟩ := drag_bound h9.2.2.1.1 h9.2.2.1.2 h9.2.2.2.1.1 h9.2.2.2.1.2
      have h8 := h9.2.2.1
      exact sizeD_any (l.getD 0 0) (l.getD 1 0) (l.getD 0 0 * l.getD 1 0 + 1) (by omega) (by omega) (by omega) (by omega) W
  have HNV : Hid (netV 3 sa sc l = .iface 146 (.agg #[.int .i64 (l.getD 0 0), .int .i64 (l.getD 1 0), .int .i64 (l.getD 0 0 * l.getD 1 0 + 1)])) := rfl
  clear h hx hvb
  generalize inB (swI 3 l) xl = R at *
  generalize swI 3 l = SW at *
  generalize hoI 3 l = HO_ at *
  rw [HNV.out]
  cases R with
  | true =>
    go_enter Tryz.func53, Tryz.ntmps53
    go_wp2_with fail
    generalize w.alloc (.cells #[.int .i64 3, .slice sa l.length sc, .int .i64 hosts] 24) = X at *
    refine (HO.out _ HB.out).mono ?_
    rintro e w1 ⟨hb1, ⟨_, rfl⟩ | ⟨hn, _⟩⟩
    · rw [HNV.out]
      have hm := m_size3 (l.getD 0 0) (l.getD 1 0) (l.getD 0 0 * l.getD 1 0 + 1)
      have HB1 := Lib.hid (HB.out.trans (hb1.mono HB.out.size))
      clear c0 c1 c2 Q0 HB hb1 HO
      go_wp2_with fail
      refine (HSZ.out _).mono ?_
      rintro e w2 ⟨rfl, hb2⟩
      have HB2 := Lib.hid (HB1.out.trans (hb2.mono HB1.out.size))
      clear HB1 hb2 HSZ hm
      go_wp2_with fail
      refine (HAB.out _ HB2.out).mono ?_
      rintro e w3 ⟨rfl, rfl⟩
      clear HAB
      go_wp2_with fail
      go_ret2
      exact ⟨rfl, HB2.out⟩
    · exact absurd hv hn
  | false =>
    go_enter Tryz.func53, Tryz.ntmps53
    go_wp2_with fail
    generalize w.alloc (.cells #[.int .i64 3, .slice sa l.length sc, .int .i64 hosts] 24) = X at *
    refine (HO.out _ HB.out).mono ?_
    rintro e w1 ⟨hb1, ⟨_, rfl⟩ | ⟨hn, _⟩⟩
    · rw [HNV.out]
      have hm := m_size3 (l.getD 0 0) (l.getD 1 0) (l.getD 0 0 * l.getD 1 0 + 1)
      have HB1 := Lib.hid (HB.out.trans (hb1.mono HB.out.size))
      clear c0 c1 c2 Q0 HB hb1 HO
      go_wp2_with fail
      refine (HSZ.out _).mono ?_
      rintro e w2 ⟨rfl, hb2⟩
      have HB2 := Lib.hid (HB1.out.trans (hb2.mono HB1.out.size))
      clear HB1 hb2 HSZ hm
      go_wp2_with fail
      refine (HAB.out _ HB2.out).mono ?_
      rintro e w3 ⟨rfl, rfl⟩
      clear HAB
      go_wp2_with fail
      go_ret2
      exact ⟨rfl, HB2.out⟩
    · exact absurd hv hn
theorem networkWith_bad {w : World} {sa xa : Option Addr} {l : List Int} (h : Ints w sa l) (sc xn xc : Nat) (kind hosts : Int) (hv : ¬ vOk kind l hosts) :
    Calls Tryz.prog 53 #[.agg #[.int .i64 kind, .slice sa l.length sc, .int .i64 hosts], .slice xa xn xc] w fun e w' => e = .returned (.tuple #[.nilIface, .int .i64 2]) ∧ Below w.heap.size w w' := by
  have HO : Hid (∀ W, Below w.heap.size w W → Calls Tryz.prog 47 #[.agg #[.int .i64 kind, .slice sa l.length sc, .int .i64 hosts]] W fun e w' => Below W.heap.size W w' ∧ ((vOk kind l hosts ∧ e = .returned (.tuple #[netV kind sa sc l, .int .i64 0])) ∨ (¬ vOk kind l hosts ∧ e = .returned (.tuple #[.nilIface, .int .i64 2])))) := fun W hb => networkOf_any (h.keep hb) sc kind hosts
  have HB := Lib.hid ((Below.refl w.heap.size w).alloc (Nat.le_refl _) (.cells #[.int .i64 kind, .slice sa l.length sc, .int .i64 hosts] 24))
  have Q0 := Lib.hid (heap_alloc_new w (.cells #[.int .i64 kind, .slice sa l.length sc, .int .i64 hosts] 24))
  have c0 := cellR 0 Q0.out rfl
  have c1 := cellR 1 Q0.out rfl
  have c2 := cellR 2 Q0.out rfl
  clear h
  go_enter Tryz.func53, Tryz.ntmps53
  go_wp2_with fail
  generalize w.alloc (.cells #[.int .i64 kind, .slice sa l.length sc, .int .i64 hosts] 24) = X at *
  refine (HO.out _ HB.out).mono ?_
  rintro e w1 ⟨hb1, ⟨hn, _⟩ | ⟨_, rfl⟩⟩
  · exact absurd hn hv
  · have HB1 := Lib.hid (HB.out.trans (hb1.mono HB.out.size))
    clear c0 c1 c2 HB hb1 HO Q0
    go_wp2_with fail
    go_ret2
    exact ⟨rfl, HB1.out⟩
/-- what networkWith returns -/
def withV (kind : Int) (sa : Option Addr) (sc : Nat) (l : List Int) (hosts : Int) (xl : List Int) : Value :=
  if vOk kind l hosts then (if inB (swI kind l) xl = true then .tuple #[netV kind sa sc l, .int .i64 0] else .tuple #[.nilIface, .int .i64 3]) else .tuple #[.nilIface, .int .i64 2]
theorem networkWith_any {w : World} {sa xa : Option Addr} {l xl : List Int} (h : Ints w sa l) (hx : Ints w xa xl) (sc xc : Nat) (kind hosts : Int) :
    Calls Tryz.prog 53 #[.agg #[.int .i64 kind, .slice sa l.length sc, .int .i64 hosts], .slice xa xl.length xc] w fun e w' => e = .returned (withV kind sa sc l hosts xl) ∧ Below w.heap.size w w' := by
  unfold withV
  by_cases hv : vOk kind l hosts
  · rw [if_pos hv]
    rcases v_kind hv with rfl | rfl | rfl
    · exact networkWith1_any h hx sc xc hosts hv
    · exact networkWith2_any h hx sc xc hosts hv
    · exact networkWith3_any h hx sc xc hosts hv
  · rw [if_neg hv]
    exact networkWith_bad h sc xl.length xc kind hosts hv
def plaE (kind : Int) (l : List Int) (hosts x : Int) : Int := if vOk kind l hosts then (if inB (swI kind l) [x] = true then 0 else 3) else 2
theorem ints_one (w : World) (x : Int) : Ints (w.alloc (.cells #[.int .i64 x] 3)) (some ⟨w.heap.size, 0, none⟩) [x] := by
  refine ⟨by simp, fun _ => ⟨w.heap.size, 0, rfl, fun j hj => ?_⟩⟩
  have : j = 0 := by simp at hj; omega
  subst this
  exact cellR 0 (heap_alloc_new w (.cells #[.int .i64 x] 3)) rfl
theorem Place_bad {w : World} {sa : Option Addr} {l : List Int} (h : Ints w sa l) (sc : Nat) (kind hosts x : Int) (hE : plaE kind l hosts x ≠ 0) :
    Calls Tryz.prog 43 #[.agg #[.int .i64 kind, .slice sa l.length sc, .int .i64 hosts], .int .i64 x] w fun e w' => e = .returned (.tuple #[.slice none 0 0, .int .i64 (plaE kind l hosts x)]) ∧ Below w.heap.size w w' := by
  obtain ⟨hbx, q0, q1, hz⟩ := twoN w (.cells #[.int .i64 kind, .slice sa l.length sc, .int .i64 hosts] 24) (.cells #[.int .i64 x] 3)
  have HB := Lib.hid hbx
  have c0 := cellR 0 (heap_alloc_new w (.cells #[.int .i64 kind, .slice sa l.length sc, .int .i64 hosts] 24)) rfl
  have c1 := cellR 1 (heap_alloc_new w (.cells #[.int .i64 kind, .slice sa l.length sc, .int .i64 hosts] 24)) rfl
  have c2 := cellR 2 (heap_alloc_new w (.cells #[.int .i64 kind, .slice sa l.length sc, .int .i64 hosts] 24)) rfl
  have hi := ints_one (w.alloc (.cells #[.int .i64 kind, .slice sa l.length sc, .int .i64 hosts] 24)) x
  rw [show (w.alloc (.cells #[.int .i64 kind, .slice sa l.length sc, .int .i64 hosts] 24)).heap.size = w.heap.size + 1 by simp] at hi
  have HC : Hid (Calls Tryz.prog 53 #[.agg #[.int .i64 kind, .slice sa l.length sc, .int .i64 hosts], .slice (some ⟨w.heap.size + 1, 0, none⟩) 1 1] ((w.alloc (.cells #[.int .i64 kind, .slice sa l.length sc, .int .i64 hosts] 24)).alloc (.cells #[.int .i64 x] 3)) fun e w' => e = .returned (.tuple #[.nilIface, .int .i64 (plaE kind l hosts x)]) ∧ Below w.heap.size ((w.alloc (.cells #[.int .i64 kind, .slice sa l.length sc, .int .i64 hosts] 24)).alloc (.cells #[.int .i64 x] 3)) w') := by
    refine (networkWith_any (h.keep hbx) hi sc 1 kind hosts).mono ?_
    rintro e w' ⟨rfl, hb⟩
    refine ⟨?_, hb.mono (by rw [hz]; omega)⟩
    unfold withV
    unfold plaE at hE ⊢
    by_cases hv : vOk kind l hosts
    · rw [if_pos hv] at hE ⊢
      by_cases hi2 : inB (swI kind l) [x] = true
      · rw [if_pos hi2] at hE; exact absurd rfl hE
      · rw [if_neg hi2, if_pos hv, if_neg hi2]
    · rw [if_neg hv, if_neg hv]
  have hne : (plaE kind l hosts x != 0) = true := bne_iff_ne.2 hE
  generalize plaE kind l hosts x = E at *
  clear h hbx q0 q1 hi hz hE
  go_enter Tryz.func43, Tryz.ntmps43
  go_wp2_with fail
  refine HC.out.mono ?_
  rintro e w1 ⟨rfl, hb1⟩
  have HB1 := Lib.hid (HB.out.trans hb1)
  clear HC hb1 HB c0 c1 c2
  go_wp2_with fail
  go_ret2
  exact ⟨rfl, HB1.out⟩
theorem Place1_any {w : World} {sa : Option Addr} {l : List Int} (h : Ints w sa l) (sc : Nat) (hosts x : Int) (hv : vOk 1 l hosts) (hin : inB (swI 1 l) [x] = true) :
    Calls Tryz.prog 43 #[.agg #[.int .i64 1, .slice sa l.length sc, .int .i64 hosts], .int .i64 x] w fun e w' => ∃ g, e = .returned (.tuple #[.slice (some ⟨g, 0, none⟩) (placeL 1 l x).length (placeL 1 l x).length, .int .i64 0]) ∧ w.heap.size ≤ g ∧ RowAt w' g (placeL 1 l x) ∧ Below w.heap.size w w' := by
  obtain ⟨hx0, hx1⟩ : 0 ≤ x ∧ x ≤ swI 1 l - 1 := by simpa [inB] using hin
  have hvb := v_bound hv
  obtain ⟨hbx, q0, q1, hz⟩ := twoN w (.cells #[.int .i64 1, .slice sa l.length sc, .int .i64 hosts] 24) (.cells #[.int .i64 x] 3)
  have HB := Lib.hid hbx
  have c0 := cellR 0 (heap_alloc_new w (.cells #[.int .i64 1, .slice sa l.length sc, .int .i64 hosts] 24)) rfl
  have c1 := cellR 1 (heap_alloc_new w (.cells #[.int .i64 1, .slice sa l.length sc, .int .i64 hosts] 24)) rfl
  have c2 := cellR 2 (heap_alloc_new w (.cells #[.int .i64 1, .slice sa l.length sc, .int .i64 hosts] 24)) rfl
  have hi := ints_one (w.alloc (.cells #[.int .i64 1, .slice sa l.length sc, .int .i64 hosts] 24)) x
  rw [show (w.alloc (.cells #[.int .i64 1, .slice sa l.length sc, .int .i64 hosts] 24)).heap.size = w.heap.size + 1 by simp] at hi
  have HC : Hid (Calls Tryz.prog 53 #[.agg #[.int .i64 1, .slice sa l.length sc, .int .i64 hosts], .slice (some ⟨w.heap.size + 1, 0, none⟩) 1 1] ((w.alloc (.cells #[.int .i64 1, .slice sa l.length sc, .int .i64 hosts] 24)).alloc (.cells #[.int .i64 x] 3)) fun e w' => e = .returned (.tuple #[.iface 138 (.agg #[.slice sa l.length sc, .int .i64 (prodI l)]), .int .i64 0]) ∧ Below w.heap.size ((w.alloc (.cells #[.int .i64 1, .slice sa l.length sc, .int .i64 hosts] 24)).alloc (.cells #[.int .i64 x] 3)) w') := by
    refine (networkWith1_any (h.keep hbx) hi sc 1 hosts hv).mono ?_
    rintro e w' ⟨rfl, hb⟩
    exact ⟨by rw [if_pos hin]; rfl, hb.mono (by rw [hz]; omega)⟩
  have HP : Hid (∀ W, Below w.heap.size w W → Calls Tryz.prog 141 #[.agg #[.slice sa l.length sc, .int .i64 (prodI l)], .int .i64 x] W fun e w' => ∃ g, e = .returned (.slice (some ⟨g, 0, none⟩) (placeL 1 l x).length (placeL 1 l x).length) ∧ W.heap.size ≤ g ∧ RowAt w' g (placeL 1 l x) ∧ Below W.heap.size W w') := fun W hb => by
    rcases hv with ⟨_, h9⟩ | ⟨h9, _⟩ | ⟨h9, _⟩
    · refine (coords_any (h.keep hb) (fun s hs => by have := h9.2.2.1 s hs; omega) sc (prodI l) x hx0 (by omega)).mono ?_
      rintro e w' ⟨g, rfl, h1, h2, h3⟩
      have hln : (coordsL l x).length = l.length := cfold_len _ _ _
      exact ⟨g, by rw [show placeL 1 l x = coordsL l x from rfl, hln], h1, h2, h3⟩
    · cases h9
    · cases h9
  have hm := m_place1 sa l.length sc (prodI l)
  generalize placeL 1 l x = PLL at *
  clear h hbx q0 q1 hi hz hv hin hx0 hx1 hvb
  go_enter Tryz.func43, Tryz.ntmps43
  go_wp2_with fail
  refine HC.out.mono ?_
  rintro e w1 ⟨rfl, hb1⟩
  have HB1 := Lib.hid (HB.out.trans hb1)
  clear HC hb1 HB c0 c1 c2
  go_wp2_with fail
  refine (HP.out _ HB1.out).mono ?_
  rintro e w2 ⟨g, rfl, hg, hR, hb2⟩
  have HR := Lib.hid hR
  have HB2 := Lib.hid (HB1.out.trans (hb2.mono HB1.out.size))
  have HG : Hid (w.heap.size ≤ g) := Nat.le_trans HB1.out.size hg
  clear HP hR hb2 hg hm HB1
  go_wp2_with fail
  go_ret2
  exact ⟨g, rfl, HG.out, HR.out, HB2.out⟩
theorem Place2_any {w : World} {sa : Option Addr} {l : List Int} (h : Ints w sa l) (sc : Nat) (hosts x : Int) (hv : vOk 2 l hosts) (hin : inB (swI 2 l) [x] = true) :
    Calls Tryz.prog 43 #[.agg #[.int .i64 2, .slice sa l.length sc, .int .i64 hosts], .int .i64 x] w fun e w' => ∃ g, e = .returned (.tuple #[.slice (some ⟨g, 0, none⟩) (placeL 2 l x).length (placeL 2 l x).length, .int .i64 0]) ∧ w.heap.size ≤ g ∧ RowAt w' g (placeL 2 l x) ∧ Below w.heap.size w w' := by
  obtain ⟨hx0, hx1⟩ : 0 ≤ x ∧ x ≤ swI 2 l - 1 := by simpa [inB] using hin
  have hvb := v_bound hv
  obtain ⟨hbx, q0, q1, hz⟩ := twoN w (.cells #[.int .i64 2, .slice sa l.length sc, .int .i64 hosts] 24) (.cells #[.int .i64 x] 3)
  have HB := Lib.hid hbx
  have c0 := cellR 0 (heap_alloc_new w (.cells #[.int .i64 2, .slice sa l.length sc, .int .i64 hosts] 24)) rfl
  have c1 := cellR 1 (heap_alloc_new w (.cells #[.int .i64 2, .slice sa l.length sc, .int .i64 hosts] 24)) rfl
  have c2 := cellR 2 (heap_alloc_new w (.cells #[.int .i64 2, .slice sa l.length sc, .int .i64 hosts] 24)) rfl
  have hi := ints_one (w.alloc (.cells #[.int .i64 2, .slice sa l.length sc, .int .i64 hosts] 24)) x
  rw [show (w.alloc (.cells #[.int .i64 2, .slice sa l.length sc, .int .i64 hosts] 24)).heap.size = w.heap.size + 1 by simp] at hi
  have HC : Hid (Calls Tryz.prog 53 #[.agg #[.int .i64 2, .slice sa l.length sc, .int .i64 hosts], .slice (some ⟨w.heap.size + 1, 0, none⟩) 1 1] ((w.alloc (.cells #[.int .i64 2, .slice sa l.length sc, .int .i64 hosts] 24)).alloc (.cells #[.int .i64 x] 3)) fun e w' => e = .returned (.tuple #[.iface 142 (.agg #[.int .i64 (l.getD 0 0), .int .i64 (l.getD 1 0), .int .i64 (wordsI l)]), .int .i64 0]) ∧ Below w.heap.size ((w.alloc (.cells #[.int .i64 2, .slice sa l.length sc, .int .i64 hosts] 24)).alloc (.cells #[.int .i64 x] 3)) w') := by
    refine (networkWith2_any (h.keep hbx) hi sc 1 hosts hv).mono ?_
    rintro e w' ⟨rfl, hb⟩
    exact ⟨by rw [if_pos hin]; rfl, hb.mono (by rw [hz]; omega)⟩
  have HP : Hid (∀ W, Below w.heap.size w W → Calls Tryz.prog 182 #[.agg #[.int .i64 (l.getD 0 0), .int .i64 (l.getD 1 0), .int .i64 (wordsI l)], .int .i64 x] W fun e w' => ∃ g, e = .returned (.slice (some ⟨g, 0, none⟩) (placeL 2 l x).length (placeL 2 l x).length) ∧ W.heap.size ≤ g ∧ RowAt w' g (placeL 2 l x) ∧ Below W.heap.size W w') := fun W hb => by
    rcases hv with ⟨h9, _⟩ | ⟨_, h9⟩ | ⟨h9, _⟩
    · cases h9
    · have hwb := words_bound h9
      exact placeR_any (l.getD 0 0) (l.getD 1 0) (wordsI l) x hx0 (by omega) hwb.1 W
    · cases h9
  have hm := m_place2 (l.getD 0 0) (l.getD 1 0) (wordsI l)
  generalize placeL 2 l x = PLL at *
  clear h hbx q0 q1 hi hz hv hin hx0 hx1 hvb
  go_enter Tryz.func43, Tryz.ntmps43
  go_wp2_with fail
  refine HC.out.mono ?_
  rintro e w1 ⟨rfl, hb1⟩
  have HB1 := Lib.hid (HB.out.trans hb1)
  clear HC hb1 HB c0 c1 c2
  go_wp2_with fail
  refine (HP.out _ HB1.out).mono ?_
  rintro e w2 ⟨g, rfl, hg, hR, hb2⟩
  have HR := Lib.hid hR
  have HB2 := Lib.hid (HB1.out.trans (hb2.mono HB1.out.size))
  have HG : Hid (w.heap.size ≤ g) := Nat.le_trans HB1.out.size hg
  clear HP hR hb2 hg hm HB1
  go_wp2_with fail
  go_ret2
  exact ⟨g, rfl, HG.out, HR.out, HB2.out⟩
theorem Place3_any {w : World} {sa : Option Addr} {l : List Int} (h : Ints w sa l) (sc : Nat) (hosts x : Int) (hv : vOk 3 l hosts) (hin : inB (swI 3 l) [x] = true) :
    Calls Tryz.prog 43 #[.agg #[.int .i64 3, .slice sa l.length sc, .int .i64 hosts], .int .i64 x] w fun e w' => ∃ g, e = .returned (.tuple #[.slice (some ⟨g, 0, none⟩) (placeL 3 l x).length (placeL 3 l x).length, .int .i64 0]) ∧ w.heap.size ≤ g ∧ RowAt w' g (placeL 3 l x) ∧ Below w.heap.size w w' := by
  obtain ⟨hx0, hx1⟩ : 0 ≤ x ∧ x ≤ swI 3 l - 1 := by simpa [inB] using hin
  have hvb := v_bound hv
  obtain ⟨hbx, q0, q1, hz⟩ := twoN w (.cells #[.int .i64 3, .slice sa l.length sc, .int .i64 hosts] 24) (.cells #[.int .i64 x] 3)
  have HB := Lib.hid hbx
  have c0 := cellR 0 (heap_alloc_new w (.cells #[.int .i64 3, .slice sa l.length sc, .int .i64 hosts] 24)) rfl
  have c1 := cellR 1 (heap_alloc_new w (.cells #[.int .i64 3, .slice sa l.length sc, .int .i64 hosts] 24)) rfl
  have c2 := cellR 2 (heap_alloc_new w (.cells #[.int .i64 3, .slice sa l.length sc, .int .i64 hosts] 24)) rfl
  have hi := ints_one (w.alloc (.cells #[.int .i64 3, .slice sa l.length sc, .int .i64 hosts] 24)) x
  rw [show (w.alloc (.cells #[.int .i64 3, .slice sa l.length sc, .int .i64 hosts] 24)).heap.size = w.heap.size + 1 by simp] at hi
  have HC : Hid (Calls Tryz.prog 53 #[.agg #[.int .i64 3, .slice sa l.length sc, .int .i64 hosts], .slice (some ⟨w.heap.size + 1, 0, none⟩) 1 1] ((w.alloc (.cells #[.int .i64 3, .slice sa l.length sc, .int .i64 hosts] 24)).alloc (.cells #[.int .i64 x] 3)) fun e w' => e = .returned (.tuple #[.iface 146 (.agg #[.int .i64 (l.getD 0 0), .int .i64 (l.getD 1 0), .int .i64 (l.getD 0 0 * l.getD 1 0 + 1)]), .int .i64 0]) ∧ Below w.heap.size ((w.alloc (.cells #[.int .i64 3, .slice sa l.length sc, .int .i64 hosts] 24)).alloc (.cells #[.int .i64 x] 3)) w') := by
    refine (networkWith3_any (h.keep hbx) hi sc 1 hosts hv).mono ?_
    rintro e w' ⟨rfl, hb⟩
    exact ⟨by rw [if_pos hin]; rfl, hb.mono (by rw [hz]; omega)⟩
  have HP : Hid (∀ W, Below w.heap.size w W → Calls Tryz.prog 196 #[.agg #[.int .i64 (l.getD 0 0), .int .i64 (l.getD 1 0), .int .i64 (l.getD 0 0 * l.getD 1 0 + 1)], .int .i64 x] W fun e w' => ∃ g, e = .returned (.slice (some ⟨g, 0, none⟩) (placeL 3 l x).length (placeL 3 l x).length) ∧ W.heap.size ≤ g ∧ RowAt w' g (placeL 3 l x) ∧ Below W.heap.size W w') := fun W hb => by
    rcases hv with ⟨h9, _⟩ | ⟨h9, _⟩ | ⟨_, h9⟩
    · cases h9
    · cases h9
    · exact placeD_any (l.getD 0 0) (l.getD 1 0) (l.getD 0 0 * l.getD 1 0 + 1) x hx0 (by omega) h9.2.2.1.1 W
  have hm := m_place3 (l.getD 0 0) (l.getD 1 0) (l.getD 0 0 * l.getD 1 0 + 1)
  generalize placeL 3 l x = PLL at *
  clear h hbx q0 q1 hi hz hv hin hx0 hx1 hvb
  go_enter Tryz.func43, Tryz.ntmps43
  go_wp2_with fail
  refine HC.out.mono ?_
  rintro e w1 ⟨rfl, hb1⟩
  have HB1 := Lib.hid (HB.out.trans hb1)
  clear HC hb1 HB c0 c1 c2
  go_wp2_with fail
  refine (HP.out _ HB1.out).mono ?_
  rintro e w2 ⟨g, rfl, hg, hR, hb2⟩
  have HR := Lib.hid hR
  have HB2 := Lib.hid (HB1.out.trans (hb2.mono HB1.out.size))
  have HG : Hid (w.heap.size ≤ g) := Nat.le_trans HB1.out.size hg
  clear HP hR hb2 hg hm HB1
  go_wp2_with fail
  go_ret2
  exact ⟨g, rfl, HG.out, HR.out, HB2.out⟩
/-- Place: an error, or the list in new memory -/
theorem Place_any {w : World} {sa : Option Addr} {l : List Int} (h : Ints w sa l) (sc : Nat) (kind hosts x : Int) :
    Calls Tryz.prog 43 #[.agg #[.int .i64 kind, .slice sa l.length sc, .int .i64 hosts], .int .i64 x] w fun e w' => Below w.heap.size w w' ∧ ((plaE kind l hosts x ≠ 0 ∧ e = .returned (.tuple #[.slice none 0 0, .int .i64 (plaE kind l hosts x)])) ∨ (plaE kind l hosts x = 0 ∧ ∃ g, e = .returned (.tuple #[.slice (some ⟨g, 0, none⟩) (placeL kind l x).length (placeL kind l x).length, .int .i64 0]) ∧ w.heap.size ≤ g ∧ RowAt w' g (placeL kind l x))) := by
  by_cases hE : plaE kind l hosts x = 0
  · have h1 : vOk kind l hosts ∧ inB (swI kind l) [x] = true := by
      unfold plaE at hE
      by_cases hv : vOk kind l hosts
      · rw [if_pos hv] at hE
        by_cases hi : inB (swI kind l) [x] = true
        · exact ⟨hv, hi⟩
        · rw [if_neg hi] at hE; cases hE
      · rw [if_neg hv] at hE; cases hE
    rcases v_kind h1.1 with rfl | rfl | rfl
    · exact (Place1_any h sc hosts x h1.1 h1.2).mono fun e w' ⟨g, a1, a2, a3, a4⟩ => ⟨a4, .inr ⟨hE, g, a1, a2, a3⟩⟩
    · exact (Place2_any h sc hosts x h1.1 h1.2).mono fun e w' ⟨g, a1, a2, a3, a4⟩ => ⟨a4, .inr ⟨hE, g, a1, a2, a3⟩⟩
    · exact (Place3_any h sc hosts x h1.1 h1.2).mono fun e w' ⟨g, a1, a2, a3, a4⟩ => ⟨a4, .inr ⟨hE, g, a1, a2, a3⟩⟩
  · exact (Place_bad h sc kind hosts x hE).mono fun e w' ⟨a1, a2⟩ => ⟨a2, .inl ⟨hE, a1⟩⟩
end Go.Proofs.YtbhkenphcahifaaGreat
