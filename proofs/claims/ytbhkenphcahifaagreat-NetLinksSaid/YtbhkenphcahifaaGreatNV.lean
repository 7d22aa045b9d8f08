import Derived.Test.YtbhkenphcahifaaGreatNT
import Derived.Test.YtbhkenphcahifaaGreatNR
namespace Go.Proofs.YtbhkenphcahifaaGreat
open Go.RowKit Go.Shelf
attribute [local go_sem] Oper.semAt_some
set_option maxRecDepth 100000
set_option maxHeartbeats 4000000

/-- the error of a route -/
def rteE (kind : Int) (l : List Int) (hosts x y : Int) : Int := if vOk kind l hosts then (if inB (swI kind l) [x, y] = true then (if y < hoI kind l then 0 else 2) else 3) else 2
theorem ints_pair (w : World) (x y : Int) : Ints (w.alloc (.cells #[.int .i64 x, .int .i64 y] 3)) (some ⟨w.heap.size, 0, none⟩) [x, y] := by
  refine ⟨by simp, fun _ => ⟨w.heap.size, 0, rfl, fun j hj => ?_⟩⟩
  have : j = 0 ∨ j = 1 := by simp at hj; omega
  rcases this with rfl | rfl
  · exact cellR 0 (heap_alloc_new w (.cells #[.int .i64 x, .int .i64 y] 3)) rfl
  · exact cellR 1 (heap_alloc_new w (.cells #[.int .i64 x, .int .i64 y] 3)) rfl
theorem routed_bad {w : World} {sa : Option Addr} {l : List Int} (h : Ints w sa l) (sc : Nat) (kind hosts x y : Int) (hE : ¬ (vOk kind l hosts ∧ inB (swI kind l) [x, y] = true)) :
    Calls Tryz.prog 115 #[.agg #[.int .i64 kind, .slice sa l.length sc, .int .i64 hosts], .int .i64 x, .int .i64 y] w fun e w' => e = .returned (.tuple #[.nilIface, .int .i64 (rteE kind l hosts x y)]) ∧ Below w.heap.size w w' := by
  obtain ⟨hbx, q0, q1, hz⟩ := twoN w (.cells #[.int .i64 kind, .slice sa l.length sc, .int .i64 hosts] 24) (.cells #[.int .i64 x, .int .i64 y] 3)
  have HB := Lib.hid hbx
  have c0 := cellR 0 (heap_alloc_new w (.cells #[.int .i64 kind, .slice sa l.length sc, .int .i64 hosts] 24)) rfl
  have c1 := cellR 1 (heap_alloc_new w (.cells #[.int .i64 kind, .slice sa l.length sc, .int .i64 hosts] 24)) rfl
  have c2 := cellR 2 (heap_alloc_new w (.cells #[.int .i64 kind, .slice sa l.length sc, .int .i64 hosts] 24)) rfl
  have hi := ints_pair (w.alloc (.cells #[.int .i64 kind, .slice sa l.length sc, .int .i64 hosts] 24)) x y
  rw [show (w.alloc (.cells #[.int .i64 kind, .slice sa l.length sc, .int .i64 hosts] 24)).heap.size = w.heap.size + 1 by simp] at hi
  have hne : rteE kind l hosts x y ≠ 0 := by
    unfold rteE
    by_cases hv : vOk kind l hosts
    · rw [if_pos hv, if_neg (fun h => hE ⟨hv, h⟩)]; decide
    · rw [if_neg hv]; decide
  have HC : Hid (Calls Tryz.prog 53 #[.agg #[.int .i64 kind, .slice sa l.length sc, .int .i64 hosts], .slice (some ⟨w.heap.size + 1, 0, none⟩) 2 2] ((w.alloc (.cells #[.int .i64 kind, .slice sa l.length sc, .int .i64 hosts] 24)).alloc (.cells #[.int .i64 x, .int .i64 y] 3)) fun e w' => e = .returned (.tuple #[.nilIface, .int .i64 (rteE kind l hosts x y)]) ∧ Below w.heap.size ((w.alloc (.cells #[.int .i64 kind, .slice sa l.length sc, .int .i64 hosts] 24)).alloc (.cells #[.int .i64 x, .int .i64 y] 3)) w') := by
    refine (networkWith_any (h.keep hbx) hi sc 2 kind hosts).mono ?_
    rintro e w' ⟨rfl, hb⟩
    refine ⟨?_, hb.mono (by rw [hz]; omega)⟩
    unfold withV rteE
    by_cases hv : vOk kind l hosts
    · rw [if_pos hv, if_neg (fun h => hE ⟨hv, h⟩), if_pos hv, if_neg (fun h => hE ⟨hv, h⟩)]
    · rw [if_neg hv, if_neg hv]
  have hneb : (rteE kind l hosts x y != 0) = true := bne_iff_ne.2 hne
  generalize rteE kind l hosts x y = E at *
  clear h hbx q0 q1 hi hz hE hne
  go_enter Tryz.func115, Tryz.ntmps115
  go_wp2_with fail
  refine HC.out.mono ?_
  rintro e w1 ⟨rfl, hb1⟩
  have HB1 := Lib.hid (HB.out.trans hb1)
  clear HC hb1 HB c0 c1 c2
  go_wp2_with fail
  go_ret2
  exact ⟨rfl, HB1.out⟩
theorem routed1_any {w : World} {sa : Option Addr} {l : List Int} (h : Ints w sa l) (sc : Nat) (hosts x y : Int) (hv : vOk 1 l hosts) (hin : inB (swI 1 l) [x, y] = true) :
    Calls Tryz.prog 115 #[.agg #[.int .i64 1, .slice sa l.length sc, .int .i64 hosts], .int .i64 x, .int .i64 y] w fun e w' => e = .returned (.tuple #[if y < hoI 1 l then .iface 138 (.agg #[.slice sa l.length sc, .int .i64 (prodI l)]) else .nilIface, .int .i64 (rteE 1 l hosts x y)]) ∧ Below w.heap.size w w' := by
  have hvb := v_bound hv
  obtain ⟨hbx, q0, q1, hz⟩ := twoN w (.cells #[.int .i64 1, .slice sa l.length sc, .int .i64 hosts] 24) (.cells #[.int .i64 x, .int .i64 y] 3)
  have HB := Lib.hid hbx
  have c0 := cellR 0 (heap_alloc_new w (.cells #[.int .i64 1, .slice sa l.length sc, .int .i64 hosts] 24)) rfl
  have c1 := cellR 1 (heap_alloc_new w (.cells #[.int .i64 1, .slice sa l.length sc, .int .i64 hosts] 24)) rfl
  have c2 := cellR 2 (heap_alloc_new w (.cells #[.int .i64 1, .slice sa l.length sc, .int .i64 hosts] 24)) rfl
  have hi := ints_pair (w.alloc (.cells #[.int .i64 1, .slice sa l.length sc, .int .i64 hosts] 24)) x y
  rw [show (w.alloc (.cells #[.int .i64 1, .slice sa l.length sc, .int .i64 hosts] 24)).heap.size = w.heap.size + 1 by simp] at hi
  have HC : Hid (Calls Tryz.prog 53 #[.agg #[.int .i64 1, .slice sa l.length sc, .int .i64 hosts], .slice (some ⟨w.heap.size + 1, 0, none⟩) 2 2] ((w.alloc (.cells #[.int .i64 1, .slice sa l.length sc, .int .i64 hosts] 24)).alloc (.cells #[.int .i64 x, .int .i64 y] 3)) fun e w' => e = .returned (.tuple #[.iface 138 (.agg #[.slice sa l.length sc, .int .i64 (prodI l)]), .int .i64 0]) ∧ Below w.heap.size ((w.alloc (.cells #[.int .i64 1, .slice sa l.length sc, .int .i64 hosts] 24)).alloc (.cells #[.int .i64 x, .int .i64 y] 3)) w') := by
    refine (networkWith1_any (h.keep hbx) hi sc 2 hosts hv).mono ?_
    rintro e w' ⟨rfl, hb⟩
    exact ⟨by rw [if_pos hin]; rfl, hb.mono (by rw [hz]; omega)⟩
  have HSZ : Hid (∀ W, Calls Tryz.prog 144 #[.agg #[.slice sa l.length sc, .int .i64 (prodI l)]] W fun e w' => e = .returned (.tuple #[.int .i64 (swI 1 l), .int .i64 (hoI 1 l)]) ∧ Below W.heap.size W w') := fun W => sizeT_any sa l.length sc (prodI l) W
  have hm := m_size1 sa l.length sc (prodI l)
  by_cases hy : y < hoI 1 l
  case pos =>
    rw [if_pos hy]
    rw [show rteE 1 l hosts x y = 0 by unfold rteE; rw [if_pos hv, if_pos hin, if_pos (by omega)]]
    have hgd : decide (hoI 1 l ≤ y) = false := decide_eq_false (by omega)
    clear hv hin hy h hbx hi hz q0 q1 hvb
    generalize swI 1 l = SW at *
    generalize hoI 1 l = HO_ at *
    go_enter Tryz.func115, Tryz.ntmps115
    go_wp2_with fail
    refine HC.out.mono ?_
    rintro e w1 ⟨rfl, hb1⟩
    have HB1 := Lib.hid (HB.out.trans hb1)
    clear HC hb1 HB c0 c1 c2
    go_wp2_with fail
    refine (HSZ.out _).mono ?_
    rintro e w2 ⟨rfl, hb2⟩
    have HB2 := Lib.hid (HB1.out.trans (hb2.mono HB1.out.size))
    clear HB1 hb2 HSZ hm
    go_wp2_with fail
    go_ret2
    exact ⟨rfl, HB2.out⟩
  case neg =>
    rw [if_neg hy]
    rw [show rteE 1 l hosts x y = 2 by unfold rteE; rw [if_pos hv, if_pos hin, if_neg (by omega)]]
    have hgd : decide (hoI 1 l ≤ y) = true := decide_eq_true (by omega)
    clear hv hin hy h hbx hi hz q0 q1 hvb
    generalize swI 1 l = SW at *
    generalize hoI 1 l = HO_ at *
    go_enter Tryz.func115, Tryz.ntmps115
    go_wp2_with fail
    refine HC.out.mono ?_
    rintro e w1 ⟨rfl, hb1⟩
    have HB1 := Lib.hid (HB.out.trans hb1)
    clear HC hb1 HB c0 c1 c2
    go_wp2_with fail
    refine (HSZ.out _).mono ?_
    rintro e w2 ⟨rfl, hb2⟩
    have HB2 := Lib.hid (HB1.out.trans (hb2.mono HB1.out.size))
    clear HB1 hb2 HSZ hm
    go_wp2_with fail
    go_ret2
    exact ⟨rfl, HB2.out⟩
theorem routed2_any {w : World} {sa : Option Addr} {l : List Int} (h : Ints w sa l) (sc : Nat) (hosts x y : Int) (hv : vOk 2 l hosts) (hin : inB (swI 2 l) [x, y] = true) :
    Calls Tryz.prog 115 #[.agg #[.int .i64 2, .slice sa l.length sc, .int .i64 hosts], .int .i64 x, .int .i64 y] w fun e w' => e = .returned (.tuple #[if y < hoI 2 l then .iface 142 (.agg #[.int .i64 (l.getD 0 0), .int .i64 (l.getD 1 0), .int .i64 (wordsI l)]) else .nilIface, .int .i64 (rteE 2 l hosts x y)]) ∧ Below w.heap.size w w' := by
  have hvb := v_bound hv
  obtain ⟨hbx, q0, q1, hz⟩ := twoN w (.cells #[.int .i64 2, .slice sa l.length sc, .int .i64 hosts] 24) (.cells #[.int .i64 x, .int .i64 y] 3)
  have HB := Lib.hid hbx
  have c0 := cellR 0 (heap_alloc_new w (.cells #[.int .i64 2, .slice sa l.length sc, .int .i64 hosts] 24)) rfl
  have c1 := cellR 1 (heap_alloc_new w (.cells #[.int .i64 2, .slice sa l.length sc, .int .i64 hosts] 24)) rfl
  have c2 := cellR 2 (heap_alloc_new w (.cells #[.int .i64 2, .slice sa l.length sc, .int .i64 hosts] 24)) rfl
  have hi := ints_pair (w.alloc (.cells #[.int .i64 2, .slice sa l.length sc, .int .i64 hosts] 24)) x y
  rw [show (w.alloc (.cells #[.int .i64 2, .slice sa l.length sc, .int .i64 hosts] 24)).heap.size = w.heap.size + 1 by simp] at hi
  have HC : Hid (Calls Tryz.prog 53 #[.agg #[.int .i64 2, .slice sa l.length sc, .int .i64 hosts], .slice (some ⟨w.heap.size + 1, 0, none⟩) 2 2] ((w.alloc (.cells #[.int .i64 2, .slice sa l.length sc, .int .i64 hosts] 24)).alloc (.cells #[.int .i64 x, .int .i64 y] 3)) fun e w' => e = .returned (.tuple #[.iface 142 (.agg #[.int .i64 (l.getD 0 0), .int .i64 (l.getD 1 0), .int .i64 (wordsI l)]), .int .i64 0]) ∧ Below w.heap.size ((w.alloc (.cells #[.int .i64 2, .slice sa l.length sc, .int .i64 hosts] 24)).alloc (.cells #[.int .i64 x, .int .i64 y] 3)) w') := by
    refine (networkWith2_any (h.keep hbx) hi sc 2 hosts hv).mono ?_
    rintro e w' ⟨rfl, hb⟩
    exact ⟨by rw [if_pos hin]; rfl, hb.mono (by rw [hz]; omega)⟩
  have HSZ : Hid (∀ W, Calls Tryz.prog 185 #[.agg #[.int .i64 (l.getD 0 0), .int .i64 (l.getD 1 0), .int .i64 (wordsI l)]] W fun e w' => e = .returned (.tuple #[.int .i64 (swI 2 l), .int .i64 (hoI 2 l)]) ∧ Below W.heap.size W w') := fun W => by
    rcases hv with ⟨h9, _⟩ | ⟨_, h9⟩ | ⟨h9, _⟩
    · cases h9
    · have hwb := words_bound h9
      have h8 := h9.2.2.1
      exact sizeR_any (l.getD 0 0) (l.getD 1 0) (wordsI l) (by omega) (by omega) (by omega) (by omega) W
    · cases h9
  have hm := m_size2 (l.getD 0 0) (l.getD 1 0) (wordsI l)
  by_cases hy : y < hoI 2 l
  case pos =>
    rw [if_pos hy]
    rw [show rteE 2 l hosts x y = 0 by unfold rteE; rw [if_pos hv, if_pos hin, if_pos (by omega)]]
    have hgd : decide (hoI 2 l ≤ y) = false := decide_eq_false (by omega)
    clear hv hin hy h hbx hi hz q0 q1 hvb
    generalize swI 2 l = SW at *
    generalize hoI 2 l = HO_ at *
    go_enter Tryz.func115, Tryz.ntmps115
    go_wp2_with fail
    refine HC.out.mono ?_
    rintro e w1 ⟨rfl, hb1⟩
    have HB1 := Lib.hid (HB.out.trans hb1)
    clear HC hb1 HB c0 c1 c2
    go_wp2_with fail
    refine (HSZ.out _).mono ?_
    rintro e w2 ⟨rfl, hb2⟩
    have HB2 := Lib.hid (HB1.out.trans (hb2.mono HB1.out.size))
    clear HB1 hb2 HSZ hm
    go_wp2_with fail
    go_ret2
    exact ⟨rfl, HB2.out⟩
  case neg =>
    rw [if_neg hy]
    rw [show rteE 2 l hosts x y = 2 by unfold rteE; rw [if_pos hv, if_pos hin, if_neg (by omega)]]
    have hgd : decide (hoI 2 l ≤ y) = true := decide_eq_true (by omega)
    clear hv hin hy h hbx hi hz q0 q1 hvb
    generalize swI 2 l = SW at *
    generalize hoI 2 l = HO_ at *
    go_enter Tryz.func115, Tryz.ntmps115
    go_wp2_with fail
    refine HC.out.mono ?_
    rintro e w1 ⟨rfl, hb1⟩
    have HB1 := Lib.hid (HB.out.trans hb1)
    clear HC hb1 HB c0 c1 c2
    go_wp2_with fail
    refine (HSZ.out _).mono ?_
    rintro e w2 ⟨rfl, hb2⟩
    have HB2 := Lib.hid (HB1.out.trans (hb2.mono HB1.out.size))
    clear HB1 hb2 HSZ hm
    go_wp2_with fail
    go_ret2
    exact ⟨rfl, HB2.out⟩
theorem routed3_any {w : World} {sa : Option Addr} {l : List Int} (h : Ints w sa l) (sc : Nat) (hosts x y : Int) (hv : vOk 3 l hosts) (hin : inB (swI 3 l) [x, y] = true) :
    Calls Tryz.prog 115 #[.agg #[.int .i64 3, .slice sa l.length sc, .int .i64 hosts], .int .i64 x, .int .i64 y] w fun e w' => e = .returned (.tuple #[if y < hoI 3 l then .iface 146 (.agg #[.int .i64 (l.getD 0 0), .int .i64 (l.getD 1 0), .int .i64 (l.getD 0 0 * l.getD 1 0 + 1)]) else .nilIface, .int .i64 (rteE 3 l hosts x y)]) ∧ Below w.heap.size w w' := by
  have hvb := v_bound hv
  obtain ⟨hbx, q0, q1, hz⟩ := twoN w (.cells #[.int .i64 3, .slice sa l.length sc, .int .i64 hosts] 24) (.cells #[.int .i64 x, .int .i64 y] 3)
  have HB := Lib.hid hbx
  have c0 := cellR 0 (heap_alloc_new w (.cells #[.int .i64 3, .slice sa l.length sc, .int .i64 hosts] 24)) rfl
  have c1 := cellR 1 (heap_alloc_new w (.cells #[.int .i64 3, .slice sa l.length sc, .int .i64 hosts] 24)) rfl
  have c2 := cellR 2 (heap_alloc_new w (.cells #[.int .i64 3, .slice sa l.length sc, .int .i64 hosts] 24)) rfl
  have hi := ints_pair (w.alloc (.cells #[.int .i64 3, .slice sa l.length sc, .int .i64 hosts] 24)) x y
  rw [show (w.alloc (.cells #[.int .i64 3, .slice sa l.length sc, .int .i64 hosts] 24)).heap.size = w.heap.size + 1 by simp] at hi
  have HC : Hid (Calls Tryz.prog 53 #[.agg #[.int .i64 3, .slice sa l.length sc, .int .i64 hosts], .slice (some ⟨w.heap.size + 1, 0, none⟩) 2 2] ((w.alloc (.cells #[.int .i64 3, .slice sa l.length sc, .int .i64 hosts] 24)).alloc (.cells #[.int .i64 x, .int .i64 y] 3)) fun e w' => e = .returned (.tuple #[.iface 146 (.agg #[.int .i64 (l.getD 0 0), .int .i64 (l.getD 1 0), .int .i64 (l.getD 0 0 * l.getD 1 0 + 1)]), .int .i64 0]) ∧ Below w.heap.size ((w.alloc (.cells #[.int .i64 3, .slice sa l.length sc, .int .i64 hosts] 24)).alloc (.cells #[.int .i64 x, .int .i64 y] 3)) w') := by
    refine (networkWith3_any (h.keep hbx) hi sc 2 hosts hv).mono ?_
    rintro e w' ⟨rfl, hb⟩
    exact ⟨by rw [if_pos hin]; rfl, hb.mono (by rw [hz]; omega)⟩
  have HSZ : Hid (∀ W, Calls Tryz.prog 199 #[.agg #[.int .i64 (l.getD 0 0), .int .i64 (l.getD 1 0), .int .i64 (l.getD 0 0 * l.getD 1 0 + 1)]] W fun e w' => e = .returned (.tuple #[.int .i64 (swI 3 l), .int .i64 (hoI 3 l)]) ∧ Below W.heap.size W w') := fun W => by
    rcases hv with ⟨h9, _⟩ | ⟨h9, _⟩ | ⟨_, h9⟩
    · cases h9
    · cases h9
    · obtain ⟨b1, b2, b3, b4⟩ := drag_bound h9.2.2.1.1 h9.2.2.1.2 h9.2.2.2.1.1 h9.2.2.2.1.2
      have h8 := h9.2.2.1
      exact sizeD_any (l.getD 0 0) (l.getD 1 0) (l.getD 0 0 * l.getD 1 0 + 1) (by omega) (by omega) (by omega) (by omega) W
  have hm := m_size3 (l.getD 0 0) (l.getD 1 0) (l.getD 0 0 * l.getD 1 0 + 1)
  by_cases hy : y < hoI 3 l
  case pos =>
    rw [if_pos hy]
    rw [show rteE 3 l hosts x y = 0 by unfold rteE; rw [if_pos hv, if_pos hin, if_pos (by omega)]]
    have hgd : decide (hoI 3 l ≤ y) = false := decide_eq_false (by omega)
    clear hv hin hy h hbx hi hz q0 q1 hvb
    generalize swI 3 l = SW at *
    generalize hoI 3 l = HO_ at *
    go_enter Tryz.func115, Tryz.ntmps115
    go_wp2_with fail
    refine HC.out.mono ?_
    rintro e w1 ⟨rfl, hb1⟩
    have HB1 := Lib.hid (HB.out.trans hb1)
    clear HC hb1 HB c0 c1 c2
    go_wp2_with fail
    refine (HSZ.out _).mono ?_
    rintro e w2 ⟨rfl, hb2⟩
    have HB2 := Lib.hid (HB1.out.trans (hb2.mono HB1.out.size))
    clear HB1 hb2 HSZ hm
    go_wp2_with fail
    go_ret2
    exact ⟨rfl, HB2.out⟩
  case neg =>
    rw [if_neg hy]
    rw [show rteE 3 l hosts x y = 2 by unfold rteE; rw [if_pos hv, if_pos hin, if_neg (by omega)]]
    have hgd : decide (hoI 3 l ≤ y) = true := decide_eq_true (by omega)
    clear hv hin hy h hbx hi hz q0 q1 hvb
    generalize swI 3 l = SW at *
    generalize hoI 3 l = HO_ at *
    go_enter Tryz.func115, Tryz.ntmps115
    go_wp2_with fail
    refine HC.out.mono ?_
    rintro e w1 ⟨rfl, hb1⟩
    have HB1 := Lib.hid (HB.out.trans hb1)
    clear HC hb1 HB c0 c1 c2
    go_wp2_with fail
    refine (HSZ.out _).mono ?_
    rintro e w2 ⟨rfl, hb2⟩
    have HB2 := Lib.hid (HB1.out.trans (hb2.mono HB1.out.size))
    clear HB1 hb2 HSZ hm
    go_wp2_with fail
    go_ret2
    exact ⟨rfl, HB2.out⟩
end Go.Proofs.YtbhkenphcahifaaGreat
