import Derived.Test.YtoloiingodigpaaGB
import Derived.Test.YtoloiingodigpaaN
namespace Go.Proofs.Ytoloiingodigpaa
open Go.RowKit Go.Shelf
attribute [local go_sem] Oper.semAt_some litE
set_option maxRecDepth 100000
set_option maxHeartbeats 1000000

def refL (a b r : List Int) : List Int := if pairErr a b = 0 then r else []

theorem Inter_ref {w : World} {a b : Option Addr} {l m : List Int} (h : Ints w a l) (hm : Ints w b m) (cap cap' : Nat) (hcap : l.length ≤ cap) (hcap' : m.length ≤ cap') :
    Calls Try.prog 21 #[.slice a l.length cap, .slice b m.length cap'] w fun e w' => ∃ v, e = .returned (.tuple #[v, .int .i64 (pairErr l m)]) ∧ NewInts w.heap.size w' v (refL l m (chosenL l m true)) ∧ Below w.heap.size w w' := by
  have hd := both_ref h hm cap cap' hcap hcap'
  have HA := Lib.hid h
  have HB := Lib.hid hm
  clear h hm
  by_cases hl : pairErr l m = 0
  · have HN : Hid (refL l m (chosenL l m true) = chosenL l m true) := by show _ = _; unfold refL; rw [if_pos hl]
    rw [HN.out]
    rw [hl] at hd ⊢
    go_enter Try.func21, Try.ntmps21
    go_wp2_with fail
    refine hd.mono ?_
    rintro e w1 ⟨rfl, hb⟩
    have hc := chosen_ref (HA.out.keep hb) (HB.out.keep hb) cap cap' true
    go_wp2_with fail
    refine hc.mono ?_
    rintro e w2 ⟨v, rfl, hv, hb2⟩
    have HV := Lib.hid (hv.mono hb.size)
    clear hv hc hd
    go_wp2_with fail
    go_ret2
    exact ⟨_, rfl, HV.out, hb.trans (hb2.mono hb.size)⟩
  · have HN : Hid (refL l m (chosenL l m true) = []) := by show _ = _; unfold refL; rw [if_neg hl]
    rw [HN.out]
    have hne2 : (pairErr l m != 0) = true := by rw [bne_iff_ne]; exact hl
    have hne : (pairErr l m == 0) = false := beq_eq_false_iff_ne.2 hl
    generalize pairErr l m = x at *
    go_enter Try.func21, Try.ntmps21
    go_wp2_with (refine hd.mono ?_; rintro e w1 ⟨rfl, hb⟩)
    go_ret2
    exact ⟨_, rfl, NewInts.nil _ _, hb⟩

theorem Diff_ref {w : World} {a b : Option Addr} {l m : List Int} (h : Ints w a l) (hm : Ints w b m) (cap cap' : Nat) (hcap : l.length ≤ cap) (hcap' : m.length ≤ cap') :
    Calls Try.prog 23 #[.slice a l.length cap, .slice b m.length cap'] w fun e w' => ∃ v, e = .returned (.tuple #[v, .int .i64 (pairErr l m)]) ∧ NewInts w.heap.size w' v (refL l m (chosenL l m false)) ∧ Below w.heap.size w w' := by
  have hd := both_ref h hm cap cap' hcap hcap'
  have HA := Lib.hid h
  have HB := Lib.hid hm
  clear h hm
  by_cases hl : pairErr l m = 0
  · have HN : Hid (refL l m (chosenL l m false) = chosenL l m false) := by show _ = _; unfold refL; rw [if_pos hl]
    rw [HN.out]
    rw [hl] at hd ⊢
    go_enter Try.func23, Try.ntmps23
    go_wp2_with fail
    refine hd.mono ?_
    rintro e w1 ⟨rfl, hb⟩
    have hc := chosen_ref (HA.out.keep hb) (HB.out.keep hb) cap cap' false
    go_wp2_with fail
    refine hc.mono ?_
    rintro e w2 ⟨v, rfl, hv, hb2⟩
    have HV := Lib.hid (hv.mono hb.size)
    clear hv hc hd
    go_wp2_with fail
    go_ret2
    exact ⟨_, rfl, HV.out, hb.trans (hb2.mono hb.size)⟩
  · have HN : Hid (refL l m (chosenL l m false) = []) := by show _ = _; unfold refL; rw [if_neg hl]
    rw [HN.out]
    have hne2 : (pairErr l m != 0) = true := by rw [bne_iff_ne]; exact hl
    have hne : (pairErr l m == 0) = false := beq_eq_false_iff_ne.2 hl
    generalize pairErr l m = x at *
    go_enter Try.func23, Try.ntmps23
    go_wp2_with (refine hd.mono ?_; rintro e w1 ⟨rfl, hb⟩)
    go_ret2
    exact ⟨_, rfl, NewInts.nil _ _, hb⟩

theorem Union_ref {w : World} {a b : Option Addr} {l m : List Int} (h : Ints w a l) (hm : Ints w b m) (cap cap' : Nat) (hcap : l.length ≤ cap) (hcap' : m.length ≤ cap') (hnil : a = none → cap = 0) :
    Calls Try.prog 16 #[.slice a l.length cap, .slice b m.length cap'] w fun e w' => ∃ v, e = .returned (.tuple #[v, .int .i64 (pairErr l m)]) ∧ NewInts w.heap.size w' v (refL l m (l ++ chosenL m l false)) ∧ Below w.heap.size w w' := by
  have hd := both_ref h hm cap cap' hcap hcap'
  have HA := Lib.hid h
  have HB := Lib.hid hm
  clear h hm
  by_cases hl : pairErr l m = 0
  · have HN : Hid (refL l m (l ++ chosenL m l false) = l ++ chosenL m l false) := by show _ = _; unfold refL; rw [if_pos hl]
    rw [HN.out]
    have hl64 := chkErr_len (pairErr_zero hl).1
    have hm64 := chkErr_len (pairErr_zero hl).2
    have hcl := chosenL_len m l false
    rw [hl] at hd ⊢
    go_enter Try.func16, Try.ntmps16
    go_wp2_with fail
    refine hd.mono ?_
    rintro e w1 ⟨rfl, hb⟩
    have hz1 := hb.size
    have hb0 : Below w1.heap.size w1 (w1.alloc (.cells #[] 3)) := (Below.refl _ _).alloc (Nat.le_refl _) _
    have hown : (w1.alloc (.cells #[] 3)).ownsRow w.heap.size 3 1 (.slice (some ⟨w1.heap.size, 0, none⟩) 0 0) 0 [] :=
      ⟨rfl, .inr ⟨w1.heap.size, 0, #[], rfl, hz1, heap_alloc_new w1 _, Nat.le_refl _, Nat.zero_le _, rfl, rfl⟩⟩
    have hz0 : w.heap.size ≤ (w1.alloc (.cells #[] 3)).heap.size := by simp; omega
    obtain ⟨v2, w2, hr2, ho2, hg2⟩ := append_ints hown ((HA.out.keep hb).keep hb0) cap hnil (by omega) hz0
    have hb2 : Below w.heap.size w w2 := grow_below (hb.trans (hb0.mono hz1)) hown hg2 hz0
    have HR2 := Lib.hid hr2
    have HO2 := Lib.hid ho2
    clear hr2 ho2 hg2 hown hd
    go_wp2_with (at_builtin; refine Lib.wpList_append_run _ rfl (.tmp 13) (.tmp 14) 22 22 rfl _ _ rfl rfl _ _ HR2.out ?_)
    have hc := chosen_ref (HB.out.keep hb2) (HA.out.keep hb2) cap' cap false
    refine hc.mono ?_
    rintro e w3 ⟨v3, rfl, hv3, hb3⟩
    obtain ⟨a3, cap3, rfl, hi3⟩ := hv3.ints
    have hz2 := hb2.size
    have hz3 := hb3.size
    have hown3 := own_keep HO2.out hb3
    obtain ⟨v4, w4, hr4, ho4, hg4⟩ := append_ints hown3 hi3 cap3 hv3.cap_of (by omega) (by omega)
    have hb4 : Below w.heap.size w w4 := grow_below (hb2.trans (hb3.mono hz2)) hown3 hg4 (by omega)
    have HR4 := Lib.hid hr4
    have HO4 : Hid (NewInts w.heap.size w4 v4 (l ++ chosenL m l false)) := ⟨by have := ho4; simpa [Nat.add_comm, Nat.add_left_comm, Nat.add_assoc] using this, by simp; omega⟩
    clear hr4 ho4 hg4 hown3 hi3 hv3 hc
    go_wp2_with (at_builtin; refine Lib.wpList_append_run _ rfl (.tmp 15) (.tmp 18) 22 22 rfl _ _ rfl rfl _ _ HR4.out ?_)
    go_ret2
    exact ⟨_, rfl, HO4.out, hb4⟩
  · have HN : Hid (refL l m (l ++ chosenL m l false) = []) := by show _ = _; unfold refL; rw [if_neg hl]
    rw [HN.out]
    have hne2 : (pairErr l m != 0) = true := by rw [bne_iff_ne]; exact hl
    have hne : (pairErr l m == 0) = false := beq_eq_false_iff_ne.2 hl
    generalize pairErr l m = x at *
    go_enter Try.func16, Try.ntmps16
    go_wp2_with (refine hd.mono ?_; rintro e w1 ⟨rfl, hb⟩)
    go_ret2
    exact ⟨_, rfl, NewInts.nil _ _, hb⟩
end Go.Proofs.Ytoloiingodigpaa
