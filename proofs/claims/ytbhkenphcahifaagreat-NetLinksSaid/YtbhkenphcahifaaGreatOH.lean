import Derived.Test.YtbhkenphcahifaaGreatOG
namespace Go.Proofs.YtbhkenphcahifaaGreat
open Go.RowKit Go.Shelf
attribute [local go_sem] Oper.semAt_some
set_option maxRecDepth 100000
set_option maxHeartbeats 4000000

theorem ints_rowA (w : World) (L : List Int) (hl : L.length ≤ 1000) : Ints (w.alloc (.cells (rowA L) 3)) (some ⟨w.heap.size, 0, none⟩) L := RowAt.ints (heap_alloc_new w _) (by omega)
theorem x_size : szI 2 [2, 3] 2 = 12 ∧ hsI 2 [2, 3] 2 = 8 ∧ errI 2 [2, 3] 2 = 0 := by decide
theorem x_place : plaE 1 [3, 4] 1 7 = 0 ∧ placeL 1 [3, 4] 7 = [1, 3] := by decide
theorem x_r1 : rteE 1 [3, 4] 1 0 7 = 0 ∧ rteL 1 [3, 4] 1 0 7 = [0, 4, 7] ∧ rteC 1 [3, 4] 1 0 7 = [0, 1] := by decide
theorem x_r2 : rteE 2 [2, 3] 2 0 3 = 0 ∧ rteL 2 [2, 3] 2 0 3 = [0, 5, 11, 7, 3] ∧ rteC 2 [2, 3] 2 0 3 = [0, 0, 0, 0] := by decide
theorem x_r3 : rteE 3 [2, 1] 1 1 2 = 0 ∧ rteL 3 [2, 1] 1 1 2 = [1, 0, 3, 2] ∧ rteC 3 [2, 1] 1 1 2 = [0, 0, 1] := by decide
theorem x_route {w : World} {g : Nat} {k hosts x y : Int} {l P C : List Int} (h : Ints w (some ⟨g, 0, none⟩) l) (hE : rteE k l hosts x y = 0 ∧ rteL k l hosts x y = P ∧ rteC k l hosts x y = C) (hp : P.length ≤ 1000) (hc : C.length ≤ 1000) :
    Calls Tryz.prog 45 #[.agg #[.int .i64 k, .slice (some ⟨g, 0, none⟩) l.length 2, .int .i64 hosts], .int .i64 x, .int .i64 y, .slice (some ⟨w.heap.size, 0, none⟩) P.length P.length, .slice (some ⟨w.heap.size + 1, 0, none⟩) C.length C.length] ((w.alloc (.cells (rowA P) 3)).alloc (.cells (rowA C) 3)) fun e w' => e = .returned (.bool true) ∧ Below w.heap.size w w' := by
  have h1 := ints_rowA w P hp
  have h2 := ints_rowA (w.alloc (.cells (rowA P) 3)) C hc
  have hb1 : Below w.heap.size w (w.alloc (.cells (rowA P) 3)) := (Below.refl _ _).alloc (Nat.le_refl _) _
  have hb2 : Below (w.alloc (.cells (rowA P) 3)).heap.size (w.alloc (.cells (rowA P) 3)) ((w.alloc (.cells (rowA P) 3)).alloc (.cells (rowA C) 3)) := (Below.refl _ _).alloc (Nat.le_refl _) _
  have hz : (w.alloc (.cells (rowA P) 3)).heap.size = w.heap.size + 1 := by simp
  have hb := hb1.trans (hb2.mono (by rw [hz]; omega))
  rw [hz] at h2
  refine (routes_any (h.keep hb) (h1.keep hb2) h2 2 P.length C.length k hosts x y hE.1 hE.2.1 hE.2.2).mono ?_
  rintro e w' ⟨h5, h6⟩
  exact ⟨h5, hb.trans (h6.mono (by simp; omega))⟩
theorem works_any (w : World) : Calls Tryz.prog 9 #[] w fun e w' => e = .returned (.bool true) ∧ Below w.heap.size w w' := by
  go_enter Tryz.func9, Tryz.ntmps9
  go_wp2_with fail
  refine (tree_spec _).mono ?_
  rintro e w1 ⟨g, rfl, hi, hb⟩
  have HB := Lib.hid hb
  have H11 : Hid (Calls Tryz.prog 41 #[.agg #[.int .i64 2, .slice (some ⟨g, 0, none⟩) 2 2, .int .i64 2]] w1 fun e w' => e = .returned (.tuple #[.int .i64 12, .int .i64 8, .int .i64 0]) ∧ Below w1.heap.size w1 w') := by
    have := Size_any hi 2 2 2
    rw [x_size.1, x_size.2.1, x_size.2.2] at this
    exact this
  clear hi hb
  go_wp2_with fail
  refine H11.out.mono ?_
  rintro e w2 ⟨rfl, hb⟩
  replace HB := Lib.hid (HB.out.trans (hb.mono HB.out.size))
  clear H11 hb
  go_wp2_with fail
  refine (torus_spec _).mono ?_
  rintro e w3 ⟨g2, rfl, hi, hb⟩
  replace HB := Lib.hid (HB.out.trans (hb.mono HB.out.size))
  have H18 : Hid (Calls Tryz.prog 43 #[.agg #[.int .i64 1, .slice (some ⟨g2, 0, none⟩) 2 2, .int .i64 1], .int .i64 7] w3 fun e w' => (∃ a c, e = .returned (.tuple #[.slice a 2 c, .int .i64 0]) ∧ Ints w' a [1, 3]) ∧ Below w3.heap.size w3 w') := by
    refine (Place_any hi 2 1 1 7).mono ?_
    rintro e w' ⟨hb', hpl⟩
    obtain ⟨a, c, he, hii⟩ := place_is (by decide) hpl
    rw [if_pos x_place.1, x_place.2] at he hii
    rw [x_place.1] at he
    exact ⟨⟨a, c, he, hii⟩, hb'⟩
  clear hi hb
  go_wp2_with fail
  refine H18.out.mono ?_
  rintro e w4 ⟨⟨a, c, rfl, hp⟩, hb⟩
  replace HB := Lib.hid (HB.out.trans (hb.mono HB.out.size))
  have h9 := ints_rowA w4 [1, 3] (by decide)
  have hb9 : Below w4.heap.size w4 (w4.alloc (.cells (rowA [1, 3]) 3)) := (Below.refl _ _).alloc (Nat.le_refl _) _
  rw [rowA2] at h9 hb9
  have HQ : Hid (Calls Tryz.prog 15 #[.slice a 2 c, .slice (some ⟨w4.heap.size, 0, none⟩) 2 2] (w4.alloc (.cells #[.int .i64 1, .int .i64 3] 3)) fun e w' => e = .returned (.bool true) ∧ Below w4.heap.size w4 w') := by
    refine (equal_any (hp.keep hb9) h9 c 2).mono ?_
    rintro e w' ⟨h1, h2⟩
    rw [decide_eq_true rfl] at h1
    exact ⟨h1, hb9.trans (h2.mono (by simp))⟩
  clear H18 hb hp h9 hb9
  go_wp2_with fail
  refine HQ.out.mono ?_
  rintro e w6 ⟨rfl, hb⟩
  replace HB := Lib.hid (HB.out.trans (hb.mono HB.out.size))
  clear HQ hb
  go_wp2_with fail
  refine (torus_spec _).mono ?_
  rintro e w5 ⟨g, rfl, hi, hb⟩
  have HX : Hid (Calls Tryz.prog 45 #[.agg #[.int .i64 1, .slice (some ⟨g, 0, none⟩) 2 2, .int .i64 1], .int .i64 0, .int .i64 7, .slice (some ⟨w5.heap.size, 0, none⟩) 3 3, .slice (some ⟨w5.heap.size + 1, 0, none⟩) 2 2] ((w5.alloc (.cells #[.int .i64 0, .int .i64 4, .int .i64 7] 3)).alloc (.cells #[.int .i64 0, .int .i64 1] 3)) fun e w' => e = .returned (.bool true) ∧ Below w5.heap.size w5 w') := by
    have hx := x_route hi x_r1 (by decide) (by decide)
    rw [show rowA [0, 4, 7] = #[.int .i64 0, .int .i64 4, .int .i64 7] by unfold rowA; rfl, show rowA [0, 1] = #[.int .i64 0, .int .i64 1] by unfold rowA; rfl] at hx
    exact hx
  replace HB := Lib.hid (HB.out.trans (hb.mono HB.out.size))
  clear hi hb
  go_wp2_with fail
  refine HX.out.mono ?_
  rintro e w6 ⟨rfl, hb⟩
  replace HB := Lib.hid (HB.out.trans (hb.mono HB.out.size))
  clear HX hb
  obtain ⟨w7, rfl⟩ : ∃ w7, w7 = w6 := ⟨_, rfl⟩
  go_wp2_with fail
  refine (tree_spec _).mono ?_
  rintro e w5 ⟨g, rfl, hi, hb⟩
  have HX : Hid (Calls Tryz.prog 45 #[.agg #[.int .i64 2, .slice (some ⟨g, 0, none⟩) 2 2, .int .i64 2], .int .i64 0, .int .i64 3, .slice (some ⟨w5.heap.size, 0, none⟩) 5 5, .slice (some ⟨w5.heap.size + 1, 0, none⟩) 4 4] ((w5.alloc (.cells #[.int .i64 0, .int .i64 5, .int .i64 11, .int .i64 7, .int .i64 3] 3)).alloc (.cells #[.int .i64 0, .int .i64 0, .int .i64 0, .int .i64 0] 3)) fun e w' => e = .returned (.bool true) ∧ Below w5.heap.size w5 w') := by
    have hx := x_route hi x_r2 (by decide) (by decide)
    rw [show rowA [0, 5, 11, 7, 3] = #[.int .i64 0, .int .i64 5, .int .i64 11, .int .i64 7, .int .i64 3] by unfold rowA; rfl, show rowA [0, 0, 0, 0] = #[.int .i64 0, .int .i64 0, .int .i64 0, .int .i64 0] by unfold rowA; rfl] at hx
    exact hx
  replace HB := Lib.hid (HB.out.trans (hb.mono HB.out.size))
  clear hi hb
  go_wp2_with fail
  refine HX.out.mono ?_
  rintro e w6 ⟨rfl, hb⟩
  replace HB := Lib.hid (HB.out.trans (hb.mono HB.out.size))
  clear HX hb
  obtain ⟨w7, rfl⟩ : ∃ w7, w7 = w6 := ⟨_, rfl⟩
  go_wp2_with fail
  refine (dragon_spec _).mono ?_
  rintro e w5 ⟨g, rfl, hi, hb⟩
  have HX : Hid (Calls Tryz.prog 45 #[.agg #[.int .i64 3, .slice (some ⟨g, 0, none⟩) 2 2, .int .i64 1], .int .i64 1, .int .i64 2, .slice (some ⟨w5.heap.size, 0, none⟩) 4 4, .slice (some ⟨w5.heap.size + 1, 0, none⟩) 3 3] ((w5.alloc (.cells #[.int .i64 1, .int .i64 0, .int .i64 3, .int .i64 2] 3)).alloc (.cells #[.int .i64 0, .int .i64 0, .int .i64 1] 3)) fun e w' => e = .returned (.bool true) ∧ Below w5.heap.size w5 w') := by
    have hx := x_route hi x_r3 (by decide) (by decide)
    rw [show rowA [1, 0, 3, 2] = #[.int .i64 1, .int .i64 0, .int .i64 3, .int .i64 2] by unfold rowA; rfl, show rowA [0, 0, 1] = #[.int .i64 0, .int .i64 0, .int .i64 1] by unfold rowA; rfl] at hx
    exact hx
  replace HB := Lib.hid (HB.out.trans (hb.mono HB.out.size))
  clear hi hb
  go_wp2_with fail
  refine HX.out.mono ?_
  rintro e w6 ⟨rfl, hb⟩
  replace HB := Lib.hid (HB.out.trans (hb.mono HB.out.size))
  clear HX hb
  obtain ⟨w7, rfl⟩ : ∃ w7, w7 = w6 := ⟨_, rfl⟩
  go_wp2_with fail
  go_ret
  exact ⟨rfl, HB.out⟩
end Go.Proofs.YtbhkenphcahifaaGreat
