import Derived.Test.YtoloiingodigpaaT1
import Derived.Test.YtoloiingodigpaaN
import Derived.Test.YtoloiingodigpaaO
import Derived.Test.YtoloiingodigpaaS
namespace Go.Proofs.Ytoloiingodigpaa
open Go.RowKit Go.Shelf Go.Lib
attribute [local go_sem] Oper.semAt_some
set_option maxRecDepth 100000
set_option maxHeartbeats 2000000

theorem lit_ints (W : World) (n : Nat) (hz : W.heap.size = n) (l : List Int) (c : Array Value) (hc : c = rowA l) (hl : l.length ≤ 100) :
    Ints (W.alloc (.cells c 3)) (some ⟨n, 0, none⟩) l ∧ Below W.heap.size W (W.alloc (.cells c 3)) ∧ (W.alloc (.cells c 3)).heap.size = n + 1 := by
  subst hc hz
  have hR : RowAt (W.alloc (.cells (rowA l) 3)) W.heap.size l := heap_alloc_new W _
  exact ⟨hR.ints (by omega), (Below.refl _ _).alloc (Nat.le_refl _) _, by simp⟩

theorem lit_trips (W : World) : Trips (W.alloc (.cells #[.int .i64 1, .int .i64 6, .int .i64 2, .int .i64 7, .int .i64 6, .int .i64 (-1)] 81)) (some ⟨W.heap.size, 0, none⟩) [(1, 6, 2), (7, 6, -1)] ∧ Below W.heap.size W (W.alloc (.cells #[.int .i64 1, .int .i64 6, .int .i64 2, .int .i64 7, .int .i64 6, .int .i64 (-1)] 81)) := by
  refine ⟨⟨by decide, fun _ => ⟨W.heap.size, 0, rfl, fun j hj => ?_⟩, ?_⟩, (Below.refl _ _).alloc (Nat.le_refl _) _⟩
  · match j, hj with
    | 0, _ => exact ⟨by simp, by simp, by simp⟩
    | 1, _ => exact ⟨by simp, by simp, by simp⟩
  · intro x hx
    simp at hx
    rcases hx with rfl | rfl <;> (unfold I64; decide)

/-- a result is this list, and no error -/
theorem is_lit {W : World} {a : Option Addr} {l : List Int} (cap : Nat) (h : Ints W a l) (c : Array Value) (hc : c = rowA l) (hl : l.length ≤ 100) (n : Nat) (hn : l.length = n) :
    Calls Try.prog 17 #[.slice a n cap, .int .i64 0, .slice (some ⟨W.heap.size, 0, none⟩) n n, .int .i64 0] (W.alloc (.cells c 3)) fun e w' => e = .returned (.bool true) ∧ Below W.heap.size W w' := by
  subst hn
  obtain ⟨i1, b1, _⟩ := lit_ints W _ rfl l c hc hl
  refine (is_any (h.keep b1) i1 cap l.length 0 0).mono ?_
  rintro e w' ⟨rfl, hb⟩
  exact ⟨by simp, b1.trans (hb.mono b1.size)⟩

theorem works_true (w : World) : Calls Try.prog 14 #[] w fun e w' => e = .returned (.bool true) ∧ Below w.heap.size w w' := by
  go_enter Try.func14, Try.ntmps14
  go_wp2_with fail
  obtain ⟨i1, b1, z1⟩ := lit_ints w _ rfl [3, 1, 2] #[.int .i64 3, .int .i64 1, .int .i64 2] (by unfold rowA; rfl) (by decide)
  generalize w.alloc (.cells #[.int .i64 3, .int .i64 1, .int .i64 2] 3) = W1 at *
  obtain ⟨i2, b2, z2⟩ := lit_ints W1 _ z1 [2, 5, 3] #[.int .i64 2, .int .i64 5, .int .i64 3] (by unfold rowA; rfl) (by decide)
  generalize W1.alloc (.cells #[.int .i64 2, .int .i64 5, .int .i64 3] 3) = W2 at *
  have HA := Lib.hid (i1.keep b2)
  have HB := Lib.hid i2
  have HQ : Hid (Below w.heap.size w W2) := b1.trans (b2.mono b1.size)
  clear i1 i2 b1 b2 z1 z2
  refine (union_any HA.out HB.out 3 3 (fun e => by cases e) (fun e => by cases e)).mono ?_
  rintro e W3 ⟨vx, rfl, n1, b1⟩
  replace HQ := Lib.hid (HQ.out.trans (b1.mono HQ.out.size))
  replace HA := Lib.hid (HA.out.keep b1)
  replace HB := Lib.hid (HB.out.keep b1)
  rw [show pairErr [3, 1, 2] [2, 5, 3] = 0 by decide]
  rw [show unionL [3, 1, 2] [2, 5, 3] = [3, 1, 2, 5] by decide] at n1
  obtain ⟨ax, cx, rfl, j1⟩ := n1.ints
  have Hx := Lib.hid j1
  clear n1 j1 b1
  go_wp2_with fail
  refine (inter_any HA.out HB.out 3 3).mono ?_
  rintro e W4 ⟨vy, rfl, n1, b1⟩
  replace HQ := Lib.hid (HQ.out.trans (b1.mono HQ.out.size))
  replace HA := Lib.hid (HA.out.keep b1)
  replace HB := Lib.hid (HB.out.keep b1)
  replace Hx := Lib.hid (Hx.out.keep b1)
  rw [show pairErr [3, 1, 2] [2, 5, 3] = 0 by decide]
  rw [show interL [3, 1, 2] [2, 5, 3] = [3, 2] by decide] at n1
  obtain ⟨ay, cy, rfl, j1⟩ := n1.ints
  have Hy := Lib.hid j1
  clear n1 j1 b1
  go_wp2_with fail
  refine (diff_any HA.out HB.out 3 3).mono ?_
  rintro e W5 ⟨vz, rfl, n1, b1⟩
  replace HQ := Lib.hid (HQ.out.trans (b1.mono HQ.out.size))
  replace HA := Lib.hid (HA.out.keep b1)
  replace HB := Lib.hid (HB.out.keep b1)
  replace Hx := Lib.hid (Hx.out.keep b1)
  replace Hy := Lib.hid (Hy.out.keep b1)
  rw [show pairErr [3, 1, 2] [2, 5, 3] = 0 by decide]
  rw [show diffL [3, 1, 2] [2, 5, 3] = [1] by decide] at n1
  obtain ⟨az, cz, rfl, j1⟩ := n1.ints
  have Hz := Lib.hid j1
  clear n1 j1 b1
  go_wp2_with fail
  clear HA HB
  refine (is_lit cx Hx.out #[.int .i64 3, .int .i64 1, .int .i64 2, .int .i64 5] (by unfold rowA; rfl) (by decide) _ rfl).mono ?_
  rintro e W6 ⟨rfl, b1⟩
  replace HQ := Lib.hid (HQ.out.trans (b1.mono HQ.out.size))
  replace Hy := Lib.hid (Hy.out.keep b1)
  replace Hz := Lib.hid (Hz.out.keep b1)
  clear b1 Hx
  go_wp2_with fail
  refine (is_lit cy Hy.out #[.int .i64 3, .int .i64 2] (by unfold rowA; rfl) (by decide) _ rfl).mono ?_
  rintro e W7 ⟨rfl, b1⟩
  replace HQ := Lib.hid (HQ.out.trans (b1.mono HQ.out.size))
  replace Hz := Lib.hid (Hz.out.keep b1)
  clear b1 Hy
  go_wp2_with fail
  refine (is_lit cz Hz.out #[.int .i64 1] (by unfold rowA; rfl) (by decide) _ rfl).mono ?_
  rintro e W8 ⟨rfl, b1⟩
  replace HQ := Lib.hid (HQ.out.trans (b1.mono HQ.out.size))
  clear b1 Hz
  go_wp2_with fail
  obtain ⟨t1, b1⟩ := lit_trips W8
  generalize W8.alloc (.cells #[.int .i64 1, .int .i64 6, .int .i64 2, .int .i64 7, .int .i64 6, .int .i64 (-1)] 81) = V8 at *
  have HT := Lib.hid t1
  replace HQ := Lib.hid (HQ.out.trans (b1.mono HQ.out.size))
  clear t1 b1
  refine (Ranges_any HT.out 2 8).mono ?_
  rintro e W9 ⟨vl, rfl, n1, b1⟩
  replace HQ := Lib.hid (HQ.out.trans (b1.mono HQ.out.size))
  rw [show (rangesL 8 [(1, 6, 2), (7, 6, -1)]).2 = 0 by kernel_rfl]
  rw [show (rangesL 8 [(1, 6, 2), (7, 6, -1)]).1 = [1, 3, 5, 7, 6] by kernel_rfl] at n1
  obtain ⟨al, cl, rfl, j1⟩ := n1.ints
  have Hl := Lib.hid j1
  clear n1 j1 b1
  go_wp2_with fail
  refine (Factor_any 12 3 _).mono ?_
  rintro e W10 ⟨vm, rfl, n1, b1⟩
  replace HQ := Lib.hid (HQ.out.trans (b1.mono HQ.out.size))
  replace Hl := Lib.hid (Hl.out.keep b1)
  rw [show factorE 12 3 = 0 by kernel_rfl]
  rw [show factorR 12 3 = [3, 2, 2] by kernel_rfl] at n1
  obtain ⟨am, cm, rfl, j1⟩ := n1.ints
  have Hm := Lib.hid j1
  clear n1 j1 b1
  go_wp2_with fail
  clear HT
  refine (is_lit cl Hl.out #[.int .i64 1, .int .i64 3, .int .i64 5, .int .i64 7, .int .i64 6] (by unfold rowA; rfl) (by decide) _ rfl).mono ?_
  rintro e W11 ⟨rfl, b1⟩
  replace HQ := Lib.hid (HQ.out.trans (b1.mono HQ.out.size))
  replace Hm := Lib.hid (Hm.out.keep b1)
  clear b1 Hl
  go_wp2_with fail
  refine (is_lit cm Hm.out #[.int .i64 3, .int .i64 2, .int .i64 2] (by unfold rowA; rfl) (by decide) _ rfl).mono ?_
  rintro e W12 ⟨rfl, b1⟩
  replace HQ := Lib.hid (HQ.out.trans (b1.mono HQ.out.size))
  clear b1 Hm
  go_wp2_with fail
  refine (New_ok 4 (by decide) (by decide) _).mono ?_
  rintro e W13 ⟨sp, mp, rfl, hS, b1, hmp⟩
  have HMP : Hid (w.heap.size ≤ mp) := Nat.le_trans HQ.out.size hmp
  replace HQ := Lib.hid (HQ.out.trans (b1.mono HQ.out.size))
  have HS := Lib.hid hS
  clear hS b1 hmp
  go_wp2_with fail
  refine (Dup_ok HS.out (by decide) (by decide) 0 (iotaL 4) rfl (by decide)).mono ?_
  rintro e W14 ⟨rfl, hS, hk, hu⟩
  replace HQ := Lib.hid (HQ.out.trans (hu _ HMP.out HQ.out.size))
  replace HS := Lib.hid hS
  rw [show (([iotaL 4].length : Nat) : Int) = 1 from rfl]
  clear hS hk hu
  go_wp2_with fail
  obtain ⟨i1, b1, z1⟩ := lit_ints W14 _ rfl [1, 0, 1, -2] #[.int .i64 1, .int .i64 0, .int .i64 1, .int .i64 (-2)] (by unfold rowA; rfl) (by decide)
  generalize W14.alloc (.cells #[.int .i64 1, .int .i64 0, .int .i64 1, .int .i64 (-2)] 3) = U1 at *
  obtain ⟨i2, b2, z2⟩ := lit_ints U1 _ z1 [5, 0, 2, 0] #[.int .i64 5, .int .i64 0, .int .i64 2, .int .i64 0] (by unfold rowA; rfl) (by decide)
  generalize U1.alloc (.cells #[.int .i64 5, .int .i64 0, .int .i64 2, .int .i64 0] 3) = U2 at *
  have HC := Lib.hid (i1.keep b2)
  have HK := Lib.hid i2
  replace HS := Lib.hid ((HS.out.keep b1).keep b2)
  replace HQ := Lib.hid ((HQ.out.trans (b1.mono HQ.out.size)).trans (b2.mono (Nat.le_trans HQ.out.size b1.size)))
  clear i1 i2 b1 b2 z1 z2
  refine (Split_ok HS.out 0 (iotaL 4) rfl (by decide) HC.out HK.out 4 4 (by decide) (by decide) (by decide) (by decide) (by decide) (by rw [colorsOf_w]; decide)).mono ?_
  rintro e W15 ⟨go, rfl, hgo, hR, hS, hk, hu⟩
  replace HQ := Lib.hid (HQ.out.trans (hu _ HMP.out HQ.out.size))
  rw [splitF_w] at hR hS
  have Hp : Hid (Ints W15 (some ⟨go, 0, none⟩) [3, 2, 3, -2]) := RowAt.ints (l := [3, 2, 3, -2]) hR (by decide)
  replace HS : Hid (SpaceAt NoB W15 sp mp [[0, 1, 2, 3], [0, 1, 2, 3], [1], [2, 0]]) := hS
  rw [show (iotaL 4).length = 4 from rfl]
  clear hgo hR hS hk HC HK hu
  go_wp2_with fail
  refine (Group_ok HS.out 3 [2, 0] rfl).mono ?_
  rintro e W16 ⟨vq, rfl, n1, b1⟩
  replace HQ := Lib.hid (HQ.out.trans (b1.mono HQ.out.size))
  replace Hp := Lib.hid (Hp.out.keep b1)
  replace HS := Lib.hid (HS.out.keep b1)
  obtain ⟨aq, cq, rfl, j1⟩ := n1.ints
  have Hq := Lib.hid j1
  clear n1 j1 b1
  go_wp2_with fail
  refine (is_lit 4 Hp.out #[.int .i64 3, .int .i64 2, .int .i64 3, .int .i64 (-2)] (by unfold rowA; rfl) (by decide) _ rfl).mono ?_
  rintro e W17 ⟨rfl, b1⟩
  replace HQ := Lib.hid (HQ.out.trans (b1.mono HQ.out.size))
  replace HS := Lib.hid (HS.out.keep b1)
  replace Hq := Lib.hid (Hq.out.keep b1)
  clear b1 Hp
  go_wp2_with fail
  refine (is_lit cq Hq.out #[.int .i64 2, .int .i64 0] (by unfold rowA; rfl) (by decide) _ rfl).mono ?_
  rintro e W18 ⟨rfl, b1⟩
  replace HQ := Lib.hid (HQ.out.trans (b1.mono HQ.out.size))
  replace HS := Lib.hid (HS.out.keep b1)
  clear b1 Hq
  go_wp2_with fail
  refine (Free_zero HS.out [0, 1, 2, 3] rfl).mono ?_
  rintro e W' ⟨rfl, rfl⟩
  clear HS
  go_wp2_with fail
  obtain ⟨iz, b1, z1⟩ := lit_ints W18 _ rfl [3, 4] #[.int .i64 3, .int .i64 4] (by unfold rowA; rfl) (by decide)
  generalize W18.alloc (.cells #[.int .i64 3, .int .i64 4] 3) = U3 at *
  have ib : Bools (U3.alloc (.cells #[.bool false, .bool true] 4)) (some ⟨W18.heap.size + 1, 0, none⟩) [false, true] := by
    refine ⟨by decide, fun _ => ⟨W18.heap.size + 1, 0, rfl, fun j hj => ?_⟩⟩
    rw [← z1]
    match j, hj with
    | 0, _ => simp
    | 1, _ => simp
  have b2 : Below U3.heap.size U3 (U3.alloc (.cells #[.bool false, .bool true] 4)) := (Below.refl _ _).alloc (Nat.le_refl _) _
  have z2 : (U3.alloc (.cells #[.bool false, .bool true] 4)).heap.size = W18.heap.size + 1 + 1 := by simp [z1]
  generalize U3.alloc (.cells #[.bool false, .bool true] 4) = U4 at *
  have b3 : Below U4.heap.size U4 (U4.alloc (.cells #[.slice (some ⟨W18.heap.size, 0, none⟩) 2 2, .slice (some ⟨W18.heap.size + 1, 0, none⟩) 2 2] 42)) := (Below.refl _ _).alloc (Nat.le_refl _) _
  have k0 : (U4.alloc (.cells #[.slice (some ⟨W18.heap.size, 0, none⟩) 2 2, .slice (some ⟨W18.heap.size + 1, 0, none⟩) 2 2] 42)).cell? ⟨W18.heap.size + 1 + 1, 0, none⟩ = some (.slice (some ⟨W18.heap.size, 0, none⟩) 2 2) := by rw [← z2]; simp
  have k1 : (U4.alloc (.cells #[.slice (some ⟨W18.heap.size, 0, none⟩) 2 2, .slice (some ⟨W18.heap.size + 1, 0, none⟩) 2 2] 42)).cell? ⟨W18.heap.size + 1 + 1, 1, none⟩ = some (.slice (some ⟨W18.heap.size + 1, 0, none⟩) 2 2) := by rw [← z2]; simp
  generalize U4.alloc (.cells #[.slice (some ⟨W18.heap.size, 0, none⟩) 2 2, .slice (some ⟨W18.heap.size + 1, 0, none⟩) 2 2] 42) = U5 at *
  have HZ := Lib.hid ((iz.keep b2).keep b3)
  replace HQ := Lib.hid (((HQ.out.trans (b1.mono HQ.out.size)).trans (b2.mono (Nat.le_trans HQ.out.size b1.size))).trans (b3.mono (Nat.le_trans (Nat.le_trans HQ.out.size b1.size) b2.size)))
  have HW := Lib.hid (ib.keep b3)
  clear iz ib b1 b2 b3 z1 z2
  refine (Shift_any HZ.out HW.out 2 2 5 1 3).mono ?_
  rintro e U6 ⟨rfl, b1⟩
  replace HQ := Lib.hid (HQ.out.trans (b1.mono HQ.out.size))
  replace HZ := Lib.hid (HZ.out.keep b1)
  replace HW := Lib.hid (HW.out.keep b1)
  have k0' := (b1.cell (block_lt_of_cell k0)).trans k0
  have k1' := (b1.cell (block_lt_of_cell k1)).trans k1
  rw [show shiftE [3, 4] [false, true].length 5 1 = 0 by kernel_rfl, show shiftP [3, 4] [false, true] 5 (1 : Int).toNat 3 = 6 by kernel_rfl, show shiftQ [3, 4] [false, true] 5 (1 : Int).toNat 3 = 4 by kernel_rfl, if_pos rfl, if_pos rfl]
  clear b1 k0 k1
  go_wp2_with fail
  refine (Neighbors_any HZ.out HW.out 2 2 4).mono ?_
  rintro e U7 ⟨v9, rfl, n1, b1⟩
  replace HQ := Lib.hid (HQ.out.trans (b1.mono HQ.out.size))
  rw [show gridErr [3, 4] [false, true].length 4 = 0 by kernel_rfl]
  have n1' : NewInts U6.heap.size U7 v9 [0, 8, 7, 5] := by
    have e1 : (if gridErr [3, 4] [false, true].length 4 = 0 then neighF [3, 4] [false, true] 4 [3, 4].length else []) = [0, 8, 7, 5] := by kernel_rfl
    rw [← e1]; exact n1
  obtain ⟨a9, c9, rfl, j1⟩ := n1'.ints
  have H9 := Lib.hid j1
  clear n1 n1' j1 b1 HZ HW k0' k1'
  go_wp2_with fail
  refine (is_lit c9 H9.out #[.int .i64 0, .int .i64 8, .int .i64 7, .int .i64 5] (by unfold rowA; rfl) (by decide) _ rfl).mono ?_
  rintro e U8 ⟨rfl, b1⟩
  replace HQ := Lib.hid (HQ.out.trans (b1.mono HQ.out.size))
  clear b1
  go_wp2_with fail
  go_ret
  exact ⟨rfl, HQ.out⟩
end Go.Proofs.Ytoloiingodigpaa
