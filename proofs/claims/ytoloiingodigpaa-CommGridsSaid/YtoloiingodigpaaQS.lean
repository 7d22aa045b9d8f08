import Derived.Test.YtoloiingodigpaaQP
import Derived.Test.YtoloiingodigpaaQE
import Derived.Test.YtoloiingodigpaaQF
import Derived.Test.YtoloiingodigpaaQK
import Derived.Test.YtoloiingodigpaaQL
import Derived.Test.YtoloiingodigpaaAF
namespace Go.Proofs.Ytoloiingodigpaa
open Go.RowKit Go.Shelf
attribute [local go_sem] Oper.semAt_some litE
set_option maxRecDepth 100000
set_option maxHeartbeats 4000000

theorem kcell2 {B : Nat} {w w' : World} {p : Addr} {v : Value} (h : Below B w w') (hp : p.block < B) (hc : w.cell? p = some v) : w'.cell? p = some v := (h.cell (p := p) hp).trans hc

theorem CommGrids_walk {w : World} {xs xw xa xk : Option Addr} {sizes l2 : List Int} {wrap keep : List Bool}
    (h0 : Ints w xs sizes) (c0 : Nat) (_ : sizes.length ≤ c0) (_ : xs = none → c0 = 0) (_ : ∀ n ∈ sizes, (Lit.int .i64 n).wf = true)
    (h1 : BoolsR w xw wrap) (c1 : Nat) (_ : wrap.length ≤ c1) (_ : xw = none → c1 = 0) (_ : True)
    (h2 : Ints w xa l2) (c2 : Nat) (_ : l2.length ≤ c2) (_ : xa = none → c2 = 0) (hwf : ∀ n ∈ l2, (Lit.int .i64 n).wf = true)
    (r : Int) (_ : (Lit.int .i64 r).wf = true) (dim : Int) (_ : (Lit.int .i64 dim).wf = true) (by' : Int) (hwb : (Lit.int .i64 by').wf = true)
    (h6 : BoolsR w xk keep) (c6 : Nat) (_ : keep.length ≤ c6) (_ : xk = none → c6 = 0) (_ : True) :
    Calls Try.prog 7 #[.slice xs sizes.length c0, .slice xw wrap.length c1, .slice xa l2.length c2, .int .i64 r, .int .i64 dim, .int .i64 by', .slice xk keep.length c6] w fun e w' => e = .returned (.bool true) ∧ Below w.heap.size w w' := by
  have hbn : ∀ n : Int, (Lit.int .i64 n).wf = true → -9223372036854775808 ≤ n ∧ n ≤ 9223372036854775807 := fun n h => by
    simp only [Lit.wf, Bool.and_eq_true, decide_eq_true_eq] at h; exact h
  by_cases g0 : 20 < sizes.length
  · have e0 : (20 : Int) < (sizes.length : Int) := by omega
    clear h0 h1 h2 h6
    go_enter Try.func7, Try.ntmps7
    go_wp2_with fail
    refine (works_true w).mono ?_
    rintro e w9 ⟨rfl, b9⟩
    go_wp2_with fail
    go_ret
    exact ⟨rfl, b9⟩
  have e0 : ¬ (20 : Int) < (sizes.length : Int) := by omega
  by_cases g1 : 20 < wrap.length
  · have e1 : (20 : Int) < (wrap.length : Int) := by omega
    clear h0 h1 h2 h6
    go_enter Try.func7, Try.ntmps7
    go_wp2_with fail
    refine (works_true w).mono ?_
    rintro e w9 ⟨rfl, b9⟩
    go_wp2_with fail
    go_ret
    exact ⟨rfl, b9⟩
  have e1 : ¬ (20 : Int) < (wrap.length : Int) := by omega
  by_cases g2 : 20 < l2.length
  · have e2 : (20 : Int) < (l2.length : Int) := by omega
    clear h0 h1 h2 h6
    go_enter Try.func7, Try.ntmps7
    go_wp2_with fail
    refine (works_true w).mono ?_
    rintro e w9 ⟨rfl, b9⟩
    go_wp2_with fail
    go_ret
    exact ⟨rfl, b9⟩
  have e2 : ¬ (20 : Int) < (l2.length : Int) := by omega
  by_cases g3 : 20 < keep.length
  · have e3 : (20 : Int) < (keep.length : Int) := by omega
    clear h0 h1 h2 h6
    go_enter Try.func7, Try.ntmps7
    go_wp2_with fail
    refine (works_true w).mono ?_
    rintro e w9 ⟨rfl, b9⟩
    go_wp2_with fail
    go_ret
    exact ⟨rfl, b9⟩
  have e3 : ¬ (20 : Int) < (keep.length : Int) := by omega
  have hw1 : Bools w xw wrap := h1.short (by omega)
  have hk1 : Bools w xk keep := h6.short (by omega)
  have hb2 : ∀ x ∈ l2, -9223372036854775808 ≤ x ∧ x ≤ 9223372036854775807 := fun x hx => hbn x (hwf x hx)
  have hb5 := hbn by' hwb
  have R1 : ∀ W, Below w.heap.size w W → Calls Try.prog 36 #[.agg #[.slice xs sizes.length c0, .slice xw wrap.length c1], .slice xa l2.length c2] W fun e w' => e = .returned (.tuple #[.int .i64 (if rankE sizes wrap l2 = 0 then rankL 0 sizes wrap l2 else 0), .int .i64 (rankE sizes wrap l2)]) ∧ Below W.heap.size W w' := fun W hW => Rank_any (h0.keep hW) (hw1.keep hW) (h2.keep hW) c0 c1 c2
  have R2 : ∀ W, Below w.heap.size w W → Calls Try.prog 37 #[.agg #[.slice xs sizes.length c0, .slice xw wrap.length c1], .slice xa l2.length c2] W fun e w' => e = .returned (.tuple #[.int .i64 (if rankE sizes wrap l2 = 0 then rankL 0 sizes wrap l2 else 0), .int .i64 (rankE sizes wrap l2)]) ∧ Below W.heap.size W w' := fun W hW => Rank_ref (h0.keep hW) (hw1.keep hW) (h2.keep hW) c0 c1 c2 hb2
  have C1 : ∀ W, Below w.heap.size w W → Calls Try.prog 38 #[.agg #[.slice xs sizes.length c0, .slice xw wrap.length c1], .int .i64 r] W fun e w' => ∃ v, e = .returned (.tuple #[v, .int .i64 (gridErr sizes wrap.length r)]) ∧ NewInts W.heap.size w' v (if gridErr sizes wrap.length r = 0 then coordsL sizes r else []) ∧ Below W.heap.size W w' := fun W hW => Coords_any (h0.keep hW) (hw1.keep hW) c0 c1 r
  have C2 : ∀ W, Below w.heap.size w W → Calls Try.prog 39 #[.agg #[.slice xs sizes.length c0, .slice xw wrap.length c1], .int .i64 r] W fun e w' => ∃ v, e = .returned (.tuple #[v, .int .i64 (gridErr sizes wrap.length r)]) ∧ NewInts W.heap.size w' v (if gridErr sizes wrap.length r = 0 then coordsL sizes r else []) ∧ Below W.heap.size W w' := fun W hW => Coords_ref (h0.keep hW) (hw1.keep hW) c0 c1 r
  have S1 : ∀ W, Below w.heap.size w W → Calls Try.prog 40 #[.agg #[.slice xs sizes.length c0, .slice xw wrap.length c1], .int .i64 r, .int .i64 dim, .int .i64 by'] W fun e w' => e = .returned (.tuple #[.int .i64 (if shiftE sizes wrap.length r dim = 0 then shiftP sizes wrap r dim.toNat by' else 0), .int .i64 (if shiftE sizes wrap.length r dim = 0 then shiftQ sizes wrap r dim.toNat by' else 0), .int .i64 (shiftE sizes wrap.length r dim)]) ∧ Below W.heap.size W w' := fun W hW => Shift_any (h0.keep hW) (hw1.keep hW) c0 c1 r dim by'
  have S2 : ∀ W, Below w.heap.size w W → Calls Try.prog 41 #[.agg #[.slice xs sizes.length c0, .slice xw wrap.length c1], .int .i64 r, .int .i64 dim, .int .i64 by'] W fun e w' => e = .returned (.tuple #[.int .i64 (if shiftE sizes wrap.length r dim = 0 then shiftP sizes wrap r dim.toNat by' else 0), .int .i64 (if shiftE sizes wrap.length r dim = 0 then shiftQ sizes wrap r dim.toNat by' else 0), .int .i64 (shiftE sizes wrap.length r dim)]) ∧ Below W.heap.size W w' := fun W hW => Shift_ref (h0.keep hW) (hw1.keep hW) c0 c1 r dim by' hb5
  have N1 : ∀ W, Below w.heap.size w W → Calls Try.prog 42 #[.agg #[.slice xs sizes.length c0, .slice xw wrap.length c1], .int .i64 r] W fun e w' => ∃ v, e = .returned (.tuple #[v, .int .i64 (gridErr sizes wrap.length r)]) ∧ NewInts W.heap.size w' v (if gridErr sizes wrap.length r = 0 then neighF sizes wrap r sizes.length else []) ∧ Below W.heap.size W w' := fun W hW => Neighbors_any (h0.keep hW) (hw1.keep hW) c0 c1 r
  have N2 : ∀ W, Below w.heap.size w W → Calls Try.prog 43 #[.agg #[.slice xs sizes.length c0, .slice xw wrap.length c1], .int .i64 r] W fun e w' => ∃ v, e = .returned (.tuple #[v, .int .i64 (gridErr sizes wrap.length r)]) ∧ NewInts W.heap.size w' v (if gridErr sizes wrap.length r = 0 then neighF sizes wrap r sizes.length else []) ∧ Below W.heap.size W w' := fun W hW => Neighbors_ref (h0.keep hW) (hw1.keep hW) c0 c1 r
  have U1 : ∀ W, Below w.heap.size w W → Calls Try.prog 44 #[.agg #[.slice xs sizes.length c0, .slice xw wrap.length c1], .slice xk keep.length c6] W fun e w' => ∃ v1 v2 v3 v4, e = .returned (.tuple #[.agg #[v1, v2], v3, v4, .int .i64 (subE sizes wrap.length keep)]) ∧ NewInts W.heap.size w' v1 (if subE sizes wrap.length keep = 0 then subS sizes keep else []) ∧ NewBools W.heap.size w' v2 (if subE sizes wrap.length keep = 0 then subW sizes wrap keep else []) ∧ NewInts W.heap.size w' v3 (if subE sizes wrap.length keep = 0 then subRow (leftP keep) sizes wrap else []) ∧ NewInts W.heap.size w' v4 (if subE sizes wrap.length keep = 0 then subRow (keptP keep) sizes wrap else []) ∧ Below W.heap.size W w' := fun W hW => Sub_any (h0.keep hW) (hw1.keep hW) (hk1.keep hW) c0 c1 c6
  have U2 : ∀ W, Below w.heap.size w W → Calls Try.prog 45 #[.agg #[.slice xs sizes.length c0, .slice xw wrap.length c1], .slice xk keep.length c6] W fun e w' => ∃ v1 v2 v3 v4, e = .returned (.tuple #[.agg #[v1, v2], v3, v4, .int .i64 (subE sizes wrap.length keep)]) ∧ NewInts W.heap.size w' v1 (if subE sizes wrap.length keep = 0 then subS sizes keep else []) ∧ NewBools W.heap.size w' v2 (if subE sizes wrap.length keep = 0 then subW sizes wrap keep else []) ∧ NewInts W.heap.size w' v3 (if subE sizes wrap.length keep = 0 then subRow (leftP keep) sizes wrap else []) ∧ NewInts W.heap.size w' v4 (if subE sizes wrap.length keep = 0 then subRow (keptP keep) sizes wrap else []) ∧ Below W.heap.size W w' := fun W hW => SubRef_any (h0.keep hW) (hw1.keep hW) (hk1.keep hW) c0 c1 c6
  clear h0 h1 h2 h6 hw1 hk1 hb2 hb5 hwf hwb hbn
  generalize (if rankE sizes wrap l2 = 0 then rankL 0 sizes wrap l2 else 0) = nv at R1 R2
  generalize rankE sizes wrap l2 = ne at R1 R2
  generalize (if gridErr sizes wrap.length r = 0 then coordsL sizes r else []) = CL at C1 C2
  generalize (if gridErr sizes wrap.length r = 0 then neighF sizes wrap r sizes.length else []) = NL at N1 N2
  generalize gridErr sizes wrap.length r = ge at C1 C2 N1 N2
  generalize (if shiftE sizes wrap.length r dim = 0 then shiftP sizes wrap r dim.toNat by' else 0) = pv at S1 S2
  generalize (if shiftE sizes wrap.length r dim = 0 then shiftQ sizes wrap r dim.toNat by' else 0) = qv at S1 S2
  generalize shiftE sizes wrap.length r dim = se at S1 S2
  generalize (if subE sizes wrap.length keep = 0 then subS sizes keep else []) = U1L at U1 U2
  generalize (if subE sizes wrap.length keep = 0 then subW sizes wrap keep else []) = U2L at U1 U2
  generalize (if subE sizes wrap.length keep = 0 then subRow (leftP keep) sizes wrap else []) = U3L at U1 U2
  generalize (if subE sizes wrap.length keep = 0 then subRow (keptP keep) sizes wrap else []) = U4L at U1 U2
  generalize subE sizes wrap.length keep = ue at U1 U2
  replace R1 := Lib.hid R1
  replace R2 := Lib.hid R2
  replace C1 := Lib.hid C1
  replace C2 := Lib.hid C2
  replace S1 := Lib.hid S1
  replace S2 := Lib.hid S2
  replace N1 := Lib.hid N1
  replace N2 := Lib.hid N2
  replace U1 := Lib.hid U1
  replace U2 := Lib.hid U2
  go_enter Try.func7, Try.ntmps7
  go_wp2_with fail
  clear e0 e1 e2 e3 g0 g1 g2 g3
  have hX : ∃ X : World, X = (w.alloc (.cells #[.slice xs sizes.length c0, .slice xw wrap.length c1] 42)).alloc (.cells #[.slice xs sizes.length c0, .slice xw wrap.length c1] 43) := ⟨_, rfl⟩
  obtain ⟨X, hX⟩ := hX
  have hB : Below w.heap.size w X := by
    rw [hX]
    exact ((Below.refl w.heap.size w).alloc (Nat.le_refl _) _).alloc (by simp) _
  have hz : X.heap.size = w.heap.size + 2 := by rw [hX]; simp
  have q0 : X.cell? ⟨w.heap.size, 0, none⟩ = some (.slice xs sizes.length c0) := by rw [hX]; go_simp
  have q1 : X.cell? ⟨w.heap.size, 1, none⟩ = some (.slice xw wrap.length c1) := by rw [hX]; go_simp
  have q2 : X.cell? ⟨w.heap.size + 1, 0, none⟩ = some (.slice xs sizes.length c0) := by rw [hX]; go_simp
  have q3 : X.cell? ⟨w.heap.size + 1, 1, none⟩ = some (.slice xw wrap.length c1) := by rw [hX]; go_simp
  rw [← hX]
  clear hX
  have HB := Lib.hid hB
  have HQ : Hid (Below X.heap.size X X) := Below.refl _ X
  have HA : Hid (∀ W, Below X.heap.size X W → Below w.heap.size w W) := fun W hW => hB.trans (hW.mono hB.size)
  have Q0 := Lib.hid q0
  have Q1 := Lib.hid q1
  have Q2 := Lib.hid q2
  have Q3 := Lib.hid q3
  have HZ := Lib.hid hz
  clear hB q0 q1 q2 q3 hz
  have k0 := kcell2 HQ.out (by show w.heap.size < X.heap.size; have := HZ.out; omega) Q0.out
  have k1 := kcell2 HQ.out (by show w.heap.size < X.heap.size; have := HZ.out; omega) Q1.out
  refine (R1.out _ (HA.out _ HQ.out)).mono ?_
  rintro e W1 ⟨rfl, b1⟩
  clear k0 k1
  replace HQ := Lib.hid (HQ.out.trans (b1.mono HQ.out.size))
  clear b1
  have k2 := kcell2 HQ.out (by show w.heap.size + 1 < X.heap.size; have := HZ.out; omega) Q2.out
  have k3 := kcell2 HQ.out (by show w.heap.size + 1 < X.heap.size; have := HZ.out; omega) Q3.out
  go_wp2_with fail
  refine (R2.out _ (HA.out _ HQ.out)).mono ?_
  rintro e W2 ⟨rfl, b1⟩
  clear k2 k3
  replace HQ := Lib.hid (HQ.out.trans (b1.mono HQ.out.size))
  clear b1
  have k0 := kcell2 HQ.out (by show w.heap.size < X.heap.size; have := HZ.out; omega) Q0.out
  have k1 := kcell2 HQ.out (by show w.heap.size < X.heap.size; have := HZ.out; omega) Q1.out
  go_wp2_with fail
  refine (C1.out _ (HA.out _ HQ.out)).mono ?_
  rintro e W3 ⟨v, rfl, n1, b1⟩
  clear k0 k1
  replace HQ := Lib.hid (HQ.out.trans (b1.mono HQ.out.size))
  obtain ⟨ax, ex, rfl, jx⟩ := n1.ints
  have Hx := Lib.hid jx
  clear n1 jx
  clear b1
  have k2 := kcell2 HQ.out (by show w.heap.size + 1 < X.heap.size; have := HZ.out; omega) Q2.out
  have k3 := kcell2 HQ.out (by show w.heap.size + 1 < X.heap.size; have := HZ.out; omega) Q3.out
  go_wp2_with fail
  refine (C2.out _ (HA.out _ HQ.out)).mono ?_
  rintro e W4 ⟨v, rfl, n1, b1⟩
  clear k2 k3
  replace HQ := Lib.hid (HQ.out.trans (b1.mono HQ.out.size))
  replace Hx := Lib.hid (Hx.out.keep b1)
  obtain ⟨ay, ey, rfl, jy⟩ := n1.ints
  have Hy := Lib.hid jy
  clear n1 jy
  clear b1
  have hdc : (decide (ge = ge) && decide (CL = CL)) = true := by simp
  have hi := is_any Hx.out Hy.out ex ey ge ge
  go_wp2_with fail
  refine hi.mono ?_
  rintro e W5 ⟨rfl, b1⟩
  clear hi
  replace HQ := Lib.hid (HQ.out.trans (b1.mono HQ.out.size))
  clear b1
  clear Hx Hy
  have k0 := kcell2 HQ.out (by show w.heap.size < X.heap.size; have := HZ.out; omega) Q0.out
  have k1 := kcell2 HQ.out (by show w.heap.size < X.heap.size; have := HZ.out; omega) Q1.out
  go_wp2_with fail
  refine (S1.out _ (HA.out _ HQ.out)).mono ?_
  rintro e W6 ⟨rfl, b1⟩
  clear k0 k1
  replace HQ := Lib.hid (HQ.out.trans (b1.mono HQ.out.size))
  clear b1
  have k2 := kcell2 HQ.out (by show w.heap.size + 1 < X.heap.size; have := HZ.out; omega) Q2.out
  have k3 := kcell2 HQ.out (by show w.heap.size + 1 < X.heap.size; have := HZ.out; omega) Q3.out
  go_wp2_with fail
  refine (S2.out _ (HA.out _ HQ.out)).mono ?_
  rintro e W7 ⟨rfl, b1⟩
  clear k2 k3
  replace HQ := Lib.hid (HQ.out.trans (b1.mono HQ.out.size))
  clear b1
  clear hdc
  have k0 := kcell2 HQ.out (by show w.heap.size < X.heap.size; have := HZ.out; omega) Q0.out
  have k1 := kcell2 HQ.out (by show w.heap.size < X.heap.size; have := HZ.out; omega) Q1.out
  go_wp2_with fail
  refine (N1.out _ (HA.out _ HQ.out)).mono ?_
  rintro e W8 ⟨v, rfl, n1, b1⟩
  clear k0 k1
  replace HQ := Lib.hid (HQ.out.trans (b1.mono HQ.out.size))
  obtain ⟨ax, ex, rfl, jx⟩ := n1.ints
  have Hx := Lib.hid jx
  clear n1 jx
  clear b1
  have k2 := kcell2 HQ.out (by show w.heap.size + 1 < X.heap.size; have := HZ.out; omega) Q2.out
  have k3 := kcell2 HQ.out (by show w.heap.size + 1 < X.heap.size; have := HZ.out; omega) Q3.out
  go_wp2_with fail
  refine (N2.out _ (HA.out _ HQ.out)).mono ?_
  rintro e W9 ⟨v, rfl, n1, b1⟩
  clear k2 k3
  replace HQ := Lib.hid (HQ.out.trans (b1.mono HQ.out.size))
  replace Hx := Lib.hid (Hx.out.keep b1)
  obtain ⟨ay, ey, rfl, jy⟩ := n1.ints
  have Hy := Lib.hid jy
  clear n1 jy
  clear b1
  have hdc : (decide (ge = ge) && decide (NL = NL)) = true := by simp
  have hi := is_any Hx.out Hy.out ex ey ge ge
  go_wp2_with fail
  refine hi.mono ?_
  rintro e W10 ⟨rfl, b1⟩
  clear hi
  replace HQ := Lib.hid (HQ.out.trans (b1.mono HQ.out.size))
  clear b1
  clear Hx Hy
  clear hdc
  have k0 := kcell2 HQ.out (by show w.heap.size < X.heap.size; have := HZ.out; omega) Q0.out
  have k1 := kcell2 HQ.out (by show w.heap.size < X.heap.size; have := HZ.out; omega) Q1.out
  go_wp2_with fail
  refine (U1.out _ (HA.out _ HQ.out)).mono ?_
  rintro e W11 ⟨v1, v2, v3, v4, rfl, n1, n2, n3, n4, b1⟩
  clear k0 k1
  replace HQ := Lib.hid (HQ.out.trans (b1.mono HQ.out.size))
  obtain ⟨ap, ep, rfl, jp⟩ := n1.ints
  have Hp := Lib.hid jp
  clear n1 jp
  obtain ⟨az, ez, rfl, jz⟩ := n2.bools
  have Hz := Lib.hid jz
  clear n2 jz
  obtain ⟨am, em, rfl, jm⟩ := n3.ints
  have Hm := Lib.hid jm
  clear n3 jm
  obtain ⟨ao, eo, rfl, jo⟩ := n4.ints
  have Ho := Lib.hid jo
  clear n4 jo
  clear b1
  have k2 := kcell2 HQ.out (by show w.heap.size + 1 < X.heap.size; have := HZ.out; omega) Q2.out
  have k3 := kcell2 HQ.out (by show w.heap.size + 1 < X.heap.size; have := HZ.out; omega) Q3.out
  have hlt9 : w.heap.size + 1 < W11.heap.size := by have := HQ.out.size; have := HZ.out; omega
  go_wp2_with fail
  clear hlt9
  have hY : ∃ Y : World, Y = W11.alloc (.cells #[.slice ap U1L.length ep, .slice az U2L.length ez] 42) := ⟨_, rfl⟩
  obtain ⟨Y, hY⟩ := hY
  have b1 : Below W11.heap.size W11 Y := by
    rw [hY]; exact (Below.refl _ W11).alloc (Nat.le_refl _) _
  have g1 : Y.cell? ⟨W11.heap.size, 0, none⟩ = some (.slice ap U1L.length ep) := by rw [hY]; go_simp
  have g2 : Y.cell? ⟨W11.heap.size, 1, none⟩ = some (.slice az U2L.length ez) := by rw [hY]; go_simp
  have hlY : W11.heap.size < Y.heap.size := by rw [hY]; simp
  rw [← hY]
  clear hY k2 k3
  replace HQ := Lib.hid (HQ.out.trans (b1.mono HQ.out.size))
  replace Hp := Lib.hid (Hp.out.keep b1)
  replace Hz := Lib.hid (Hz.out.keep b1)
  replace Hm := Lib.hid (Hm.out.keep b1)
  replace Ho := Lib.hid (Ho.out.keep b1)
  clear b1
  refine (U2.out _ (HA.out _ HQ.out)).mono ?_
  rintro e W12 ⟨u1, u2, u3, u4, rfl, n1, n2, n3, n4, b1⟩
  have g3 := kcell2 b1 hlY g1
  have g4 := kcell2 b1 hlY g2
  have hlZ : W11.heap.size < W12.heap.size := by have := b1.size; omega
  clear g1 g2 hlY
  replace HQ := Lib.hid (HQ.out.trans (b1.mono HQ.out.size))
  replace Hp := Lib.hid (Hp.out.keep b1)
  replace Hz := Lib.hid (Hz.out.keep b1)
  replace Hm := Lib.hid (Hm.out.keep b1)
  replace Ho := Lib.hid (Ho.out.keep b1)
  obtain ⟨ap2, ep2, rfl, jp2⟩ := n1.ints
  have Hp2 := Lib.hid jp2
  clear n1 jp2
  obtain ⟨az2, ez2, rfl, jz2⟩ := n2.bools
  have Hz2 := Lib.hid jz2
  clear n2 jz2
  obtain ⟨am2, em2, rfl, jm2⟩ := n3.ints
  have Hm2 := Lib.hid jm2
  clear n3 jm2
  obtain ⟨ao2, eo2, rfl, jo2⟩ := n4.ints
  have Ho2 := Lib.hid jo2
  clear n4 jo2
  clear b1
  go_wp2_with fail
  have hY : ∃ Z : World, Z = W12.alloc (.cells #[.slice ap2 U1L.length ep2, .slice az2 U2L.length ez2] 43) := ⟨_, rfl⟩
  obtain ⟨Z, hY⟩ := hY
  have b1 : Below W12.heap.size W12 Z := by
    rw [hY]; exact (Below.refl _ W12).alloc (Nat.le_refl _) _
  have g5 : Z.cell? ⟨W12.heap.size, 0, none⟩ = some (.slice ap2 U1L.length ep2) := by rw [hY]; go_simp
  have g6 : Z.cell? ⟨W12.heap.size, 1, none⟩ = some (.slice az2 U2L.length ez2) := by rw [hY]; go_simp
  have g7 := kcell2 b1 hlZ g3
  have g8 := kcell2 b1 hlZ g4
  rw [← hY]
  clear hY g3 g4 hlZ
  replace HQ := Lib.hid (HQ.out.trans (b1.mono HQ.out.size))
  replace Hp := Lib.hid (Hp.out.keep b1)
  replace Hz := Lib.hid (Hz.out.keep b1)
  replace Hm := Lib.hid (Hm.out.keep b1)
  replace Ho := Lib.hid (Ho.out.keep b1)
  replace Hp2 := Lib.hid (Hp2.out.keep b1)
  replace Hz2 := Lib.hid (Hz2.out.keep b1)
  replace Hm2 := Lib.hid (Hm2.out.keep b1)
  replace Ho2 := Lib.hid (Ho2.out.keep b1)
  clear b1
  have hgr := sameGrid_true Hp.out Hz.out Hp2.out Hz2.out ep ez ep2 ez2
  refine hgr.mono ?_
  rintro e W13 ⟨rfl, b1⟩
  clear hgr g5 g6 g7 g8
  replace HQ := Lib.hid (HQ.out.trans (b1.mono HQ.out.size))
  replace Hm := Lib.hid (Hm.out.keep b1)
  replace Ho := Lib.hid (Ho.out.keep b1)
  replace Hm2 := Lib.hid (Hm2.out.keep b1)
  replace Ho2 := Lib.hid (Ho2.out.keep b1)
  clear b1
  clear Hp Hz Hp2 Hz2
  have hsm := same_ints Hm.out Hm2.out em em2
  rw [show decide (U3L = U3L) = true by simp] at hsm
  go_wp2_with fail
  refine hsm.mono ?_
  rintro e W14 ⟨rfl, b1⟩
  clear hsm
  replace HQ := Lib.hid (HQ.out.trans (b1.mono HQ.out.size))
  replace Ho := Lib.hid (Ho.out.keep b1)
  replace Ho2 := Lib.hid (Ho2.out.keep b1)
  clear b1
  clear Hm Hm2
  have hsm := same_ints Ho.out Ho2.out eo eo2
  rw [show decide (U4L = U4L) = true by simp] at hsm
  go_wp2_with fail
  refine hsm.mono ?_
  rintro e W15 ⟨rfl, b1⟩
  clear hsm
  replace HQ := Lib.hid (HQ.out.trans (b1.mono HQ.out.size))
  clear b1
  clear Ho Ho2
  go_wp2_with fail
  refine (works_true W15).mono ?_
  rintro e w9 ⟨rfl, b9⟩
  have hfin := (HA.out _ (HQ.out.trans (b9.mono HQ.out.size)))
  go_wp2_with fail
  go_ret
  exact ⟨rfl, hfin⟩
end Go.Proofs.Ytoloiingodigpaa
