import Derived.Test.YtoloiingodigpaaL
namespace Go.Proofs.Ytoloiingodigpaa
open Go.RowKit Go.Shelf
attribute [local go_sem] Oper.semAt_some litE

theorem kcell {w W : World} {b o : Nat} {v : Value} (hb : Below w.heap.size w W) (h : w.cell? ⟨b, o, none⟩ = some v) : W.cell? ⟨b, o, none⟩ = some v :=
  (hb.cell (p := ⟨b, o, none⟩) (block_lt_of_cell h)).trans h

theorem coordsL_len (sizes : List Int) (r : Int) : (coordsL sizes r).length = sizes.length := cfold_len _ _ _

def shiftA (sizes : List Int) (wrap : List Bool) (r : Int) (d : Nat) (by' : Int) : List Int := (coordsL sizes r).set d (wrap64 ((coordsL sizes r).getD d 0 - nearL sizes wrap d by'))
def shiftB (sizes : List Int) (wrap : List Bool) (r : Int) (d : Nat) (by' : Int) : List Int := (coordsL sizes r).set d (wrap64 ((coordsL sizes r).getD d 0 + nearL sizes wrap d by'))

set_option maxRecDepth 100000 in
set_option maxHeartbeats 2000000 in
theorem shift_any {w : World} {sa wa : Option Addr} {sizes : List Int} {wrap : List Bool} (h : Ints w sa sizes) (hw : Bools w wa wrap) (hp : ∀ s ∈ sizes, 1 ≤ s ∧ s ≤ 64) (hl : wrap.length = sizes.length) (sc wc : Nat) (r : Int) (hr : 0 ≤ r) (hr2 : r ≤ 64) (d : Nat) (hd : d < sizes.length) (by' : Int) :
    Calls Try.prog 88 #[.agg #[.slice sa sizes.length sc, .slice wa wrap.length wc], .int .i64 r, .int .i64 d, .int .i64 by'] w fun e w' => e = .returned (.tuple #[.int .i64 (rankL 0 sizes wrap (shiftA sizes wrap r d by')), .int .i64 (rankL 0 sizes wrap (shiftB sizes wrap r d by'))]) ∧ Below w.heap.size w w' := by
  have hlen := h.len
  have h0 := (Below.refl w.heap.size w).alloc (Nat.le_refl _) (.cells #[.slice sa sizes.length sc, .slice wa wrap.length wc] 42)
  have A0 := h.keep h0
  have A1 := hw.keep h0
  have hn := near_any A0 A1 hp hl sc wc d hd by'
  have e0 : (w.alloc (.cells #[.slice sa sizes.length sc, .slice wa wrap.length wc] 42)).cell? ⟨w.heap.size, 0, none⟩ = some (.slice sa sizes.length sc) := by simp
  have e1 : (w.alloc (.cells #[.slice sa sizes.length sc, .slice wa wrap.length wc] 42)).cell? ⟨w.heap.size, 1, none⟩ = some (.slice wa wrap.length wc) := by simp
  have HS : Hid (shiftA sizes wrap r d by' = (coordsL sizes r).set d (wrap64 ((coordsL sizes r).getD d 0 - nearL sizes wrap d by'))) := rfl
  have HS2 : Hid (shiftB sizes wrap r d by' = (coordsL sizes r).set d (wrap64 ((coordsL sizes r).getD d 0 + nearL sizes wrap d by'))) := rfl
  have HP := Lib.hid hp
  have HL := Lib.hid hl
  have HCL := Lib.hid (coordsL_len sizes r)
  generalize shiftA sizes wrap r d by' = sA at *
  generalize shiftB sizes wrap r d by' = sB at *
  generalize nearL sizes wrap d by' = nb at *
  clear hp hl h hw
  go_enter Try.func88, Try.ntmps88
  go_wp2_with fail
  refine hn.mono ?_
  have hzw : (w.alloc (.cells #[.slice sa sizes.length sc, .slice wa wrap.length wc] 42)).heap.size = w.heap.size + 1 := by simp
  generalize w.alloc (.cells #[.slice sa sizes.length sc, .slice wa wrap.length wc] 42) = w0 at *
  rintro e W ⟨rfl, hb⟩
  have B0 := A0.keep hb
  have B1 := A1.keep hb
  have f0 := kcell hb e0
  have f1 := kcell hb e1
  have hz := hb.size
  have hbw := h0.trans (hb.mono (by omega))
  clear A0 A1 e0 e1 hn hb h0
  go_wp2_with fail
  have D0 := B0.keep ((Below.refl _ W).drew)
  have D1 : W.drew.cell? ⟨w.heap.size, 0, none⟩ = some (.slice sa sizes.length sc) := f0
  have D2 : W.drew.cell? ⟨w.heap.size, 1, none⟩ = some (.slice wa wrap.length wc) := f1
  have D3 : Below W.heap.size W W.drew := (Below.refl _ _).drew
  go_region_held3 (fun w' => Ints w' sa sizes ∧ Below W.heap.size W w' ∧ w'.cell? ⟨w.heap.size, 0, none⟩ = some (.slice sa sizes.length sc) ∧ w'.cell? ⟨w.heap.size, 1, none⟩ = some (.slice wa wrap.length wc))
    (first | exact ⟨D0, D3, D1, D2⟩ | exact ⟨by assumption, by assumption, by assumption, by assumption⟩)
    ((go_at_call 85; refine (coords_any (wa := wa) (by assumption) HP.out sc wrap.length wc r hr hr2).mono ?_; (first | (have _hh := hrow1; (rintro e w2 ⟨b2, rfl, hbb2, hrow2, hbel2⟩; have hI2 := Ints.keep (show Ints _ sa sizes by assumption) hbel2; have hC2 := kcell hbel2 (show _ = some (.slice sa sizes.length sc) by assumption); have hD2 := kcell hbel2 (show _ = some (.slice wa wrap.length wc) by assumption); have hB2 := Below.trans (show Below W.heap.size W _ by assumption) (hbel2.mono (Below.size (show Below W.heap.size W _ by assumption))))) | (rintro e w1 ⟨b1, rfl, hbb1, hrow1, hbel1⟩; have hI1 := Ints.keep (show Ints _ sa sizes by assumption) hbel1; have hC1 := kcell hbel1 (show _ = some (.slice sa sizes.length sc) by assumption); have hD1 := kcell hbel1 (show _ = some (.slice wa wrap.length wc) by assumption); have hB1 := Below.trans (show Below W.heap.size W _ by assumption) (hbel1.mono (Below.size (show Below W.heap.size W _ by assumption)))))))
  have R1 := hrow1.keep hbel2
  have hne : b1 ≠ b2 := by have := hrow1.lt; omega
  have hlt1 := R1.lt
  have hlt2 := hrow2.lt
  have hbw2 := hbw.trans (hB2.mono (by omega))
  have hW1 := hbel1.size
  have hW0 : W.drew.heap.size = W.heap.size := rfl
  clear hI1 hC1 hD1 hB1 hbel1 D0 D1 D2 D3 hrow1
  have hdc : d < (coordsL sizes r).length := by rw [HCL.out]; exact hd
  have hgd : (coordsL sizes r).getD d 0 = (coordsL sizes r)[d] := by simp [List.getD, hdc]
  rw [hgd] at HS HS2
  have c1 := R1.cell d hdc
  have c2 := hrow2.cell d hdc
  have o1 := R1.open_ d
  have o2 := hrow2.open_ d
  clear hgd
  have HSl : Hid (sA.length = sizes.length) := by show _ = _; rw [HS.out, List.length_set]; exact HCL.out
  have HSl2 : Hid (sB.length = sizes.length) := by show _ = _; rw [HS2.out, List.length_set]; exact HCL.out
  generalize (coordsL sizes r)[d] = cd at *
  generalize coordsL sizes r = cl at *
  have HR1 := Lib.hid R1
  have HR2 := Lib.hid hrow2
  clear R1 hrow2
  have X1 : RowAt ((w2.setCell ⟨b1, d, none⟩ (.int .i64 (wrap64 (cd - nb)))).setCell ⟨b2, d, none⟩ (.int .i64 (wrap64 (cd + nb)))) b1 sA := by rw [HS.out]; exact (HR1.out.set d _).set_other _ _ _ hne
  have X2 : RowAt ((w2.setCell ⟨b1, d, none⟩ (.int .i64 (wrap64 (cd - nb)))).setCell ⟨b2, d, none⟩ (.int .i64 (wrap64 (cd + nb)))) b2 sB := by rw [HS2.out]; exact (HR2.out.set_other _ _ _ (Ne.symm hne)).set d _
  have XB : Below W.heap.size W ((w2.setCell ⟨b1, d, none⟩ (.int .i64 (wrap64 (cd - nb)))).setCell ⟨b2, d, none⟩ (.int .i64 (wrap64 (cd + nb)))) := (hB2.setCell (by show W.heap.size ≤ b1; omega) _).setCell (by show W.heap.size ≤ b2; omega) _
  have HX1 := Lib.hid X1
  have HX2 := Lib.hid X2
  have HXB := Lib.hid XB
  have HB0 := Lib.hid B0
  have HB1 := Lib.hid B1
  clear X1 X2 XB B0 B1 hI2 hC2 hD2 hB2 hbel2
  go_wp2_with fail
  generalize (w2.setCell ⟨b1, d, none⟩ (.int .i64 (wrap64 (cd - nb)))).setCell ⟨b2, d, none⟩ (.int .i64 (wrap64 (cd + nb))) = X at *
  have D0 : Ints X.drew sa sizes := (HB0.out.keep HXB.out).keep ((Below.refl _ X).drew)
  have D1 : Bools X.drew wa wrap := (HB1.out.keep HXB.out).keep ((Below.refl _ X).drew)
  have D2 : RowAt X.drew b1 sA := HX1.out
  have D3 : RowAt X.drew b2 sB := HX2.out
  have D4 : X.drew.cell? ⟨w.heap.size, 0, none⟩ = some (.slice sa sizes.length sc) := kcell HXB.out.drew f0
  have D5 : X.drew.cell? ⟨w.heap.size, 1, none⟩ = some (.slice wa wrap.length wc) := kcell HXB.out.drew f1
  have D6 : Below w.heap.size w X.drew := (hbw.trans (HXB.out.mono (by omega))).drew
  have callA : ∀ X', Ints X' sa sizes → Bools X' wa wrap → RowAt X' b1 sA → Calls Try.prog 81 #[.agg #[.slice sa sizes.length sc, .slice wa wrap.length wc], .slice (some ⟨b1, 0, none⟩) sizes.length sizes.length] X' fun e w' => e = .returned (.int .i64 (rankL 0 sizes wrap sA)) ∧ Below X'.heap.size X' w' := fun X' i1 i2 i3 => by
    have := rank_any i1 i2 (i3.ints (by rw [HSl.out]; exact hlen)) HP.out HL.out HSl.out sc wc sizes.length
    rwa [HSl.out] at this
  have callB : ∀ X', Ints X' sa sizes → Bools X' wa wrap → RowAt X' b2 sB → Calls Try.prog 81 #[.agg #[.slice sa sizes.length sc, .slice wa wrap.length wc], .slice (some ⟨b2, 0, none⟩) sizes.length sizes.length] X' fun e w' => e = .returned (.int .i64 (rankL 0 sizes wrap sB)) ∧ Below X'.heap.size X' w' := fun X' i1 i2 i3 => by
    have := rank_any i1 i2 (i3.ints (by rw [HSl2.out]; exact hlen)) HP.out HL.out HSl2.out sc wc sizes.length
    rwa [HSl2.out] at this
  obtain ⟨rA, hrA⟩ : ∃ r, r = rankL 0 sizes wrap sA := ⟨_, rfl⟩
  obtain ⟨rB, hrB⟩ : ∃ r, r = rankL 0 sizes wrap sB := ⟨_, rfl⟩
  rw [← hrA] at callA
  rw [← hrB] at callB
  have HRA := Lib.hid hrA
  have HRB := Lib.hid hrB
  clear hrA hrB
  go_region_held3 (fun w' => Ints w' sa sizes ∧ Bools w' wa wrap ∧ RowAt w' b1 sA ∧ RowAt w' b2 sB ∧ Below w.heap.size w w' ∧ w'.cell? ⟨w.heap.size, 0, none⟩ = some (.slice sa sizes.length sc) ∧ w'.cell? ⟨w.heap.size, 1, none⟩ = some (.slice wa wrap.length wc))
    (first | exact ⟨D0, D1, D2, D3, D6, D4, D5⟩ | exact ⟨by assumption, by assumption, by assumption, by assumption, by assumption, by assumption, by assumption⟩)
    ((go_at_call 81; (first | (with_reducible refine (callA _ (by assumption) (by assumption) (by assumption)).mono ?_) | (with_reducible refine (callB _ (by assumption) (by assumption) (by assumption)).mono ?_)); (first | (have _hh := hbel3; (rintro e w4 ⟨rfl, hbel4⟩; have hI4 := Ints.keep (show Ints _ sa sizes by assumption) hbel4; have hJ4 := Bools.keep (show Bools _ wa wrap by assumption) hbel4; have hP4 := RowAt.keep (show RowAt _ b1 sA by assumption) hbel4; have hQ4 := RowAt.keep (show RowAt _ b2 sB by assumption) hbel4; have hC4 := kcell hbel4 (show _ = some (.slice sa sizes.length sc) by assumption); have hD4 := kcell hbel4 (show _ = some (.slice wa wrap.length wc) by assumption); have hB4 := Below.trans (show Below w.heap.size w _ by assumption) (hbel4.mono (Below.size (show Below w.heap.size w _ by assumption))))) | (rintro e w3 ⟨rfl, hbel3⟩; have hI3 := Ints.keep (show Ints _ sa sizes by assumption) hbel3; have hJ3 := Bools.keep (show Bools _ wa wrap by assumption) hbel3; have hP3 := RowAt.keep (show RowAt _ b1 sA by assumption) hbel3; have hQ3 := RowAt.keep (show RowAt _ b2 sB by assumption) hbel3; have hC3 := kcell hbel3 (show _ = some (.slice sa sizes.length sc) by assumption); have hD3 := kcell hbel3 (show _ = some (.slice wa wrap.length wc) by assumption); have hB3 := Below.trans (show Below w.heap.size w _ by assumption) (hbel3.mono (Below.size (show Below w.heap.size w _ by assumption)))))))
  clear D0 D1 D2 D3 D4 D5 D6
  go_wp2
  go_ret2
  exact ⟨by rw [← HRA.out, ← HRB.out]; rfl, hB4⟩
end Go.Proofs.Ytoloiingodigpaa
