import Derived.Test.YtoloiingodigpaaQB
namespace Go.Proofs.Ytoloiingodigpaa
open Go.RowKit Go.Shelf
attribute [local go_sem] Oper.semAt_some litE
set_option maxRecDepth 100000
set_option maxHeartbeats 2000000

theorem Digits.bd : ∀ {sz xs : List Int}, Digits sz xs → (∀ s ∈ sz, s ≤ 64) → ∀ x ∈ xs, 0 ≤ x ∧ x ≤ 64
  | [], [], _, _, x, hx => by cases hx
  | s :: sz, y :: xs, h, hs, x, hx => by
    rcases List.mem_cons.1 hx with rfl | hx
    · have := h.1; have := hs s (by simp); omega
    · exact Digits.bd h.2 (fun t ht => hs t (by simp [ht])) x hx

theorem far_none {sizes : List Int} {wrap : List Bool} {n : Int} (g : PGrid sizes wrap n) {r : Int} (h0 : 0 ≤ r) (h1 : r < n) (d : Nat) (hd : d < sizes.length) (by' : Int) (hw : wrap.getD d false = false) (hf : by' ≤ -sizes.getD d 0 ∨ sizes.getD d 0 ≤ by') :
    Go.Proofs.Ytoloiingodigpaa.shiftP sizes wrap r d by' = -2 ∧ Go.Proofs.Ytoloiingodigpaa.shiftQ sizes wrap r d by' = -2 := by
  obtain ⟨hD, hV⟩ := g.coords h0 h1
  have hQ := g.shiftQ hD d hd by'
  have hP := g.shiftP hD d hd by'
  rw [hV, hw] at hQ hP
  obtain ⟨s1, s2⟩ := g.size_le d hd
  obtain ⟨c0, c1⟩ := hD.at_ d hd
  have hn : nearL sizes wrap d by' = -sizes.getD d 0 ∨ nearL sizes wrap d by' = sizes.getD d 0 := by
    unfold nearL; rw [hw, if_neg (by decide)]; omega
  have e1 : nx false (sizes.getD d 0) ((coordsL sizes r).getD d 0 + nearL sizes wrap d by') = none := by unfold nx; rw [if_neg (by decide), if_neg (by omega)]
  have e2 : nx false (sizes.getD d 0) ((coordsL sizes r).getD d 0 - nearL sizes wrap d by') = none := by unfold nx; rw [if_neg (by decide), if_neg (by omega)]
  rw [e1] at hQ
  rw [e2] at hP
  exact ⟨hP, hQ⟩

theorem moved_ref {w : World} {sa wa : Option Addr} {sizes : List Int} {wrap : List Bool} {n : Int} (g : PGrid sizes wrap n) (h : Ints w sa sizes) (hw : Bools w wa wrap) (sc wc : Nat) (r : Int) (h0 : 0 ≤ r) (hr : r < n) (d : Nat) (hd : d < sizes.length) (by' : Int) (hb : -9223372036854775808 ≤ by' ∧ by' ≤ 9223372036854775807) (back : Bool) :
    Calls Try.prog 89 #[.agg #[.slice sa sizes.length sc, .slice wa wrap.length wc], .int .i64 r, .int .i64 d, .int .i64 by', .bool back] w fun e w' => e = .returned (.int .i64 (if back then shiftP sizes wrap r d by' else shiftQ sizes wrap r d by')) ∧ Below w.heap.size w w' := by
  have hlen := h.len
  have hb0 : Below w.heap.size w (w.alloc (.cells #[.slice sa sizes.length sc, .slice wa wrap.length wc] 43)) := (Below.refl _ _).alloc (Nat.le_refl _) _
  have k0 : (w.alloc (.cells #[.slice sa sizes.length sc, .slice wa wrap.length wc] 43)).cell? ⟨w.heap.size, 0, none⟩ = some (.slice sa sizes.length sc) := by simp
  have k1 : (w.alloc (.cells #[.slice sa sizes.length sc, .slice wa wrap.length wc] 43)).cell? ⟨w.heap.size, 1, none⟩ = some (.slice wa wrap.length wc) := by simp
  have HH := Lib.hid (h.keep hb0)
  have HW := Lib.hid (hw.keep hb0)
  have hnle := g.le
  have hco := coords_ref (wa := wa) (h.keep hb0) g.sz sc wrap.length wc r h0 (by omega)
  obtain ⟨s1, s2⟩ := g.size_le d hd
  obtain ⟨hD, hV⟩ := g.coords h0 hr
  obtain ⟨d0, d1⟩ := hD.at_ d hd
  have HG := Lib.hid g
  have HDB := Lib.hid (hD.bd (fun s hs => (g.sz s hs).2))
  have HCL := Lib.hid (coordsL_len sizes r)
  have HB := Lib.hid hb0
  have hdw : d < wrap.length := by rw [g.wl]; exact hd
  have hgs : sizes.getD d 0 = sizes[d] := by simp [List.getD, hd]
  have hgw : wrap.getD d false = wrap[d] := by simp [List.getD, hdw]
  have HFAR := Lib.hid (far_none g h0 hr d hd by')
  have HSP : Hid (shiftP sizes wrap r d by' = rankL 0 sizes wrap ((coordsL sizes r).set d (wrap64 ((coordsL sizes r).getD d 0 - nearL sizes wrap d by')))) := rfl
  have HSQ : Hid (shiftQ sizes wrap r d by' = rankL 0 sizes wrap ((coordsL sizes r).set d (wrap64 ((coordsL sizes r).getD d 0 + nearL sizes wrap d by')))) := rfl
  have HNB := Lib.hid (near_bd sizes wrap d by' s1 s2)
  have HNE : Hid (nearL sizes wrap d by' = if wrap[d] then by' % sizes[d] else min (max by' (-sizes[d])) sizes[d]) := by show _ = _; unfold nearL; rw [hgs, hgw]
  rw [hgs] at s1 s2 d1 HFAR
  rw [hgw] at HFAR
  generalize shiftP sizes wrap r d by' = sp at *
  generalize shiftQ sizes wrap r d by' = sq at *
  generalize nearL sizes wrap d by' = nb at *
  obtain ⟨C, hC⟩ : ∃ C, C = coordsL sizes r := ⟨_, rfl⟩
  rw [← hC] at hco d0 d1 HDB HCL HSP HSQ
  clear hC hD hV h hw hb0 g hgs hgw
  have hrk : ∀ (W : World) (b : Nat) (xs : List Int), Ints W sa sizes → Bools W wa wrap → RowAt W b xs → xs.length = sizes.length → (∀ x ∈ xs, -9223372036854775808 ≤ x ∧ x ≤ 9223372036854775807) →
      Calls Try.prog 83 #[.agg #[.slice sa sizes.length sc, .slice wa wrap.length wc], .slice (some ⟨b, 0, none⟩) sizes.length sizes.length] W fun e w' => e = .returned (.int .i64 (rankL 0 sizes wrap xs)) ∧ Below W.heap.size W w' := fun W b xs i1 i2 i3 i4 i5 => by
    have := rank_ref i1 i2 (i3.ints (by rw [i4]; exact hlen)) HG.out.sz HG.out.wl i4 i5 sc wc sizes.length
    rwa [i4] at this
  have HRK := Lib.hid hrk
  clear hrk
  go_enter Try.func89, Try.ntmps89
  go_wp2_with fail
  generalize w.alloc (.cells #[.slice sa sizes.length sc, .slice wa wrap.length wc] 43) = w0 at *
  refine hco.mono ?_
  clear hco
  rintro e W ⟨b, rfl, hbb, hR, hbel⟩
  have hzB := HB.out.size
  have k0' := (hbel.cell (block_lt_of_cell k0)).trans k0
  have k1' := (hbel.cell (block_lt_of_cell k1)).trans k1
  have HB2 : Hid (Below w.heap.size w W) := HB.out.trans (hbel.mono hzB)
  have HBEL := Lib.hid hbel
  have K0 := Lib.hid k0
  have K1 := Lib.hid k1
  obtain ⟨g1, o1, e1, hcs⟩ := (HH.out.keep hbel).at_ (ne_nil_of_lt hd)
  obtain ⟨g2, o2, e2, hcw⟩ := (HW.out.keep hbel).at_ (ne_nil_of_lt hdw)
  clear k0 k1 hbel HB
  subst e1 e2
  have c0 := hcs d hd
  have c1 := hcw d hdw
  have hdC : d < C.length := by rw [HCL.out]; exact hd
  have c2 := hR.cell d hdC
  have hfz := hR.open_ d
  have hltb := hR.lt
  have HR := Lib.hid hR
  have hcd : C.getD d 0 = C[d] := by simp [List.getD, hdC]
  rw [hcd] at HSP HSQ d0 d1
  clear hcs hcw hR hcd
  have HFIN : Hid (∀ y : Int, -1000 ≤ y → y ≤ 1000 → ∀ x ∈ C.set d y, -9223372036854775808 ≤ x ∧ x ≤ 9223372036854775807) := fun y y1 y2 x hx => by
    rcases List.mem_or_eq_of_mem_set hx with hx | rfl
    · have := HDB.out x hx; omega
    · omega
  obtain ⟨n1, n2⟩ := HNB.out
  cases hwd : wrap[d] with
  | true =>
    rw [hwd] at c1 HNE
    have hne : nb = by' % sizes[d] := by have := HNE.out; simpa using this
    have hmod := modr_any by' sizes[d] hb s1 s2
    rw [← hne] at hmod
    have m0 : 0 ≤ nb := by rw [hne]; exact Int.emod_nonneg _ (by omega)
    have m1 : nb < sizes[d] := by rw [hne]; exact Int.emod_lt_of_pos _ (by omega)
    generalize sizes[d] = s at *
    generalize C[d] = cd at *
    clear hne HNE
    cases back with
    | true =>
      have hst := Lib.hid (HR.out.set d (cd + -nb))
      have HE : Hid (sp = rankL 0 sizes wrap (C.set d (cd + -nb))) := by show _ = _; rw [HSP.out, wrap_small (by omega) (by omega), Int.sub_eq_add_neg]
      have hb9 : Below w0.heap.size w0 (W.setCell ⟨b, d, none⟩ (.int .i64 (cd + -nb))) := HBEL.out.setCell (by show w0.heap.size ≤ b; omega) _
      have hbn : Hid (Below w.heap.size w (W.setCell ⟨b, d, none⟩ (.int .i64 (cd + -nb)))) := HB2.out.setCell (by show w.heap.size ≤ b; omega) _
      have hrk := HRK.out _ b (C.set d (cd + -nb)) (HH.out.keep hb9) (HW.out.keep hb9) hst.out (by rw [List.length_set]; exact HCL.out) (HFIN.out _ (by omega) (by omega))
      rw [← HE.out] at hrk
      have z0 := (hb9.cell (block_lt_of_cell K0.out)).trans K0.out
      have z1 := (hb9.cell (block_lt_of_cell K1.out)).trans K1.out
      have hneg : -nb = -nb := rfl
      clear HSP HSQ hb9 HFAR
      go_wp2_with (first
        | (go_at_call 111; refine (hmod _).mono ?_; rintro e w' ⟨rfl, rfl⟩))
      refine hrk.mono ?_
      rintro e Z ⟨rfl, hbZ⟩
      have hbF := hbn.out.trans (hbZ.mono hbn.out.size)
      clear hrk hbZ
      go_wp2_with fail
      go_ret
      exact ⟨rfl, hbF⟩
    | false =>
      have hst := Lib.hid (HR.out.set d (cd + nb))
      have HE : Hid (sq = rankL 0 sizes wrap (C.set d (cd + nb))) := by show _ = _; rw [HSQ.out, wrap_small (by omega) (by omega)]
      have hb9 : Below w0.heap.size w0 (W.setCell ⟨b, d, none⟩ (.int .i64 (cd + nb))) := HBEL.out.setCell (by show w0.heap.size ≤ b; omega) _
      have hbn : Hid (Below w.heap.size w (W.setCell ⟨b, d, none⟩ (.int .i64 (cd + nb)))) := HB2.out.setCell (by show w.heap.size ≤ b; omega) _
      have hrk := HRK.out _ b (C.set d (cd + nb)) (HH.out.keep hb9) (HW.out.keep hb9) hst.out (by rw [List.length_set]; exact HCL.out) (HFIN.out _ (by omega) (by omega))
      rw [← HE.out] at hrk
      have z0 := (hb9.cell (block_lt_of_cell K0.out)).trans K0.out
      have z1 := (hb9.cell (block_lt_of_cell K1.out)).trans K1.out
      have hneg : -nb = -nb := rfl
      clear HSP HSQ hb9 HFAR
      go_wp2_with (first
        | (go_at_call 111; refine (hmod _).mono ?_; rintro e w' ⟨rfl, rfl⟩))
      refine hrk.mono ?_
      rintro e Z ⟨rfl, hbZ⟩
      have hbF := hbn.out.trans (hbZ.mono hbn.out.size)
      clear hrk hbZ
      go_wp2_with fail
      go_ret
      exact ⟨rfl, hbF⟩
  | false =>
    rw [hwd] at c1 HNE HFAR
    have hne : nb = min (max by' (-sizes[d])) sizes[d] := by have := HNE.out; simpa using this
    generalize sizes[d] = s at *
    generalize C[d] = cd at *
    clear HNE
    by_cases hlo : by' ≤ -s
    · obtain ⟨f1, f2⟩ := HFAR.out rfl (.inl hlo)
      subst f1 f2
      clear HFAR HSP HSQ hne
      cases back with
      | true =>
        go_wp2_with fail
        go_ret
        exact ⟨rfl, HB2.out⟩
      | false =>
        go_wp2_with fail
        go_ret
        exact ⟨rfl, HB2.out⟩
    · by_cases hhi : s ≤ by'
      · obtain ⟨f1, f2⟩ := HFAR.out rfl (.inr hhi)
        subst f1 f2
        clear HFAR HSP HSQ hne
        cases back with
        | true =>
          go_wp2_with fail
          go_ret
          exact ⟨rfl, HB2.out⟩
        | false =>
          go_wp2_with fail
          go_ret
          exact ⟨rfl, HB2.out⟩
      · have hnb : nb = by' := by omega
        subst hnb
        clear hne
        cases back with
        | true =>
          have hst := Lib.hid (HR.out.set d (cd + -nb))
          have HE : Hid (sp = rankL 0 sizes wrap (C.set d (cd + -nb))) := by show _ = _; rw [HSP.out, wrap_small (by omega) (by omega), Int.sub_eq_add_neg]
          have hb9 : Below w0.heap.size w0 (W.setCell ⟨b, d, none⟩ (.int .i64 (cd + -nb))) := HBEL.out.setCell (by show w0.heap.size ≤ b; omega) _
          have hbn : Hid (Below w.heap.size w (W.setCell ⟨b, d, none⟩ (.int .i64 (cd + -nb)))) := HB2.out.setCell (by show w.heap.size ≤ b; omega) _
          have hrk := HRK.out _ b (C.set d (cd + -nb)) (HH.out.keep hb9) (HW.out.keep hb9) hst.out (by rw [List.length_set]; exact HCL.out) (HFIN.out _ (by omega) (by omega))
          rw [← HE.out] at hrk
          have z0 := (hb9.cell (block_lt_of_cell K0.out)).trans K0.out
          have z1 := (hb9.cell (block_lt_of_cell K1.out)).trans K1.out
          have hneg : -nb = -nb := rfl
          clear HSP HSQ hb9 HFAR
          go_wp2_with fail
          refine hrk.mono ?_
          rintro e Z ⟨rfl, hbZ⟩
          have hbF := hbn.out.trans (hbZ.mono hbn.out.size)
          clear hrk hbZ
          go_wp2_with fail
          go_ret
          exact ⟨rfl, hbF⟩
        | false =>
          have hst := Lib.hid (HR.out.set d (cd + nb))
          have HE : Hid (sq = rankL 0 sizes wrap (C.set d (cd + nb))) := by show _ = _; rw [HSQ.out, wrap_small (by omega) (by omega)]
          have hb9 : Below w0.heap.size w0 (W.setCell ⟨b, d, none⟩ (.int .i64 (cd + nb))) := HBEL.out.setCell (by show w0.heap.size ≤ b; omega) _
          have hbn : Hid (Below w.heap.size w (W.setCell ⟨b, d, none⟩ (.int .i64 (cd + nb)))) := HB2.out.setCell (by show w.heap.size ≤ b; omega) _
          have hrk := HRK.out _ b (C.set d (cd + nb)) (HH.out.keep hb9) (HW.out.keep hb9) hst.out (by rw [List.length_set]; exact HCL.out) (HFIN.out _ (by omega) (by omega))
          rw [← HE.out] at hrk
          have z0 := (hb9.cell (block_lt_of_cell K0.out)).trans K0.out
          have z1 := (hb9.cell (block_lt_of_cell K1.out)).trans K1.out
          have hneg : -nb = -nb := rfl
          clear HSP HSQ hb9 HFAR
          go_wp2_with fail
          refine hrk.mono ?_
          rintro e Z ⟨rfl, hbZ⟩
          have hbF := hbn.out.trans (hbZ.mono hbn.out.size)
          clear hrk hbZ
          go_wp2_with fail
          go_ret
          exact ⟨rfl, hbF⟩
end Go.Proofs.Ytoloiingodigpaa
