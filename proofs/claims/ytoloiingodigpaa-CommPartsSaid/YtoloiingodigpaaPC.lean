import Derived.Test.YtoloiingodigpaaPB
namespace Go.Proofs.Ytoloiingodigpaa
open Go.RowKit Go.Shelf
attribute [local go_sem] Oper.semAt_some
set_option maxRecDepth 100000
set_option maxHeartbeats 2000000

theorem PGrid.sz {sizes : List Int} {wrap : List Bool} {n : Int} (g : PGrid sizes wrap n) : ∀ s ∈ sizes, 1 ≤ s ∧ s ≤ 64 := fun s hs => by
  obtain ⟨i, hi, rfl⟩ := List.getElem_of_mem hs
  have := g.size_le i hi
  simpa [List.getD, hi] using this
theorem PGrid.count {sizes : List Int} {wrap : List Bool} {n : Int} (g : PGrid sizes wrap n) (h1 : 1 ≤ sizes.length) (h4 : sizes.length ≤ 4) : countL sizes wrap.length = n := by
  unfold countL
  rw [if_neg (by have := g.wl; omega), cntF_prod sizes 1 (Int.le_refl _) g.pos (by rw [g.prod]; have := g.le; omega), g.prod]
  omega
theorem PGrid.gerr {sizes : List Int} {wrap : List Bool} {n : Int} (g : PGrid sizes wrap n) (h1 : 1 ≤ sizes.length) (h4 : sizes.length ≤ 4) {r : Int} (h0 : 0 ≤ r) (hr : r < n) : gridErr sizes wrap.length r = 0 := by
  unfold gridErr
  rw [g.count h1 h4, if_neg (by omega), if_neg (by omega)]
theorem PGrid.serr {sizes : List Int} {wrap : List Bool} {n : Int} (g : PGrid sizes wrap n) (h1 : 1 ≤ sizes.length) (h4 : sizes.length ≤ 4) {r : Int} (h0 : 0 ≤ r) (hr : r < n) (d : Nat) (hd : d < sizes.length) : shiftE sizes wrap.length r d = 0 := by
  unfold shiftE
  rw [g.gerr h1 h4 h0 hr, if_neg (by simp), if_neg (by omega)]

theorem Coords_ok {w : World} {sa wa : Option Addr} {sizes : List Int} {wrap : List Bool} {n : Int} (g : PGrid sizes wrap n) (h1 : 1 ≤ sizes.length) (h4 : sizes.length ≤ 4) (h : Ints w sa sizes) (sc wc : Nat) (r : Int) (h0 : 0 ≤ r) (hr : r < n) :
    Calls Try.prog 38 #[.agg #[.slice sa sizes.length sc, .slice wa wrap.length wc], .int .i64 r] w fun e w' => ∃ v, e = .returned (.tuple #[v, .int .i64 0]) ∧ NewInts w.heap.size w' v (coordsL sizes r) ∧ Below w.heap.size w w' := by
  have hlen := h.len
  have hb0 : Below w.heap.size w (w.alloc (.cells #[.slice sa sizes.length sc, .slice wa wrap.length wc] 42)) := (Below.refl _ _).alloc (Nat.le_refl _) _
  have k0 : (w.alloc (.cells #[.slice sa sizes.length sc, .slice wa wrap.length wc] 42)).cell? ⟨w.heap.size, 0, none⟩ = some (.slice sa sizes.length sc) := by simp
  have k1 : (w.alloc (.cells #[.slice sa sizes.length sc, .slice wa wrap.length wc] 42)).cell? ⟨w.heap.size, 1, none⟩ = some (.slice wa wrap.length wc) := by simp
  have HH := Lib.hid (h.keep hb0)
  have hg := gcheck_any (wa := wa) (h.keep hb0) sc wrap.length wc (by rw [g.wl]; exact hlen) r
  rw [g.gerr h1 h4 h0 hr] at hg
  have hnle := g.le
  have HSZ := Lib.hid g.sz
  clear h g h1 h4
  go_enter Try.func38, Try.ntmps38
  go_wp2_with fail
  generalize w.alloc (.cells #[.slice sa sizes.length sc, .slice wa wrap.length wc] 42) = w0 at *
  refine hg.mono ?_
  rintro e X ⟨rfl, hb⟩
  have hco := coords_any (HH.out.keep hb) HSZ.out sc wrap.length wc r h0 (by omega) (wa := wa)
  have k0' := (hb.cell (block_lt_of_cell k0)).trans k0
  have k1' := (hb.cell (block_lt_of_cell k1)).trans k1
  have hbb := hb0.trans (hb.mono hb0.size)
  clear hg k0 k1 hb hb0
  go_wp2_with fail
  refine hco.mono ?_
  clear hco
  rintro e Y ⟨b, rfl, hbb2, hR, hb2⟩
  have hNI := hR.own (B := w.heap.size) (by have := hbb.size; omega) (by rw [coordsL_len]; exact hlen)
  rw [coordsL_len] at hNI
  have HNI := Lib.hid hNI
  have HLN := Lib.hid (coordsL_len sizes r)
  clear hR hNI
  go_wp2_with fail
  go_ret2
  exact ⟨_, rfl, ⟨by have := HNI.out.own; rw [HLN.out] at this ⊢; exact this, HNI.out.len⟩, hbb.trans (hb2.mono hbb.size)⟩

theorem Rank_ok {w : World} {sa wa aa : Option Addr} {sizes xs : List Int} {wrap : List Bool} {n : Int} (g : PGrid sizes wrap n) (h1 : 1 ≤ sizes.length) (h4 : sizes.length ≤ 4) (h : Ints w sa sizes) (hw : Bools w wa wrap) (ha : Ints w aa xs) (sc wc ac : Nat) (hx : xs.length = sizes.length) (r : Int) (hr : rankL 0 sizes wrap xs = r) (h0 : 0 ≤ r) :
    Calls Try.prog 36 #[.agg #[.slice sa sizes.length sc, .slice wa wrap.length wc], .slice aa sizes.length ac] w fun e w' => e = .returned (.tuple #[.int .i64 r, .int .i64 0]) ∧ Below w.heap.size w w' := by
  have hlen := h.len
  have hb0 : Below w.heap.size w (w.alloc (.cells #[.slice sa sizes.length sc, .slice wa wrap.length wc] 42)) := (Below.refl _ _).alloc (Nat.le_refl _) _
  have k0 : (w.alloc (.cells #[.slice sa sizes.length sc, .slice wa wrap.length wc] 42)).cell? ⟨w.heap.size, 0, none⟩ = some (.slice sa sizes.length sc) := by simp
  have k1 : (w.alloc (.cells #[.slice sa sizes.length sc, .slice wa wrap.length wc] 42)).cell? ⟨w.heap.size, 1, none⟩ = some (.slice wa wrap.length wc) := by simp
  have HH := Lib.hid (h.keep hb0)
  have HW := Lib.hid (hw.keep hb0)
  have HA := Lib.hid (ha.keep hb0)
  have hg := count_any (wa := wa) (h.keep hb0) sc wrap.length wc (by rw [g.wl]; exact hlen)
  rw [g.count h1 h4] at hg
  have hn1 : 1 ≤ n := by
    have := prodL_pos sizes g.pos
    rw [g.prod] at this; exact this
  have hnb : (n == 0) = false := beq_eq_false_iff_ne.2 (by omega)
  have hnle := g.le
  have HG := Lib.hid g
  have HX := Lib.hid hx
  have HR := Lib.hid hr
  clear h hw ha g h1 h4 hx hr
  go_enter Try.func36, Try.ntmps36
  go_wp2_with fail
  generalize w.alloc (.cells #[.slice sa sizes.length sc, .slice wa wrap.length wc] 42) = w0 at *
  refine hg.mono ?_
  rintro e X ⟨rfl, hb⟩
  have hrk := rank_any (HH.out.keep hb) (HW.out.keep hb) (HA.out.keep hb) HG.out.sz HG.out.wl HX.out sc wc ac
  rw [HR.out, HX.out] at hrk
  have k0' := (hb.cell (block_lt_of_cell k0)).trans k0
  have k1' := (hb.cell (block_lt_of_cell k1)).trans k1
  have hbb := hb0.trans (hb.mono hb0.size)
  clear hg k0 k1 hb hb0
  have hr2 : (r == -2) = false := beq_eq_false_iff_ne.2 (by omega)
  go_wp2_with fail
  refine hrk.mono ?_
  clear hrk
  rintro e Y ⟨rfl, hb2⟩
  go_wp2_with fail
  go_ret2
  exact ⟨rfl, hbb.trans (hb2.mono hbb.size)⟩

theorem Shift_ok {w : World} {sa wa : Option Addr} {sizes : List Int} {wrap : List Bool} {n : Int} (g : PGrid sizes wrap n) (h1 : 1 ≤ sizes.length) (h4 : sizes.length ≤ 4) (h : Ints w sa sizes) (hw : Bools w wa wrap) (sc wc : Nat) (r : Int) (h0 : 0 ≤ r) (hr : r < n) (d : Nat) (hd : d < sizes.length) (by' : Int) :
    Calls Try.prog 40 #[.agg #[.slice sa sizes.length sc, .slice wa wrap.length wc], .int .i64 r, .int .i64 d, .int .i64 by'] w fun e w' => e = .returned (.tuple #[.int .i64 (shiftP sizes wrap r d by'), .int .i64 (shiftQ sizes wrap r d by'), .int .i64 0]) ∧ Below w.heap.size w w' := by
  have hs := Shift_any h hw sc wc r (d : Int) by'
  rw [g.serr h1 h4 h0 hr d hd, if_pos rfl, if_pos rfl, Int.toNat_natCast] at hs
  exact hs

theorem leads_true {w : World} {sa wa : Option Addr} {sizes : List Int} {wrap : List Bool} {n : Int} (g : PGrid sizes wrap n) (h1 : 1 ≤ sizes.length) (h4 : sizes.length ≤ 4) (h : Ints w sa sizes) (hw : Bools w wa wrap) (sc wc : Nat) (r : Int) (h0 : 0 ≤ r) (hr : r < n) (d : Nat) (hd : d < sizes.length) (by' : Int) (hbd : -9223372036854775808 ≤ by' ∧ by' ≤ 9223372036854775807) :
    Calls Try.prog 58 #[.agg #[.slice sa sizes.length sc, .slice wa wrap.length wc], .int .i64 r, .int .i64 d, .int .i64 by'] w fun e w' => e = .returned (.bool true) ∧ Below w.heap.size w w' := by
  have hlen := h.len
  have hb0 : Below w.heap.size w (w.alloc (.cells #[.slice sa sizes.length sc, .slice wa wrap.length wc] 42)) := (Below.refl _ _).alloc (Nat.le_refl _) _
  have k0 : (w.alloc (.cells #[.slice sa sizes.length sc, .slice wa wrap.length wc] 42)).cell? ⟨w.heap.size, 0, none⟩ = some (.slice sa sizes.length sc) := by simp
  have k1 : (w.alloc (.cells #[.slice sa sizes.length sc, .slice wa wrap.length wc] 42)).cell? ⟨w.heap.size, 1, none⟩ = some (.slice wa wrap.length wc) := by simp
  have HH := Lib.hid (h.keep hb0)
  have HW := Lib.hid (hw.keep hb0)
  have HL := Lib.hid (g.leads h0 hr d hd by' hbd)
  have hsh := Shift_ok g h1 h4 HH.out HW.out sc wc r h0 hr d hd by'
  have hdw : d < wrap.length := by rw [g.wl]; exact hd
  have hwl := g.wl
  have HG := Lib.hid g
  have HB := Lib.hid hb0
  obtain ⟨p, hp⟩ : ∃ p, p = shiftP sizes wrap r d by' := ⟨_, rfl⟩
  obtain ⟨q, hq⟩ : ∃ q, q = shiftQ sizes wrap r d by' := ⟨_, rfl⟩
  rw [← hp, ← hq] at HL hsh
  clear hp hq h hw hb0 g hwl
  go_enter Try.func58, Try.ntmps58
  go_wp2_with fail
  generalize w.alloc (.cells #[.slice sa sizes.length sc, .slice wa wrap.length wc] 42) = w0 at *
  refine hsh.mono ?_
  clear hsh
  rintro e X ⟨rfl, hb⟩
  have k0' := (hb.cell (block_lt_of_cell k0)).trans k0
  have k1' := (hb.cell (block_lt_of_cell k1)).trans k1
  have HH := Lib.hid (HH.out.keep hb)
  have HW := Lib.hid (HW.out.keep hb)
  have HB := Lib.hid (HB.out.trans (hb.mono HB.out.size))
  clear k0 k1 hb
  obtain ⟨gw, ow, rfl, hcw⟩ := HW.out.at_ (by intro e; simp [e] at hdw)
  have cw := hcw d hdw
  clear hcw
  have hgd : wrap.getD d false = wrap[d] := by simp [List.getD, hdw]
  rw [hgd] at HL
  clear hgd
  have hfin : q ≠ -2 → True := fun _ => trivial
  cases hwd : wrap[d] with
  | true =>
    rw [hwd] at cw HL
    have hp2 : (p == -2) = false := beq_eq_false_iff_ne.2 (HL.out.1 rfl).1
    have hq2 := (HL.out.1 rfl).2
    have hq2' : (q == -2) = false := beq_eq_false_iff_ne.2 hq2
    have hq2n : (q != -2) = true := by rw [bne_iff_ne]; exact hq2
    obtain ⟨q0, q1, q3, q4⟩ := HL.out.2 hq2
    have Q3 := Lib.hid q3
    have Q4 := Lib.hid q4
    clear q3 q4 hfin hq2 hwd
    go_wp2_with fail
    have hs2 := Shift_ok HG.out h1 h4 HH.out HW.out sc wc q q0 q1 d hd by'
    rw [Q3.out] at hs2
    obtain ⟨x2, hx2⟩ : ∃ x2, x2 = shiftQ sizes wrap q d by' := ⟨_, rfl⟩
    rw [← hx2] at hs2
    clear hx2
    refine hs2.mono ?_
    clear hs2
    rintro e Y ⟨rfl, hbY⟩
    have k0'' := (hbY.cell (block_lt_of_cell k0')).trans k0'
    have k1'' := (hbY.cell (block_lt_of_cell k1')).trans k1'
    have HH := Lib.hid (HH.out.keep hbY)
    have HW := Lib.hid (HW.out.keep hbY)
    have HB := Lib.hid (HB.out.trans (hbY.mono HB.out.size))
    clear k0' k1' cw hbY
    have hs3 := Shift_ok HG.out h1 h4 HH.out HW.out sc wc q q0 q1 d hd (wrap64 (-by'))
    go_wp2_with fail
    obtain ⟨x3, hx3⟩ : ∃ x3, x3 = shiftP sizes wrap q d (wrap64 (-by')) := ⟨_, rfl⟩
    obtain ⟨y3, hy3⟩ : ∃ y3, y3 = shiftQ sizes wrap q d (wrap64 (-by')) := ⟨_, rfl⟩
    rw [← hx3, ← hy3] at hs3
    rw [← hy3] at Q4
    clear hx3 hy3
    refine hs3.mono ?_
    clear hs3
    rintro e Z ⟨rfl, hbZ⟩
    have HB := Lib.hid (HB.out.trans (hbZ.mono HB.out.size))
    clear hbZ k0'' k1''
    by_cases hne : by' = wrap64 (-by')
    · have h7 : by' = 0 ∨ by' = -9223372036854775808 := by unfold wrap64 at hne; omega
      clear hne Q4 HL Q3
      rcases h7 with rfl | rfl
      · go_wp2_with fail
        go_ret
        exact ⟨rfl, HB.out⟩
      · have hwm : wrap64 9223372036854775808 = -9223372036854775808 := by unfold wrap64; omega
        go_wp2_with fail
        go_ret
        exact ⟨rfl, HB.out⟩
    · have hy := Q4.out hne
      have h7 : by' ≠ 0 ∧ -9223372036854775807 ≤ by' := by unfold wrap64 at hne; omega
      have hlo := h7.2
      have hhi := hbd.2
      have hnb : (by' != -by') = true := by rw [bne_iff_ne]; omega
      have hnb2 : (by' == -by') = false := beq_eq_false_iff_ne.2 (by omega)
      have hnb3 : ¬ by' = -by' := by omega
      subst hy
      clear hne Q4 h7 HL Q3
      go_wp2_with fail
      go_ret
      exact ⟨rfl, HB.out⟩
  | false =>
    rw [hwd] at cw HL
    by_cases hq2 : q = -2
    · subst hq2
      clear HL hfin hwd
      go_wp2_with fail
      go_ret
      exact ⟨rfl, HB.out⟩
    · have hq2' : (q == -2) = false := beq_eq_false_iff_ne.2 hq2
      have hq2n : (q != -2) = true := by rw [bne_iff_ne]; exact hq2
      obtain ⟨q0, q1, q3, q4⟩ := HL.out.2 hq2
      have Q3 := Lib.hid q3
      have Q4 := Lib.hid q4
      clear q3 q4 hfin hq2 hwd
      go_wp2_with fail
      have hs2 := Shift_ok HG.out h1 h4 HH.out HW.out sc wc q q0 q1 d hd by'
      rw [Q3.out] at hs2
      obtain ⟨x2, hx2⟩ : ∃ x2, x2 = shiftQ sizes wrap q d by' := ⟨_, rfl⟩
      rw [← hx2] at hs2
      clear hx2
      refine hs2.mono ?_
      clear hs2
      rintro e Y ⟨rfl, hbY⟩
      have k0'' := (hbY.cell (block_lt_of_cell k0')).trans k0'
      have k1'' := (hbY.cell (block_lt_of_cell k1')).trans k1'
      have HH := Lib.hid (HH.out.keep hbY)
      have HW := Lib.hid (HW.out.keep hbY)
      have HB := Lib.hid (HB.out.trans (hbY.mono HB.out.size))
      clear k0' k1' cw hbY
      have hs3 := Shift_ok HG.out h1 h4 HH.out HW.out sc wc q q0 q1 d hd (wrap64 (-by'))
      go_wp2_with fail
      obtain ⟨x3, hx3⟩ : ∃ x3, x3 = shiftP sizes wrap q d (wrap64 (-by')) := ⟨_, rfl⟩
      obtain ⟨y3, hy3⟩ : ∃ y3, y3 = shiftQ sizes wrap q d (wrap64 (-by')) := ⟨_, rfl⟩
      rw [← hx3, ← hy3] at hs3
      rw [← hy3] at Q4
      clear hx3 hy3
      refine hs3.mono ?_
      clear hs3
      rintro e Z ⟨rfl, hbZ⟩
      have HB := Lib.hid (HB.out.trans (hbZ.mono HB.out.size))
      clear hbZ k0'' k1''
      by_cases hne : by' = wrap64 (-by')
      · have h7 : by' = 0 ∨ by' = -9223372036854775808 := by unfold wrap64 at hne; omega
        clear hne Q4 HL Q3
        rcases h7 with rfl | rfl
        · go_wp2_with fail
          go_ret
          exact ⟨rfl, HB.out⟩
        · have hwm : wrap64 9223372036854775808 = -9223372036854775808 := by unfold wrap64; omega
          go_wp2_with fail
          go_ret
          exact ⟨rfl, HB.out⟩
      · have hy := Q4.out hne
        have h7 : by' ≠ 0 ∧ -9223372036854775807 ≤ by' := by unfold wrap64 at hne; omega
        have hlo := h7.2
        have hhi := hbd.2
        have hnb : (by' != -by') = true := by rw [bne_iff_ne]; omega
        have hnb2 : (by' == -by') = false := beq_eq_false_iff_ne.2 (by omega)
        have hnb3 : ¬ by' = -by' := by omega
        subst hy
        clear hne Q4 h7 HL Q3
        go_wp2_with fail
        go_ret
        exact ⟨rfl, HB.out⟩
end Go.Proofs.Ytoloiingodigpaa
