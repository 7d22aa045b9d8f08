import Derived.Test.YtoloiingodigpaaQC
import Derived.Test.YtoloiingodigpaaN
namespace Go.Proofs.Ytoloiingodigpaa
open Go.RowKit Go.Shelf
attribute [local go_sem] Oper.semAt_some litE
set_option maxRecDepth 100000
set_option maxHeartbeats 2000000

theorem countL_grid {sizes : List Int} {wrap : List Bool} (h : countL sizes wrap.length ≠ 0) : PGrid sizes wrap (countL sizes wrap.length) := by
  have ok := countL_ok h
  refine ⟨fun s hs => (ok.size s hs).1, ?_, ok.le, ok.wrap⟩
  have hcl : countL sizes wrap.length = cntF 1 sizes := by
    have h1 := ok.len1; have h2 := ok.len4; have h3 := ok.wrap
    unfold countL; rw [if_neg (by omega)]
  rw [hcl] at h ⊢
  have := cntF_mul sizes 1 (by omega) (by omega) h
  omega

/-- the error of Rank -/
def rankE (sizes : List Int) (wrap : List Bool) (xs : List Int) : Int := if countL sizes wrap.length = 0 then 2 else if xs.length ≠ sizes.length then 26 else if rankL 0 sizes wrap xs = -2 then 3 else 0

theorem Rank_any {w : World} {sa wa aa : Option Addr} {sizes xs : List Int} {wrap : List Bool} (h : Ints w sa sizes) (hw : Bools w wa wrap) (ha : Ints w aa xs) (sc wc ac : Nat) :
    Calls Try.prog 36 #[.agg #[.slice sa sizes.length sc, .slice wa wrap.length wc], .slice aa xs.length ac] w fun e w' => e = .returned (.tuple #[.int .i64 (if rankE sizes wrap xs = 0 then rankL 0 sizes wrap xs else 0), .int .i64 (rankE sizes wrap xs)]) ∧ Below w.heap.size w w' := by
  have hlen := h.len
  have hlenx := ha.len
  have hwlen := hw.len
  have hb0 : Below w.heap.size w (w.alloc (.cells #[.slice sa sizes.length sc, .slice wa wrap.length wc] 42)) := (Below.refl _ _).alloc (Nat.le_refl _) _
  have k0 : (w.alloc (.cells #[.slice sa sizes.length sc, .slice wa wrap.length wc] 42)).cell? ⟨w.heap.size, 0, none⟩ = some (.slice sa sizes.length sc) := by simp
  have k1 : (w.alloc (.cells #[.slice sa sizes.length sc, .slice wa wrap.length wc] 42)).cell? ⟨w.heap.size, 1, none⟩ = some (.slice wa wrap.length wc) := by simp
  have HH := Lib.hid (h.keep hb0)
  have HW := Lib.hid (hw.keep hb0)
  have HA := Lib.hid (ha.keep hb0)
  have hg := count_any (wa := wa) (h.keep hb0) sc wrap.length wc hwlen
  by_cases hc : countL sizes wrap.length = 0
  · have HN : Hid (rankE sizes wrap xs = 2) := by show _ = _; unfold rankE; rw [if_pos hc]
    rw [HN.out, if_neg (by decide)]
    rw [hc] at hg
    clear hc h hw ha
    go_enter Try.func36, Try.ntmps36
    go_wp2_with fail
    generalize w.alloc (.cells #[.slice sa sizes.length sc, .slice wa wrap.length wc] 42) = w0 at *
    refine hg.mono ?_
    rintro e X ⟨rfl, hb⟩
    have hbb := hb0.trans (hb.mono hb0.size)
    clear hg
    go_wp2_with fail
    go_ret2
    exact ⟨rfl, hbb⟩
  · have HG := Lib.hid (countL_ok hc)
    have hnb : (countL sizes wrap.length == 0) = false := beq_eq_false_iff_ne.2 hc
    by_cases hx : xs.length = sizes.length
    · have HRE : Hid (rankE sizes wrap xs = if rankL 0 sizes wrap xs = -2 then 3 else 0) := by show _ = _; unfold rankE; rw [if_neg hc, if_neg (by omega)]
      have HX1 := Lib.hid hx
      have hrk : ∀ X, Ints X sa sizes → Bools X wa wrap → Ints X aa xs → Calls Try.prog 81 #[.agg #[.slice sa sizes.length sc, .slice wa wrap.length wc], .slice aa sizes.length ac] X fun e w' => e = .returned (.int .i64 (rankL 0 sizes wrap xs)) ∧ Below X.heap.size X w' := fun X i1 i2 i3 => by
        have := rank_any i1 i2 i3 HG.out.size HG.out.wrap HX1.out sc wc ac
        rwa [HX1.out] at this
      have HRK := Lib.hid hrk
      rw [hx]
      generalize countL sizes wrap.length = n at *
      clear h hw ha hrk hc hx hlenx
      generalize rankL 0 sizes wrap xs = r at *
      by_cases hr : r = -2
      · have HN : Hid (rankE sizes wrap xs = 3) := by show _ = _; rw [HRE.out, if_pos hr]
        rw [HN.out, if_neg (by decide)]
        subst hr
        go_enter Try.func36, Try.ntmps36
        go_wp2_with fail
        generalize w.alloc (.cells #[.slice sa sizes.length sc, .slice wa wrap.length wc] 42) = w0 at *
        refine hg.mono ?_
        rintro e X ⟨rfl, hb⟩
        have hrk := HRK.out X (HH.out.keep hb) (HW.out.keep hb) (HA.out.keep hb)
        have k0' := (hb.cell (block_lt_of_cell k0)).trans k0
        have k1' := (hb.cell (block_lt_of_cell k1)).trans k1
        have hbb := hb0.trans (hb.mono hb0.size)
        clear hg k0 k1 hb hb0
        go_wp2_with fail
        refine hrk.mono ?_
        clear hrk
        rintro e Y ⟨rfl, hb2⟩
        go_wp2_with fail
        go_ret2
        exact ⟨rfl, hbb.trans (hb2.mono hbb.size)⟩
      · have HN : Hid (rankE sizes wrap xs = 0) := by show _ = _; rw [HRE.out, if_neg hr]
        rw [HN.out, if_pos rfl]
        have hr2 : (r == -2) = false := beq_eq_false_iff_ne.2 hr
        clear hr
        go_enter Try.func36, Try.ntmps36
        go_wp2_with fail
        generalize w.alloc (.cells #[.slice sa sizes.length sc, .slice wa wrap.length wc] 42) = w0 at *
        refine hg.mono ?_
        rintro e X ⟨rfl, hb⟩
        have hrk := HRK.out X (HH.out.keep hb) (HW.out.keep hb) (HA.out.keep hb)
        have k0' := (hb.cell (block_lt_of_cell k0)).trans k0
        have k1' := (hb.cell (block_lt_of_cell k1)).trans k1
        have hbb := hb0.trans (hb.mono hb0.size)
        clear hg k0 k1 hb hb0
        go_wp2_with fail
        refine hrk.mono ?_
        clear hrk
        rintro e Y ⟨rfl, hb2⟩
        go_wp2_with fail
        go_ret2
        exact ⟨rfl, hbb.trans (hb2.mono hbb.size)⟩
    · have HN : Hid (rankE sizes wrap xs = 26) := by show _ = _; unfold rankE; rw [if_neg hc, if_pos hx]
      rw [HN.out, if_neg (by decide)]
      generalize countL sizes wrap.length = n at *
      have hxn : ((xs.length : Int) == (sizes.length : Int)) = false := beq_eq_false_iff_ne.2 (by omega)
      have hxn2 : ((xs.length : Int) != (sizes.length : Int)) = true := by rw [bne_iff_ne]; omega
      clear h hw ha hc hx
      go_enter Try.func36, Try.ntmps36
      go_wp2_with fail
      generalize w.alloc (.cells #[.slice sa sizes.length sc, .slice wa wrap.length wc] 42) = w0 at *
      refine hg.mono ?_
      rintro e X ⟨rfl, hb⟩
      have k0' := (hb.cell (block_lt_of_cell k0)).trans k0
      have hbb := hb0.trans (hb.mono hb0.size)
      clear hg k0 k1 hb hb0
      go_wp2_with fail
      go_ret2
      exact ⟨rfl, hbb⟩

theorem Rank_ref {w : World} {sa wa aa : Option Addr} {sizes xs : List Int} {wrap : List Bool} (h : Ints w sa sizes) (hw : Bools w wa wrap) (ha : Ints w aa xs) (sc wc ac : Nat) (hxb : ∀ x ∈ xs, -9223372036854775808 ≤ x ∧ x ≤ 9223372036854775807) :
    Calls Try.prog 37 #[.agg #[.slice sa sizes.length sc, .slice wa wrap.length wc], .slice aa xs.length ac] w fun e w' => e = .returned (.tuple #[.int .i64 (if rankE sizes wrap xs = 0 then rankL 0 sizes wrap xs else 0), .int .i64 (rankE sizes wrap xs)]) ∧ Below w.heap.size w w' := by
  have hlen := h.len
  have hlenx := ha.len
  have hwlen := hw.len
  have hb0 : Below w.heap.size w (w.alloc (.cells #[.slice sa sizes.length sc, .slice wa wrap.length wc] 43)) := (Below.refl _ _).alloc (Nat.le_refl _) _
  have k0 : (w.alloc (.cells #[.slice sa sizes.length sc, .slice wa wrap.length wc] 43)).cell? ⟨w.heap.size, 0, none⟩ = some (.slice sa sizes.length sc) := by simp
  have k1 : (w.alloc (.cells #[.slice sa sizes.length sc, .slice wa wrap.length wc] 43)).cell? ⟨w.heap.size, 1, none⟩ = some (.slice wa wrap.length wc) := by simp
  have HH := Lib.hid (h.keep hb0)
  have HW := Lib.hid (hw.keep hb0)
  have HA := Lib.hid (ha.keep hb0)
  have hg := good_ref (wa := wa) (h.keep hb0) sc wrap.length wc hwlen
  obtain ⟨gc1, gc2⟩ := good_count sizes wrap.length
  have HX := Lib.hid hxb
  clear hxb
  by_cases hc : countL sizes wrap.length = 0
  · have HN : Hid (rankE sizes wrap xs = 2) := by show _ = _; unfold rankE; rw [if_pos hc]
    rw [HN.out, if_neg (by decide)]
    rw [gc2 hc] at hg
    generalize (goodV sizes wrap.length).1 = gv at *
    clear gc1 gc2
    clear hc h hw ha
    go_enter Try.func37, Try.ntmps37
    go_wp2_with fail
    generalize w.alloc (.cells #[.slice sa sizes.length sc, .slice wa wrap.length wc] 43) = w0 at *
    refine hg.mono ?_
    rintro e X ⟨rfl, hb⟩
    have hbb := hb0.trans (hb.mono hb0.size)
    clear hg
    go_wp2_with fail
    go_ret2
    exact ⟨rfl, hbb⟩
  · have HG := Lib.hid (countL_ok hc)
    rw [gc1 hc] at hg
    clear gc1 gc2
    by_cases hx : xs.length = sizes.length
    · have HRE : Hid (rankE sizes wrap xs = if rankL 0 sizes wrap xs = -2 then 3 else 0) := by show _ = _; unfold rankE; rw [if_neg hc, if_neg (by omega)]
      have HX1 := Lib.hid hx
      have hrk : ∀ X, Ints X sa sizes → Bools X wa wrap → Ints X aa xs → Calls Try.prog 83 #[.agg #[.slice sa sizes.length sc, .slice wa wrap.length wc], .slice aa sizes.length ac] X fun e w' => e = .returned (.int .i64 (rankL 0 sizes wrap xs)) ∧ Below X.heap.size X w' := fun X i1 i2 i3 => by
        have := rank_ref i1 i2 i3 HG.out.size HG.out.wrap HX1.out HX.out sc wc ac
        rwa [HX1.out] at this
      have HRK := Lib.hid hrk
      rw [hx]
      generalize countL sizes wrap.length = n at *
      clear h hw ha hrk hc hx hlenx
      generalize rankL 0 sizes wrap xs = r at *
      by_cases hr : r = -2
      · have HN : Hid (rankE sizes wrap xs = 3) := by show _ = _; rw [HRE.out, if_pos hr]
        rw [HN.out, if_neg (by decide)]
        subst hr
        go_enter Try.func37, Try.ntmps37
        go_wp2_with fail
        generalize w.alloc (.cells #[.slice sa sizes.length sc, .slice wa wrap.length wc] 43) = w0 at *
        refine hg.mono ?_
        rintro e X ⟨rfl, hb⟩
        have hrk := HRK.out X (HH.out.keep hb) (HW.out.keep hb) (HA.out.keep hb)
        have k0' := (hb.cell (block_lt_of_cell k0)).trans k0
        have k1' := (hb.cell (block_lt_of_cell k1)).trans k1
        have hbb := hb0.trans (hb.mono hb0.size)
        clear hg k0 k1 hb hb0
        go_wp2_with fail
        refine hrk.mono ?_
        clear hrk
        rintro e Y ⟨rfl, hb2⟩
        go_wp2_with fail
        go_ret2
        exact ⟨rfl, hbb.trans (hb2.mono hbb.size)⟩
      · have HN : Hid (rankE sizes wrap xs = 0) := by show _ = _; rw [HRE.out, if_neg hr]
        rw [HN.out, if_pos rfl]
        have hr2 : (r == -2) = false := beq_eq_false_iff_ne.2 hr
        clear hr
        go_enter Try.func37, Try.ntmps37
        go_wp2_with fail
        generalize w.alloc (.cells #[.slice sa sizes.length sc, .slice wa wrap.length wc] 43) = w0 at *
        refine hg.mono ?_
        rintro e X ⟨rfl, hb⟩
        have hrk := HRK.out X (HH.out.keep hb) (HW.out.keep hb) (HA.out.keep hb)
        have k0' := (hb.cell (block_lt_of_cell k0)).trans k0
        have k1' := (hb.cell (block_lt_of_cell k1)).trans k1
        have hbb := hb0.trans (hb.mono hb0.size)
        clear hg k0 k1 hb hb0
        go_wp2_with fail
        refine hrk.mono ?_
        clear hrk
        rintro e Y ⟨rfl, hb2⟩
        go_wp2_with fail
        go_ret2
        exact ⟨rfl, hbb.trans (hb2.mono hbb.size)⟩
    · have HN : Hid (rankE sizes wrap xs = 26) := by show _ = _; unfold rankE; rw [if_neg hc, if_pos hx]
      rw [HN.out, if_neg (by decide)]
      generalize countL sizes wrap.length = n at *
      have hxn : ((xs.length : Int) == (sizes.length : Int)) = false := beq_eq_false_iff_ne.2 (by omega)
      have hxn2 : ((xs.length : Int) != (sizes.length : Int)) = true := by rw [bne_iff_ne]; omega
      clear h hw ha hc hx
      go_enter Try.func37, Try.ntmps37
      go_wp2_with fail
      generalize w.alloc (.cells #[.slice sa sizes.length sc, .slice wa wrap.length wc] 43) = w0 at *
      refine hg.mono ?_
      rintro e X ⟨rfl, hb⟩
      have k0' := (hb.cell (block_lt_of_cell k0)).trans k0
      have hbb := hb0.trans (hb.mono hb0.size)
      clear hg k0 k1 hb hb0
      go_wp2_with fail
      go_ret2
      exact ⟨rfl, hbb⟩

theorem Coords_any {w : World} {sa wa : Option Addr} {sizes : List Int} {wrap : List Bool} (h : Ints w sa sizes) (hw : Bools w wa wrap) (sc wc : Nat) (r : Int) :
    Calls Try.prog 38 #[.agg #[.slice sa sizes.length sc, .slice wa wrap.length wc], .int .i64 r] w fun e w' => ∃ v, e = .returned (.tuple #[v, .int .i64 (gridErr sizes wrap.length r)]) ∧ NewInts w.heap.size w' v (if gridErr sizes wrap.length r = 0 then coordsL sizes r else []) ∧ Below w.heap.size w w' := by
  have hlen := h.len
  have hwlen := hw.len
  have hb0 : Below w.heap.size w (w.alloc (.cells #[.slice sa sizes.length sc, .slice wa wrap.length wc] 42)) := (Below.refl _ _).alloc (Nat.le_refl _) _
  have k0 : (w.alloc (.cells #[.slice sa sizes.length sc, .slice wa wrap.length wc] 42)).cell? ⟨w.heap.size, 0, none⟩ = some (.slice sa sizes.length sc) := by simp
  have k1 : (w.alloc (.cells #[.slice sa sizes.length sc, .slice wa wrap.length wc] 42)).cell? ⟨w.heap.size, 1, none⟩ = some (.slice wa wrap.length wc) := by simp
  have HH := Lib.hid (h.keep hb0)
  have hg := gcheck_any (wa := wa) (h.keep hb0) sc wrap.length wc hwlen r
  by_cases hE : gridErr sizes wrap.length r = 0
  · obtain ⟨hok, h0, hr⟩ := gridErr_ok hE
    rw [hE] at hg ⊢
    rw [if_pos rfl]
    have hnle := hok.le
    have HSZ := Lib.hid hok.size
    clear h hok hE hw
    go_enter Try.func38, Try.ntmps38
    go_wp2_with fail
    generalize w.alloc (.cells #[.slice sa sizes.length sc, .slice wa wrap.length wc] 42) = w0 at *
    refine hg.mono ?_
    rintro e X ⟨rfl, hb⟩
    have hco := coords_any (HH.out.keep hb) HSZ.out sc wrap.length wc r h0 (by omega) (wa := wa)
    have k0' := (hb.cell (block_lt_of_cell k0)).trans k0
    have k1' := (hb.cell (block_lt_of_cell k1)).trans k1
    have hbb := hb0.trans (hb.mono hb0.size)
    clear hg k0 k1 hb hb0
    go_wp2_with fail
    refine hco.mono ?_
    clear hco
    rintro e Y ⟨b, rfl, hbb2, hR, hb2⟩
    have hNI := hR.own (B := w.heap.size) (by have := hbb.size; omega) (by rw [coordsL_len]; exact hlen)
    rw [coordsL_len] at hNI
    have HNI := Lib.hid hNI
    have HLN := Lib.hid (coordsL_len sizes r)
    clear hR hNI
    go_wp2_with fail
    go_ret2
    exact ⟨_, rfl, ⟨by have := HNI.out.own; rw [HLN.out] at this ⊢; exact this, HNI.out.len⟩, hbb.trans (hb2.mono hbb.size)⟩
  · rw [if_neg hE]
    have hE2 : (gridErr sizes wrap.length r == 0) = false := beq_eq_false_iff_ne.2 hE
    have hE3 : (gridErr sizes wrap.length r != 0) = true := by rw [bne_iff_ne]; exact hE
    generalize gridErr sizes wrap.length r = er at *
    clear h hE hw
    go_enter Try.func38, Try.ntmps38
    go_wp2_with fail
    generalize w.alloc (.cells #[.slice sa sizes.length sc, .slice wa wrap.length wc] 42) = w0 at *
    refine hg.mono ?_
    rintro e X ⟨rfl, hb⟩
    have hbb := hb0.trans (hb.mono hb0.size)
    clear hg k0 k1 hb hb0
    go_wp2_with fail
    go_ret2
    exact ⟨_, rfl, ⟨World.ownsRow_nil _ _ _ _, by simp⟩, hbb⟩

theorem Coords_ref {w : World} {sa wa : Option Addr} {sizes : List Int} {wrap : List Bool} (h : Ints w sa sizes) (hw : Bools w wa wrap) (sc wc : Nat) (r : Int) :
    Calls Try.prog 39 #[.agg #[.slice sa sizes.length sc, .slice wa wrap.length wc], .int .i64 r] w fun e w' => ∃ v, e = .returned (.tuple #[v, .int .i64 (gridErr sizes wrap.length r)]) ∧ NewInts w.heap.size w' v (if gridErr sizes wrap.length r = 0 then coordsL sizes r else []) ∧ Below w.heap.size w w' := by
  have hlen := h.len
  have hwlen := hw.len
  have hb0 : Below w.heap.size w (w.alloc (.cells #[.slice sa sizes.length sc, .slice wa wrap.length wc] 43)) := (Below.refl _ _).alloc (Nat.le_refl _) _
  have k0 : (w.alloc (.cells #[.slice sa sizes.length sc, .slice wa wrap.length wc] 43)).cell? ⟨w.heap.size, 0, none⟩ = some (.slice sa sizes.length sc) := by simp
  have k1 : (w.alloc (.cells #[.slice sa sizes.length sc, .slice wa wrap.length wc] 43)).cell? ⟨w.heap.size, 1, none⟩ = some (.slice wa wrap.length wc) := by simp
  have HH := Lib.hid (h.keep hb0)
  have hg := in_ref (wa := wa) (h.keep hb0) sc wrap.length wc hwlen r
  by_cases hE : gridErr sizes wrap.length r = 0
  · obtain ⟨hok, h0, hr⟩ := gridErr_ok hE
    rw [hE] at hg ⊢
    rw [if_pos rfl]
    have hnle := hok.le
    have HSZ := Lib.hid hok.size
    clear h hok hE hw
    go_enter Try.func39, Try.ntmps39
    go_wp2_with fail
    generalize w.alloc (.cells #[.slice sa sizes.length sc, .slice wa wrap.length wc] 43) = w0 at *
    refine hg.mono ?_
    rintro e X ⟨rfl, hb⟩
    have hco := coords_ref (HH.out.keep hb) HSZ.out sc wrap.length wc r h0 (by omega) (wa := wa)
    have k0' := (hb.cell (block_lt_of_cell k0)).trans k0
    have k1' := (hb.cell (block_lt_of_cell k1)).trans k1
    have hbb := hb0.trans (hb.mono hb0.size)
    clear hg k0 k1 hb hb0
    go_wp2_with fail
    refine hco.mono ?_
    clear hco
    rintro e Y ⟨b, rfl, hbb2, hR, hb2⟩
    have hNI := hR.own (B := w.heap.size) (by have := hbb.size; omega) (by rw [coordsL_len]; exact hlen)
    rw [coordsL_len] at hNI
    have HNI := Lib.hid hNI
    have HLN := Lib.hid (coordsL_len sizes r)
    clear hR hNI
    go_wp2_with fail
    go_ret2
    exact ⟨_, rfl, ⟨by have := HNI.out.own; rw [HLN.out] at this ⊢; exact this, HNI.out.len⟩, hbb.trans (hb2.mono hbb.size)⟩
  · rw [if_neg hE]
    have hE2 : (gridErr sizes wrap.length r == 0) = false := beq_eq_false_iff_ne.2 hE
    have hE3 : (gridErr sizes wrap.length r != 0) = true := by rw [bne_iff_ne]; exact hE
    generalize gridErr sizes wrap.length r = er at *
    clear h hE hw
    go_enter Try.func39, Try.ntmps39
    go_wp2_with fail
    generalize w.alloc (.cells #[.slice sa sizes.length sc, .slice wa wrap.length wc] 43) = w0 at *
    refine hg.mono ?_
    rintro e X ⟨rfl, hb⟩
    have hbb := hb0.trans (hb.mono hb0.size)
    clear hg k0 k1 hb hb0
    go_wp2_with fail
    go_ret2
    exact ⟨_, rfl, ⟨World.ownsRow_nil _ _ _ _, by simp⟩, hbb⟩

end Go.Proofs.Ytoloiingodigpaa
