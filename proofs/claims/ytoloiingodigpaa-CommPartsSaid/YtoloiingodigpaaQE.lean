import Derived.Test.YtoloiingodigpaaQD
namespace Go.Proofs.Ytoloiingodigpaa
open Go.RowKit Go.Shelf
attribute [local go_sem] Oper.semAt_some litE
set_option maxRecDepth 100000
set_option maxHeartbeats 2000000

theorem Shift_ref {w : World} {sa wa : Option Addr} {sizes : List Int} {wrap : List Bool} (h : Ints w sa sizes) (hw : Bools w wa wrap) (sc wc : Nat) (r d by' : Int) (hby : -9223372036854775808 ≤ by' ∧ by' ≤ 9223372036854775807) :
    Calls Try.prog 41 #[.agg #[.slice sa sizes.length sc, .slice wa wrap.length wc], .int .i64 r, .int .i64 d, .int .i64 by'] w fun e w' => e = .returned (.tuple #[.int .i64 (if shiftE sizes wrap.length r d = 0 then shiftP sizes wrap r d.toNat by' else 0), .int .i64 (if shiftE sizes wrap.length r d = 0 then shiftQ sizes wrap r d.toNat by' else 0), .int .i64 (shiftE sizes wrap.length r d)]) ∧ Below w.heap.size w w' := by
  have hlen := h.len
  have hwlen := hw.len
  have h0 := (Below.refl w.heap.size w).alloc (Nat.le_refl _) (.cells #[.slice sa sizes.length sc, .slice wa wrap.length wc] 43)
  have A0 := h.keep h0
  have A1 := hw.keep h0
  have e0 : (w.alloc (.cells #[.slice sa sizes.length sc, .slice wa wrap.length wc] 43)).cell? ⟨w.heap.size, 0, none⟩ = some (.slice sa sizes.length sc) := by simp
  have e1 : (w.alloc (.cells #[.slice sa sizes.length sc, .slice wa wrap.length wc] 43)).cell? ⟨w.heap.size, 1, none⟩ = some (.slice wa wrap.length wc) := by simp
  have hck := in_ref A0 sc wrap.length wc (wa := wa) hwlen r
  have hzw : (w.alloc (.cells #[.slice sa sizes.length sc, .slice wa wrap.length wc] 43)).heap.size = w.heap.size + 1 := by simp
  by_cases hg : gridErr sizes wrap.length r = 0
  · obtain ⟨hok, r0, r1⟩ := gridErr_ok hg
    have hle := hok.le
    by_cases hd : d < 0
    · have HV : Hid (shiftE sizes wrap.length r d = 3) := by show _ = _; unfold shiftE; rw [if_neg (by simp [hg]), if_pos (.inl hd)]
      rw [HV.out, if_neg (by decide), if_neg (by decide)]
      rw [hg] at hck
      clear hg
      go_enter Try.func41, Try.ntmps41
      go_wp2_with fail
      generalize w.alloc (.cells #[.slice sa sizes.length sc, .slice wa wrap.length wc] 43) = W at *
      refine hck.mono ?_
      rintro e X ⟨rfl, hb⟩
      have hbb := h0.trans (hb.mono h0.size)
      clear hck hb
      go_wp2_with fail
      go_ret3
      exact ⟨rfl, hbb⟩
    · by_cases hd2 : (sizes.length : Int) ≤ d
      · have HV : Hid (shiftE sizes wrap.length r d = 3) := by show _ = _; unfold shiftE; rw [if_neg (by simp [hg]), if_pos (.inr hd2)]
        rw [HV.out, if_neg (by decide), if_neg (by decide)]
        rw [hg] at hck
        clear hg
        go_enter Try.func41, Try.ntmps41
        go_wp2_with fail
        generalize w.alloc (.cells #[.slice sa sizes.length sc, .slice wa wrap.length wc] 43) = W at *
        refine hck.mono ?_
        rintro e X ⟨rfl, hb⟩
        have f0 := kcell hb e0
        have f1 := kcell hb e1
        have hbb := h0.trans (hb.mono h0.size)
        clear hck hb
        go_wp2_with fail
        go_ret3
        exact ⟨rfl, hbb⟩
      · have HV : Hid (shiftE sizes wrap.length r d = 0) := by show _ = _; unfold shiftE; rw [if_neg (by simp [hg]), if_neg (by omega)]
        rw [HV.out, if_pos rfl, if_pos rfl]
        rw [hg] at hck
        have hcn : countL sizes wrap.length ≠ 0 := by have := hok.pos; omega
        have hgrid := countL_grid hcn
        obtain ⟨dn, rfl⟩ := Int.eq_ofNat_of_zero_le (show 0 ≤ d by omega)
        simp only [Int.toNat_natCast]
        have hdn : dn < sizes.length := by omega
        have hsh := Lib.hid (fun (X : World) (back : Bool) (i : Ints X sa sizes) (j : Bools X wa wrap) => moved_ref hgrid i j sc wc r r0 r1 dn hdn by' hby back)
        have callA : ∀ X, Ints X sa sizes → Bools X wa wrap → Calls Try.prog 89 #[.agg #[.slice sa sizes.length sc, .slice wa wrap.length wc], .int .i64 r, .int .i64 dn, .int .i64 by', .bool true] X fun e w' => e = .returned (.int .i64 (shiftP sizes wrap r dn by')) ∧ Below X.heap.size X w' := fun X i j => hsh.out X true i j
        have callB : ∀ X, Ints X sa sizes → Bools X wa wrap → Calls Try.prog 89 #[.agg #[.slice sa sizes.length sc, .slice wa wrap.length wc], .int .i64 r, .int .i64 dn, .int .i64 by', .bool false] X fun e w' => e = .returned (.int .i64 (shiftQ sizes wrap r dn by')) ∧ Below X.heap.size X w' := fun X i j => hsh.out X false i j
        generalize shiftP sizes wrap r dn by' = sp at *
        generalize shiftQ sizes wrap r dn by' = sq at *
        clear hg hok hd hsh hgrid hcn HV hby
        go_enter Try.func41, Try.ntmps41
        go_wp2_with fail
        generalize w.alloc (.cells #[.slice sa sizes.length sc, .slice wa wrap.length wc] 43) = W at *
        refine hck.mono ?_
        rintro e X ⟨rfl, hb⟩
        have f0 := kcell hb e0
        have f1 := kcell hb e1
        have B0 := A0.keep hb
        have B1 := A1.keep hb
        have hbX := h0.trans (hb.mono h0.size)
        clear hck A0 A1 e0 e1 hb h0
        go_wp2_with fail
        have D0 : Ints X.drew sa sizes := B0.keep ((Below.refl _ X).drew)
        have D1 : Bools X.drew wa wrap := B1.keep ((Below.refl _ X).drew)
        have D4 : X.drew.cell? ⟨w.heap.size, 0, none⟩ = some (.slice sa sizes.length sc) := f0
        have D5 : X.drew.cell? ⟨w.heap.size, 1, none⟩ = some (.slice wa wrap.length wc) := f1
        have D6 : Below w.heap.size w X.drew := hbX.drew
        clear B0 B1 f0 f1 hbX
        go_region_held3 (fun w' => Ints w' sa sizes ∧ Bools w' wa wrap ∧ Below w.heap.size w w' ∧ w'.cell? ⟨w.heap.size, 0, none⟩ = some (.slice sa sizes.length sc) ∧ w'.cell? ⟨w.heap.size, 1, none⟩ = some (.slice wa wrap.length wc))
          (first | exact ⟨D0, D1, D6, D4, D5⟩ | exact ⟨by assumption, by assumption, by assumption, by assumption, by assumption⟩)
          ((go_at_call 89; (first | (with_reducible refine (callA _ (by assumption) (by assumption)).mono ?_) | (with_reducible refine (callB _ (by assumption) (by assumption)).mono ?_)); (first | (have _hh := hbel3; (rintro e w4 ⟨rfl, hbel4⟩; have hI4 := Ints.keep (show Ints _ sa sizes by assumption) hbel4; have hJ4 := Bools.keep (show Bools _ wa wrap by assumption) hbel4; have hC4 := kcell hbel4 (show _ = some (.slice sa sizes.length sc) by assumption); have hD4 := kcell hbel4 (show _ = some (.slice wa wrap.length wc) by assumption); have hB4 := Below.trans (show Below w.heap.size w _ by assumption) (hbel4.mono (Below.size (show Below w.heap.size w _ by assumption))))) | (rintro e w3 ⟨rfl, hbel3⟩; have hI3 := Ints.keep (show Ints _ sa sizes by assumption) hbel3; have hJ3 := Bools.keep (show Bools _ wa wrap by assumption) hbel3; have hC3 := kcell hbel3 (show _ = some (.slice sa sizes.length sc) by assumption); have hD3 := kcell hbel3 (show _ = some (.slice wa wrap.length wc) by assumption); have hB3 := Below.trans (show Below w.heap.size w _ by assumption) (hbel3.mono (Below.size (show Below w.heap.size w _ by assumption)))))))
        clear D0 D1 D4 D5 D6
        go_wp2
        go_ret3
        exact ⟨rfl, hB4⟩
  · have HV : Hid (shiftE sizes wrap.length r d = gridErr sizes wrap.length r) := by show _ = _; unfold shiftE; rw [if_pos hg]
    rw [HV.out, if_neg hg, if_neg hg]
    have hE2 : (gridErr sizes wrap.length r == 0) = false := beq_eq_false_iff_ne.2 hg
    have hE3 : (gridErr sizes wrap.length r != 0) = true := by rw [bne_iff_ne]; exact hg
    generalize gridErr sizes wrap.length r = er at *
    clear hg HV
    go_enter Try.func41, Try.ntmps41
    go_wp2_with fail
    generalize w.alloc (.cells #[.slice sa sizes.length sc, .slice wa wrap.length wc] 43) = W at *
    refine hck.mono ?_
    rintro e X ⟨rfl, hb⟩
    have hbb := h0.trans (hb.mono h0.size)
    clear hck hb
    go_wp2_with fail
    go_ret3
    exact ⟨rfl, hbb⟩

end Go.Proofs.Ytoloiingodigpaa
