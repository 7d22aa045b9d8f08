import Derived.Test.YtoloiingodigpaaQA
namespace Go.Proofs.Ytoloiingodigpaa
open Go.RowKit Go.Shelf
attribute [local go_sem] Oper.semAt_some litE
set_option maxRecDepth 100000
set_option maxHeartbeats 2000000

theorem in_ref {w : World} {sa wa : Option Addr} {sizes : List Int} (h : Ints w sa sizes) (sc wl wc : Nat) (hwl : wl ≤ 17592186044416) (r : Int) :
    Calls Try.prog 86 #[.agg #[.slice sa sizes.length sc, .slice wa wl wc], .int .i64 r] w fun e w' => e = .returned (.int .i64 (gridErr sizes wl r)) ∧ Below w.heap.size w w' := by
  have hb0 : Below w.heap.size w (w.alloc (.cells #[.slice sa sizes.length sc, .slice wa wl wc] 43)) := (Below.refl _ _).alloc (Nat.le_refl _) _
  have k0 : (w.alloc (.cells #[.slice sa sizes.length sc, .slice wa wl wc] 43)).cell? ⟨w.heap.size, 0, none⟩ = some (.slice sa sizes.length sc) := by simp
  have k1 : (w.alloc (.cells #[.slice sa sizes.length sc, .slice wa wl wc] 43)).cell? ⟨w.heap.size, 1, none⟩ = some (.slice wa wl wc) := by simp
  have hg := good_ref (wa := wa) (h.keep hb0) sc wl wc hwl
  obtain ⟨g1, g2⟩ := good_count sizes wl
  by_cases hc : countL sizes wl = 0
  · have HN : Hid (gridErr sizes wl r = 2) := by show _ = _; unfold gridErr; rw [if_pos hc]
    rw [g2 hc] at hg
    generalize (goodV sizes wl).1 = gv at *
    rw [HN.out]
    clear g1 g2 hc h
    go_enter Try.func86, Try.ntmps86
    go_wp2_with fail
    generalize w.alloc (.cells #[.slice sa sizes.length sc, .slice wa wl wc] 43) = w0 at *
    refine hg.mono ?_
    rintro e X ⟨rfl, hb⟩
    have hbb := hb0.trans (hb.mono hb0.size)
    clear hg
    go_wp2_with fail
    go_ret
    exact ⟨rfl, hbb⟩
  · rw [g1 hc] at hg
    have HG : Hid (gridErr sizes wl r = if r < 0 ∨ countL sizes wl ≤ r then 11 else 0) := by show _ = _; unfold gridErr; rw [if_neg hc]
    generalize countL sizes wl = n at *
    rw [HG.out]
    clear g1 g2 hc h HG
    by_cases h1 : r < 0
    · rw [if_pos (.inl h1)]
      go_enter Try.func86, Try.ntmps86
      go_wp2_with fail
      generalize w.alloc (.cells #[.slice sa sizes.length sc, .slice wa wl wc] 43) = w0 at *
      refine hg.mono ?_
      rintro e X ⟨rfl, hb⟩
      have hbb := hb0.trans (hb.mono hb0.size)
      clear hg
      go_wp2_with fail
      go_ret
      exact ⟨rfl, hbb⟩
    · by_cases h2 : n ≤ r
      · rw [if_pos (.inr h2)]
        go_enter Try.func86, Try.ntmps86
        go_wp2_with fail
        generalize w.alloc (.cells #[.slice sa sizes.length sc, .slice wa wl wc] 43) = w0 at *
        refine hg.mono ?_
        rintro e X ⟨rfl, hb⟩
        have hbb := hb0.trans (hb.mono hb0.size)
        clear hg
        go_wp2_with fail
        go_ret
        exact ⟨rfl, hbb⟩
      · rw [if_neg (by omega)]
        go_enter Try.func86, Try.ntmps86
        go_wp2_with fail
        generalize w.alloc (.cells #[.slice sa sizes.length sc, .slice wa wl wc] 43) = w0 at *
        refine hg.mono ?_
        rintro e X ⟨rfl, hb⟩
        have hbb := hb0.trans (hb.mono hb0.size)
        clear hg
        go_wp2_with fail
        go_ret
        exact ⟨rfl, hbb⟩

theorem rank_ref {w : World} {sa wa aa : Option Addr} {sizes at' : List Int} {wrap : List Bool} (h : Ints w sa sizes) (hw : Bools w wa wrap) (ha : Ints w aa at') (hp : ∀ s ∈ sizes, 1 ≤ s ∧ s ≤ 64) (hl : wrap.length = sizes.length) (hl2 : at'.length = sizes.length) (hx : ∀ x ∈ at', -9223372036854775808 ≤ x ∧ x ≤ 9223372036854775807) (sc wc ac : Nat) :
    Calls Try.prog 83 #[.agg #[.slice sa sizes.length sc, .slice wa wrap.length wc], .slice aa at'.length ac] w fun e w' => e = .returned (.int .i64 (rankL 0 sizes wrap at')) ∧ Below w.heap.size w w' := by
  have hlen := h.len
  have hlen2 := ha.len
  have h0 := (Below.refl w.heap.size w).alloc (Nat.le_refl _) (.cells #[.slice sa sizes.length sc, .slice wa wrap.length wc] 43)
  have A0 := h.keep h0
  have A1 := hw.keep h0
  have A2 := ha.keep h0
  have e0 : (w.alloc (.cells #[.slice sa sizes.length sc, .slice wa wrap.length wc] 43)).cell? ⟨w.heap.size, 0, none⟩ = some (.slice sa sizes.length sc) := by simp
  have e1 : (w.alloc (.cells #[.slice sa sizes.length sc, .slice wa wrap.length wc] 43)).cell? ⟨w.heap.size, 1, none⟩ = some (.slice wa wrap.length wc) := by simp
  have HP := Lib.hid hp
  have HL := Lib.hid hl
  have HL2 := Lib.hid hl2
  have HX := Lib.hid hx
  clear hp h hw ha hl hl2 hx
  go_enter Try.func83, Try.ntmps83
  go_wp2_with fail
  generalize w.alloc (.cells #[.slice sa sizes.length sc, .slice wa wrap.length wc] 43) = W at *
  go_loop [5, 6, 7] (fun t i _ => ∃ (k : Nat) (r : Int), k ≤ at'.length ∧ i = .int .i64 k ∧ t = .int .i64 r ∧ Hid (rankL r (sizes.drop k) (wrap.drop k) (at'.drop k) = rankL 0 sizes wrap at')) (fun _ i _ => at'.length - (intOf i).toNat)
  case atStart => exact ⟨0, 0, Nat.zero_le _, rfl, rfl, rfl⟩
  case round =>
    obtain ⟨k, r, hk, rfl, rfl, HE⟩ := hrel
    by_cases hlta : k < at'.length
    · have hlt : k < sizes.length := by rw [← HL2.out]; exact hlta
      have hltw : k < wrap.length := by rw [HL.out]; exact hlt
      obtain ⟨g, off, rfl, hcs⟩ := A0.at_ (ne_nil_of_lt hlt)
      obtain ⟨g1, off1, rfl, hcw⟩ := A1.at_ (ne_nil_of_lt hltw)
      obtain ⟨g2, off2, rfl, hca⟩ := A2.at_ (ne_nil_of_lt hlta)
      have c0 := hcs k hlt
      have c1 := hcw k hltw
      have c2 := hca k hlta
      obtain ⟨s1, s2⟩ := HP.out _ (List.getElem_mem hlt)
      have hxb := HX.out _ (List.getElem_mem hlta)
      have HF : Hid (rankL r (sizes.drop k) (wrap.drop k) (at'.drop k) = if (if wrap[k] then at'[k] % sizes[k] else at'[k]) < 0 ∨ sizes[k] ≤ (if wrap[k] then at'[k] % sizes[k] else at'[k]) then -2 else rankL (wrap64 (wrap64 (r * sizes[k]) + (if wrap[k] then at'[k] % sizes[k] else at'[k]))) (sizes.drop (k+1)) (wrap.drop (k+1)) (at'.drop (k+1))) := by
        show _ = _; rw [List.drop_eq_getElem_cons hlt, List.drop_eq_getElem_cons hltw, List.drop_eq_getElem_cons hlta]; rfl
      clear hcs hcw hca
      generalize sizes[k] = s at *
      generalize at'[k] = x at *
      cases hb : wrap[k] with
      | true =>
        rw [hb] at c1 HF
        have m1 : 0 ≤ x % s := Int.emod_nonneg _ (by omega)
        have m2 : x % s < s := Int.emod_lt_of_pos _ (by omega)
        have HN : Hid (rankL (wrap64 (wrap64 (r * s) + x % s)) (sizes.drop (k+1)) (wrap.drop (k+1)) (at'.drop (k+1)) = rankL 0 sizes wrap at') := by
          have := HF.out; simp only [if_true] at this; show _ = _; rw [← HE.out, this, if_neg (by omega)]
        clear HF
        have hmod := modr_any x s hxb s1 s2
        generalize x % s = y at *
        go_wp2_with (go_at_call 111; refine (hmod _).mono ?_; rintro e w' ⟨rfl, rfl⟩)
        go_round
        case rel => exact ⟨k + 1, _, by omega, by go_num, rfl, HN⟩
        case measure => simp [intOf]; omega
      | false =>
        rw [hb] at c1 HF
        by_cases q : x < 0
        · have HN : Hid (rankL 0 sizes wrap at' = -2) := by have := HF.out; simp only [Bool.false_eq_true, if_false] at this; show _ = _; rw [← HE.out, this, if_pos (.inl q)]
          clear HF
          go_wp2_with fail
          go_ret
          exact ⟨by rw [HN.out]; rfl, h0⟩
        · by_cases q2 : s ≤ x
          · have HN : Hid (rankL 0 sizes wrap at' = -2) := by have := HF.out; simp only [Bool.false_eq_true, if_false] at this; show _ = _; rw [← HE.out, this, if_pos (.inr q2)]
            clear HF
            go_wp2_with fail
            go_ret
            exact ⟨by rw [HN.out]; rfl, h0⟩
          · have HN : Hid (rankL (wrap64 (wrap64 (r * s) + x)) (sizes.drop (k+1)) (wrap.drop (k+1)) (at'.drop (k+1)) = rankL 0 sizes wrap at') := by
              have := HF.out; simp only [Bool.false_eq_true, if_false] at this; show _ = _; rw [← HE.out, this, if_neg (by omega)]
            clear HF
            go_wp2_with fail
            go_round
            case rel => exact ⟨k + 1, _, by omega, by go_num, rfl, HN⟩
            case measure => simp [intOf]; omega
    · have HN : Hid (rankL 0 sizes wrap at' = r) := by show _ = _; rw [← HE.out, drop_end hlta, drop_end (by rw [← HL2.out]; exact hlta)]; rfl
      go_wp2_with fail
      go_ret
      exact ⟨by rw [HN.out]; rfl, h0⟩

theorem coords_ref {w : World} {sa wa : Option Addr} {sizes : List Int} (h : Ints w sa sizes) (hp : ∀ s ∈ sizes, 1 ≤ s ∧ s ≤ 64) (sc wn wc : Nat) (r : Int) (hr : 0 ≤ r) (hr2 : r ≤ 64) :
    Calls Try.prog 87 #[.agg #[.slice sa sizes.length sc, .slice wa wn wc], .int .i64 r] w fun e w' => ∃ b, e = .returned (.slice (some ⟨b, 0, none⟩) sizes.length sizes.length) ∧ w.heap.size ≤ b ∧ RowAt w' b (coordsL sizes r) ∧ Below w.heap.size w w' := by
  have hlen := h.len
  have hb0 : Below w.heap.size w (w.alloc (.cells #[.slice sa sizes.length sc, .slice wa wn wc] 43)) := (Below.refl _ _).alloc (Nat.le_refl _) _
  have hz0 : (w.alloc (.cells #[.slice sa sizes.length sc, .slice wa wn wc] 43)).heap.size = w.heap.size + 1 := by simp
  have k0 : (w.alloc (.cells #[.slice sa sizes.length sc, .slice wa wn wc] 43)).cell? ⟨w.heap.size, 0, none⟩ = some (.slice sa sizes.length sc) := by simp
  have HI := Lib.hid (h.keep hb0)
  have HP := Lib.hid hp
  have hmk := make_ints sizes.length hlen (w.alloc (.cells #[.slice sa sizes.length sc, .slice wa wn wc] 43))
  have R0 : Hid (RowAt ((w.alloc (.cells #[.slice sa sizes.length sc, .slice wa wn wc] 43)).alloc (.cells (rowA (List.replicate sizes.length 0)) 3)) (w.heap.size + 1) (List.replicate sizes.length 0)) := by
    show RowAt _ _ _
    rw [← hz0]; exact heap_alloc_new _ _
  have b1 : Below (w.heap.size + 1) (w.alloc (.cells #[.slice sa sizes.length sc, .slice wa wn wc] 43)) ((w.alloc (.cells #[.slice sa sizes.length sc, .slice wa wn wc] 43)).alloc (.cells (rowA (List.replicate sizes.length 0)) 3)) := (Below.refl _ _).alloc (by rw [hz0]; exact Nat.le_refl _) _
  rw [hz0] at hmk
  have HB0 := Lib.hid hb0
  have HZ0 := Lib.hid hz0
  have HB1 := Lib.hid b1
  have HS : Hid (coordsL sizes r = (coordsS sizes r).2) := coordsL_eq sizes r
  clear h hp hb0 hz0 b1
  go_enter Try.func87, Try.ntmps87
  go_wp2_with fail
  generalize (w.alloc (.cells #[.slice sa sizes.length sc, .slice wa wn wc] 43)).alloc (.cells (rowA (List.replicate sizes.length 0)) 3) = W1 at *
  generalize w.alloc (.cells #[.slice sa sizes.length sc, .slice wa wn wc] 43) = W0 at *
  clear hmk
  go_loopw [1, 6] (fun q i wr => ∃ (k : Nat) (x y : Int), k ≤ sizes.length ∧ i = .int .i64 x ∧ Hid (x = (k : Int) - 1) ∧ -1 ≤ x ∧ x ≤ 17592186044416 ∧ q = .int .i64 y ∧ 0 ≤ y ∧ y ≤ 64 ∧ Hid (y = (coordsS (sizes.drop k) r).1) ∧ Hid (RowAt wr (w.heap.size + 1) (List.replicate k 0 ++ (coordsS (sizes.drop k) r).2)) ∧ Hid (Below (w.heap.size + 1) W0 wr)) (fun _ i _ => (intOf i + 1).toNat)
  case atStart => exact ⟨sizes.length, _, r, Nat.le_refl _, rfl, rfl, by omega, by omega, rfl, hr, hr2, by show _ = _; rw [List.drop_length]; rfl, by show RowAt _ _ _; rw [List.drop_length]; simpa [coordsS] using R0.out, HB1⟩
  case round =>
    obtain ⟨k, x, y, hk, rfl, HXK, x1, x2, rfl, y1, y2, HY, HR, HBW⟩ := hrel
    have hbw := HBW.out
    rw [← HZ0.out] at hbw
    by_cases hk0 : k = 0
    · have hx0 : x < 0 := by have := HXK.out; omega
      have HF := HR.out
      rw [hk0, List.drop_zero, ← HS.out, show List.replicate 0 (0 : Int) = [] from rfl, List.nil_append] at HF
      replace HF := Lib.hid HF
      have HBF := Lib.hid (HB0.out.trans (HBW.out.mono (by omega)))
      clear hk0 hbw
      go_wp2_with fail
      go_ret
      exact ⟨w.heap.size + 1, rfl, by omega, HF.out, HBF.out⟩
    · obtain ⟨k1, rfl⟩ : ∃ k1, k = k1 + 1 := ⟨k - 1, by omega⟩
      have hxk : x = (k1 : Int) := by have := HXK.out; omega
      subst hxk
      have hlt : k1 < sizes.length := by omega
      obtain ⟨g, o, rfl, hcs⟩ := HI.out.at_ (ne_nil_of_lt hlt)
      have c0 := hcs k1 hlt
      have hgb := block_lt_of_cell c0
      replace c0 := (hbw.cell hgb).trans c0
      have hgn : g ≠ w.heap.size + 1 := by have h9 : g < W0.heap.size := hgb; have := HZ0.out; omega
      have k0' := (hbw.cell (block_lt_of_cell k0)).trans k0
      obtain ⟨s1, s2⟩ := HP.out _ (List.getElem_mem hlt)
      have HD : Hid (sizes.drop k1 = sizes[k1] :: sizes.drop (k1 + 1)) := List.drop_eq_getElem_cons hlt
      have HC1 : Hid ((coordsS (sizes.drop k1) r).1 = y / sizes[k1]) := by show _ = _; rw [HD.out, HY.out]; rfl
      have hlr : k1 < (List.replicate (k1 + 1) (0 : Int) ++ (coordsS (sizes.drop (k1 + 1)) r).2).length := by simp; omega
      have c1 := HR.out.cell k1 hlr
      have hfz := HR.out.open_ k1
      have hltg := HR.out.lt
      have HST := Lib.hid (HR.out.set k1 (y % sizes[k1]))
      have HSE : Hid ((List.replicate (k1 + 1) (0 : Int) ++ (coordsS (sizes.drop (k1 + 1)) r).2).set k1 (y % sizes[k1]) = List.replicate k1 0 ++ (coordsS (sizes.drop k1) r).2) := by
        show _ = _
        rw [List.set_append_left _ _ (by simp), List.replicate_succ', List.set_append_right _ _ (by simp), HD.out]
        show _ = List.replicate k1 0 ++ (((coordsS (sizes.drop (k1 + 1)) r).1 % sizes[k1]) :: (coordsS (sizes.drop (k1 + 1)) r).2)
        rw [← HY.out]
        simp
      rw [HSE.out] at HST
      have hbn : ∀ v, Hid (Below (w.heap.size + 1) W0 (World.setCell _ ⟨w.heap.size + 1, k1, none⟩ v)) := fun v => HBW.out.setCell (Nat.le_refl _) v
      generalize (List.replicate (k1 + 1) (0 : Int) ++ (coordsS (sizes.drop (k1 + 1)) r).2)[k1]'hlr = z at *
      generalize sizes[k1] = s at *
      have hmod : y.tmod s = y % s := Int.tmod_eq_emod_of_nonneg y1
      have hdv : wrap64 (y.tdiv s) = y / s := by
        rw [Int.tdiv_eq_ediv_of_nonneg y1]
        have := Int.ediv_le_self s y1
        have := Int.ediv_nonneg y1 (show 0 ≤ s by omega)
        unfold wrap64; omega
      have hdv2 : y.tdiv s = y / s := Int.tdiv_eq_ediv_of_nonneg y1
      have q1 : 0 ≤ y / s := Int.ediv_nonneg y1 (by omega)
      have q2 : y / s ≤ 64 := by have := Int.ediv_le_self s y1; omega
      have hs0 : s ≠ 0 := by omega
      have HQ1 := Lib.hid q1
      have HQ2 := Lib.hid q2
      clear hcs hbw hlr HSE HR HY hgb

      go_wp2_with fail
      go_roundw
      case rel => exact ⟨k1, _, y / s, by omega, rfl, by show _ = _; rfl, by omega, by omega, by go_num, HQ1.out, HQ2.out, HC1.out.symm, HST, hbn _⟩
      case measure => simp [intOf]
end Go.Proofs.Ytoloiingodigpaa
