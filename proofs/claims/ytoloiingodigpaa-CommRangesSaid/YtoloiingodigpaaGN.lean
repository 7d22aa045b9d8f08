import Derived.Test.YtoloiingodigpaaGA
import Derived.Test.YtoloiingodigpaaS
import Derived.BigQuiet
namespace Go.Proofs.Ytoloiingodigpaa
open Go.RowKit Go.Shelf
attribute [local go_sem] Oper.semAt_some litE
set_option maxRecDepth 100000
set_option maxHeartbeats 4000000

theorem strideN_pos {f l s : Int} (hs : 0 < s) (i : Nat) : i < strideN f l s ↔ f + (i : Int) * s ≤ l := by
  unfold strideN
  rw [if_pos hs]
  have hi : 0 ≤ (i : Int) * s := Int.mul_nonneg (by omega) (by omega)
  by_cases h : l < f
  · rw [if_pos h]
    constructor
    · intro h0; omega
    · intro h0; omega
  · rw [if_neg h]
    have h0 : 0 ≤ (l - f) / s := Int.ediv_nonneg (by omega) (by omega)
    have h1 : (i : Int) ≤ (l - f) / s ↔ (i : Int) * s ≤ l - f := Int.le_ediv_iff_mul_le hs
    omega
theorem strideN_neg {f l s : Int} (hs : s < 0) (i : Nat) : i < strideN f l s ↔ l ≤ f + (i : Int) * s := by
  unfold strideN
  rw [if_neg (by omega)]
  have hi : 0 ≤ (i : Int) * -s := Int.mul_nonneg (by omega) (by omega)
  have hm : (i : Int) * -s = -((i : Int) * s) := Int.mul_neg _ _
  by_cases h : f < l
  · rw [if_pos h]
    constructor
    · intro h0; omega
    · intro h0; omega
  · rw [if_neg h]
    have h0 : 0 ≤ (f - l) / (-s) := Int.ediv_nonneg (by omega) (by omega)
    have h1 : (i : Int) ≤ (f - l) / (-s) ↔ (i : Int) * (-s) ≤ f - l := Int.le_ediv_iff_mul_le (by omega)
    omega

/-- one step: whether there is another number -/
theorem strideN_more {f l s x : Int} (i : Nat) (hx : x = f + (i : Int) * s) : (0 < s → (i + 1 < strideN f l s ↔ x + s ≤ l)) ∧ (s < 0 → (i + 1 < strideN f l s ↔ l ≤ x + s)) := by
  have e : f + ((i + 1 : Nat) : Int) * s = x + s := by
    rw [hx, Int.natCast_add, Int.add_mul]; omega
  refine ⟨fun hs => ?_, fun hs => ?_⟩
  · rw [strideN_pos hs, e]
  · rw [strideN_neg hs, e]

@[simp] theorem strideL_len (f l s : Int) : (strideL f l s).length = strideN f l s := by simp [strideL]
theorem strideL_at (f l s : Int) (i : Nat) (h : i < (strideL f l s).length) : (strideL f l s)[i] = f + (i : Int) * s := by simp [strideL]

theorem rangesGo_cons (n : Int) (q : List Int) (f l s : Int) (rest : List (Int × Int × Int)) : rangesGo n q ((f, l, s) :: rest) = if s = 0 then ([], 2) else if setErr q (strideL f l s) n ≠ 0 then ([], setErr q (strideL f l s) n) else rangesGo n (q ++ strideL f l s) rest := rfl

theorem Ranges_ref {w : World} {a : Option Addr} {L : List (Int × Int × Int)} (h : Trips w a L) (cap : Nat) (n : Int) :
    Calls Try.prog 33 #[.int .i64 n, .slice a L.length cap] w fun e w' => ∃ v, e = .returned (.tuple #[v, .int .i64 (rangesL n L).2]) ∧ NewInts w.heap.size w' v (rangesL n L).1 ∧ Below w.heap.size w w' := by
  have hlen := h.len
  obtain ⟨i0, hi, hz0, hz1, hz2⟩ := info_parts Try.info3
  by_cases hn : n < 0 ∨ 64 < n
  · have HR : Hid (rangesL n L = ([], 3)) := by show _ = _; unfold rangesL; rw [if_pos hn]
    rw [HR.out]
    by_cases h0 : n < 0
    · clear hn
      go_enter Try.func33, Try.ntmps33
      go_wp2
      go_ret2
      exact ⟨_, rfl, NewInts.nil _ _, Below.refl _ _⟩
    · have h1 : 64 < n := by omega
      clear hn
      go_enter Try.func33, Try.ntmps33
      go_wp2
      go_ret2
      exact ⟨_, rfl, NewInts.nil _ _, Below.refl _ _⟩
  · have h0 : 0 ≤ n := by omega
    have h1 : n ≤ 64 := by omega
    have HR : Hid (rangesL n L = rangesGo n [] L) := by show _ = _; unfold rangesL; rw [if_neg hn]
    clear hn
    obtain ⟨RES, hRES⟩ : ∃ RES, RES = rangesL n L := ⟨_, rfl⟩
    rw [← hRES] at HR ⊢
    clear hRES
    go_enter Try.func33, Try.ntmps33
    go_wp2_with fail
    go_loopw [6, 7] (fun t i wr => ∃ (k : Nat) (q : List Int), k ≤ L.length ∧ i = .int .i64 k ∧ Hid (rangesGo n q (L.drop k) = RES) ∧ Hid (setErr [] q n = 0) ∧ Hid (wr.ownsRow w.heap.size 3 1 t q.length (q.map (Value.int .i64))) ∧ Below w.heap.size w wr)
      (fun _ i _ => L.length - (intOf i).toNat)
    case atStart => exact ⟨0, [], Nat.zero_le _, rfl, HR.out.symm, rfl, World.ownsRow_nil _ _ _ _, Below.refl _ _⟩
    case round =>
      obtain ⟨k, q, hk, rfl, HG, HQ, HO, hb⟩ := hrel
      have hz := hb.size
      by_cases hlt : k < L.length
      · obtain ⟨gb, ob, rfl, hcb⟩ := h.at_ (by intro e; simp [e] at hlt)
        obtain ⟨c0, c1, c2⟩ := hcb k hlt
        have c0 := (hb.cell (p := ⟨gb, ob + k * 3, none⟩) (block_lt_of_cell c0)).trans c0
        have c1 := (hb.cell (p := ⟨gb, ob + k * 3 + 1, none⟩) (block_lt_of_cell c1)).trans c1
        have c2 := (hb.cell (p := ⟨gb, ob + k * 3 + 2, none⟩) (block_lt_of_cell c2)).trans c2
        obtain ⟨⟨f1, f2⟩, ⟨l1, l2⟩, s1, s2⟩ := h.wf L[k] (List.getElem_mem hlt)
        have HC : Hid (rangesGo n q (L.drop k) = if L[k].2.2 = 0 then ([], 2) else if setErr q (strideL L[k].1 L[k].2.1 L[k].2.2) n ≠ 0 then ([], setErr q (strideL L[k].1 L[k].2.1 L[k].2.2) n) else rangesGo n (q ++ strideL L[k].1 L[k].2.1 L[k].2.2) (L.drop (k + 1))) := by
          show _ = _; rw [List.drop_eq_getElem_cons hlt]; rfl
        generalize L[k].1 = f at *
        generalize L[k].2.1 = l at *
        generalize L[k].2.2 = s at *
        clear hcb
        go_wp2_with fail
        go_quiet (fail)
        have hdn : wr.heap.size = (wr.drewN nq).heap.size := rfl
        have c0 : (wr.drewN nq).cell? ⟨gb, ob + k * 3, none⟩ = some (.int .i64 f) := c0
        have HO : Hid ((wr.drewN nq).ownsRow w.heap.size 3 1 _ q.length (q.map (Value.int .i64))) := HO
        have hb : Below w.heap.size w (wr.drewN nq) := below_drewN hb nq
        have hz := hb.size
        clear c1 c2 hdn
        generalize wr.drewN nq = wd at *
        have hql : q.length ≤ 64 := setErr_len h1 HQ.out
        by_cases hs0 : s = 0
        · have HN : Hid (RES = ([], 2)) := by show _ = _; rw [← HG.out, HC.out, if_pos hs0]
          subst hs0
          clear HG HC
          go_wp2_with fail
          go_ret2
          rw [HN.out]
          exact ⟨_, rfl, NewInts.nil _ _, hb⟩
        · have hsb : (s == 0) = false := beq_eq_false_iff_ne.2 hs0
          have HSE : Hid (setErr q (strideL f l s) n ≠ 0 → RES = ([], setErr q (strideL f l s) n)) := fun hh => by rw [← HG.out, HC.out, if_neg hs0, if_pos hh]
          have HSO : Hid (setErr q (strideL f l s) n = 0 → rangesGo n (q ++ strideL f l s) (L.drop (k + 1)) = RES) := fun hh => by rw [← HG.out, HC.out, if_neg hs0, if_neg (by simp [hh])]
          have HNQ : Hid (NewInts w.heap.size wd _ q) := ⟨HO.out, by omega⟩
          have HQ0 := HQ
          clear HG HC HO
          go_wp2_with fail
          by_cases hsp : 0 < s
          · skip
            go_loopw [6, 10] (fun t xv wi => ∃ (i : Nat) (x : Int) (c : List Int), xv = .int .i64 x ∧ Hid (x = f + (i : Int) * s) ∧ Hid (i < strideN f l s ∨ (i = 0 ∧ strideN f l s = 0)) ∧ Hid (c = q ++ (strideL f l s).take i) ∧ Hid (setErr [] c n = 0) ∧ Hid (setErr c ((strideL f l s).drop i) n = setErr q (strideL f l s) n) ∧ -9223372036854775808 ≤ x ∧ x ≤ 9223372036854775807 ∧ Hid (NewInts w.heap.size wi t c) ∧ Below w.heap.size w wi)
              (fun _ x _ => (l - intOf x + 1).toNat)
            case atStart =>
              refine ⟨0, f, q, rfl, by show _ = _; simp, ?_, by show _ = _; simp, HQ0, rfl, f1, f2, HNQ, hb⟩
              show _ ∨ _
              omega
            case round =>
              obtain ⟨i, x, c, rfl, HX, HI, HCQ, HS0, HSD, x1, x2, HNI, hbi⟩ := hrel
              have hzi := hbi.size
              have hcl : c.length ≤ 64 := setErr_len h1 HS0.out
              have HW := Lib.hid (strideN_pos (f := f) (l := l) hsp i)
              have HM := Lib.hid ((strideN_more (f := f) (l := l) i HX.out).1 hsp)
              obtain ⟨a6, c6, rfl, i6⟩ := HNI.out.ints
              by_cases hc : x ≤ l
              · have hiN : i < strideN f l s := HW.out.2 (by rw [← HX.out]; exact hc)
                have HD : Hid ((strideL f l s).drop i = x :: (strideL f l s).drop (i + 1)) := by
                  show _ = _
                  rw [List.drop_eq_getElem_cons (by simpa using hiN), strideL_at, ← HX.out]
                have HSC : Hid (setErr c ((strideL f l s).drop i) n = if x < 0 ∨ n ≤ x then 11 else if x ∈ c then 5 else setErr (c ++ [x]) ((strideL f l s).drop (i + 1)) n) := by
                  show _ = _; rw [HD.out]; rfl
                have HIN := Lib.hid hiN
                clear hiN
                by_cases h3 : x < 0
                · have HE : Hid (RES = ([], 11)) := by
                    show _ = _
                    have h5 : setErr q (strideL f l s) n = 11 := by rw [← HSD.out, HSC.out, if_pos (.inl h3)]
                    rw [HSE.out (by rw [h5]; decide), h5]
                  clear HSC i6
                  go_wp2_with fail
                  go_ret2
                  rw [HE.out]
                  exact ⟨_, rfl, NewInts.nil _ _, hbi⟩
                · by_cases h4 : n ≤ x
                  · have HE : Hid (RES = ([], 11)) := by
                      show _ = _
                      have h5 : setErr q (strideL f l s) n = 11 := by rw [← HSD.out, HSC.out, if_pos (.inr h4)]
                      rw [HSE.out (by rw [h5]; decide), h5]
                    clear HSC i6
                    go_wp2_with fail
                    go_ret2
                    rw [HE.out]
                    exact ⟨_, rfl, NewInts.nil _ _, hbi⟩
                  · have hix := index_ref i6 c6 x
                    have HXM := Lib.hid (idxL_mem c x)
                    have HNI2 := Lib.hid HNI.out.own
                    clear i6
                    by_cases hm : x ∈ c
                    · have HE : Hid (RES = ([], 5)) := by
                        show _ = _
                        have h5 : setErr q (strideL f l s) n = 5 := by rw [← HSD.out, HSC.out, if_neg (by omega), if_pos hm]
                        rw [HSE.out (by rw [h5]; decide), h5]
                      have hge := HXM.out.2 hm
                      generalize idxL c x = ix at *
                      clear HSC hm HXM
                      go_wp2_with (refine hix.mono ?_; rintro e w' ⟨rfl, hw⟩; have hw := hw.symm; subst hw)
                      go_ret2
                      rw [HE.out]
                      exact ⟨_, rfl, NewInts.nil _ _, hbi⟩
                    · have hlt0 : idxL c x < 0 := Int.not_le.1 (fun hh => hm (HXM.out.1 hh))
                      have HSN : Hid (setErr (c ++ [x]) ((strideL f l s).drop (i + 1)) n = setErr q (strideL f l s) n) := by
                        show _ = _; rw [← HSD.out, HSC.out, if_neg (by omega), if_neg hm]
                      have HS2 : Hid (setErr [] (c ++ [x]) n = 0) := by
                        show _ = _
                        rw [setErr_app, if_pos HS0.out, List.nil_append]
                        show (if x < 0 ∨ n ≤ x then (11 : Int) else if x ∈ c then 5 else setErr (c ++ [x]) [] n) = 0
                        rw [if_neg (by omega), if_neg hm]; rfl
                      have HC2 : Hid (c ++ [x] = q ++ (strideL f l s).take (i + 1)) := by
                        show _ = _
                        rw [List.take_succ_eq_append_getElem (by simpa using HIN.out), strideL_at, ← HX.out, HCQ.out, List.append_assoc]
                      generalize idxL c x = ix at *
                      clear HSC hm HXM
                      by_cases hmr : x + s ≤ l
                      · go_wp2_with (first
                          | (refine hix.mono ?_; rintro e w' ⟨rfl, hw⟩; have hw := hw.symm; subst hw)
                          | (at_builtin; refine wpList_append_own _ rfl (.tmp 67) (.tmp 69) 22 rfl w.heap.size 3 i0 (.int .i64 0) 1 8 Try.underlying22 hi hz0 hz1 hz2 rfl (by decide) _ _ _ rfl (HNI2.out.alloc _) ⟨_, 0, none⟩ 1 1 [.int .i64 x] rfl rfl (fun j u hj => by match j, hj with | 0, hj => simp at hj; subst hj; simp [Addr.add]) (by intro u hu; simp at hu; subst hu; rfl) (by unfold maxLen; omega) (by omega) (by simp; omega) ?_; intro v' w2 hown' hgrow _))
                        have hb2 : Below w.heap.size w w2 := grow_below (hbi.alloc hzi _) (HNI2.out.alloc _) hgrow (by simp; omega)
                        go_roundw
                        case rel =>
                          refine ⟨i + 1, x + s, c ++ [x], by go_num, ?_, .inl (HM.out.2 hmr), HC2, HS2, HSN, by omega, by omega, ⟨by simpa using hown', by simp; omega⟩, hb2⟩
                          show _ = _
                          rw [HX.out, Int.natCast_add, Int.add_mul]; omega
                        case measure => simp [intOf]; omega
                      · have HEND : Hid ((strideL f l s).drop (i + 1) = [] ∧ (strideL f l s).take (i + 1) = strideL f l s) := by
                          have hge : strideN f l s ≤ i + 1 := Nat.not_lt.1 (fun hh => hmr (HM.out.1 hh))
                          exact ⟨List.drop_of_length_le (by simpa using hge), List.take_of_length_le (by simpa using hge)⟩
                        go_wp2_with (first
                          | (refine hix.mono ?_; rintro e w' ⟨rfl, hw⟩; have hw := hw.symm; subst hw)
                          | (at_builtin; refine wpList_append_own _ rfl (.tmp 67) (.tmp 69) 22 rfl w.heap.size 3 i0 (.int .i64 0) 1 8 Try.underlying22 hi hz0 hz1 hz2 rfl (by decide) _ _ _ rfl (HNI2.out.alloc _) ⟨_, 0, none⟩ 1 1 [.int .i64 x] rfl rfl (fun j u hj => by match j, hj with | 0, hj => simp at hj; subst hj; simp [Addr.add]) (by intro u hu; simp at hu; subst hu; rfl) (by unfold maxLen; omega) (by omega) (by simp; omega) ?_; intro v' w2 hown' hgrow _))
                        have hb2 : Below w.heap.size w w2 := grow_below (hbi.alloc hzi _) (HNI2.out.alloc _) hgrow (by simp; omega)
                        go_roundw
                        case rel =>
                          have hz5 : setErr q (strideL f l s) n = 0 := by rw [← HSN.out, HEND.out.1]; rfl
                          have hq5 : c ++ [x] = q ++ strideL f l s := by rw [HC2.out, HEND.out.2]
                          refine ⟨k + 1, c ++ [x], by omega, by go_num, ?_, HS2, ?_, hb2⟩
                          · show _ = _; rw [hq5]; exact HSO.out hz5
                          · show World.ownsRow _ _ _ _ _ _ _; simpa using hown'
                        case measure => simp [intOf]; omega
              · have HN0 : Hid (strideL f l s = [] ∧ i = 0) := by
                  have h7 : ¬ i < strideN f l s := fun hh => hc (by rw [HX.out]; exact HW.out.1 hh)
                  rcases HI.out with h8 | ⟨h8, h9⟩
                  · exact absurd h8 h7
                  · exact ⟨List.length_eq_zero_iff.1 (by simpa using h9), h8⟩
                clear i6
                go_wp2_with fail
                go_roundw
                case rel =>
                  have hq5 : c = q := by rw [HCQ.out, HN0.out.1]; simp
                  refine ⟨k + 1, c, by omega, by go_num, ?_, HS0, HNI.out.own, hbi⟩
                  have := HSO.out (by rw [HN0.out.1]; rfl)
                  rw [HN0.out.1, List.append_nil] at this
                  show _ = _
                  rw [hq5]; exact this
                case measure => simp [intOf]; omega
          · have hsn : s < 0 := by omega
            go_loopw [6, 10] (fun t xv wi => ∃ (i : Nat) (x : Int) (c : List Int), xv = .int .i64 x ∧ Hid (x = f + (i : Int) * s) ∧ Hid (i < strideN f l s ∨ (i = 0 ∧ strideN f l s = 0)) ∧ Hid (c = q ++ (strideL f l s).take i) ∧ Hid (setErr [] c n = 0) ∧ Hid (setErr c ((strideL f l s).drop i) n = setErr q (strideL f l s) n) ∧ -9223372036854775808 ≤ x ∧ x ≤ 9223372036854775807 ∧ Hid (NewInts w.heap.size wi t c) ∧ Below w.heap.size w wi)
              (fun _ x _ => (intOf x - l + 1).toNat)
            case atStart =>
              refine ⟨0, f, q, rfl, by show _ = _; simp, ?_, by show _ = _; simp, HQ0, rfl, f1, f2, HNQ, hb⟩
              show _ ∨ _
              omega
            case round =>
              obtain ⟨i, x, c, rfl, HX, HI, HCQ, HS0, HSD, x1, x2, HNI, hbi⟩ := hrel
              have hzi := hbi.size
              have hcl : c.length ≤ 64 := setErr_len h1 HS0.out
              have HW := Lib.hid (strideN_neg (f := f) (l := l) hsn i)
              have HM := Lib.hid ((strideN_more (f := f) (l := l) i HX.out).2 hsn)
              obtain ⟨a6, c6, rfl, i6⟩ := HNI.out.ints
              by_cases hc : l ≤ x
              · have hiN : i < strideN f l s := HW.out.2 (by rw [← HX.out]; exact hc)
                have HD : Hid ((strideL f l s).drop i = x :: (strideL f l s).drop (i + 1)) := by
                  show _ = _
                  rw [List.drop_eq_getElem_cons (by simpa using hiN), strideL_at, ← HX.out]
                have HSC : Hid (setErr c ((strideL f l s).drop i) n = if x < 0 ∨ n ≤ x then 11 else if x ∈ c then 5 else setErr (c ++ [x]) ((strideL f l s).drop (i + 1)) n) := by
                  show _ = _; rw [HD.out]; rfl
                have HIN := Lib.hid hiN
                clear hiN
                by_cases h3 : x < 0
                · have HE : Hid (RES = ([], 11)) := by
                    show _ = _
                    have h5 : setErr q (strideL f l s) n = 11 := by rw [← HSD.out, HSC.out, if_pos (.inl h3)]
                    rw [HSE.out (by rw [h5]; decide), h5]
                  clear HSC i6
                  go_wp2_with fail
                  go_ret2
                  rw [HE.out]
                  exact ⟨_, rfl, NewInts.nil _ _, hbi⟩
                · by_cases h4 : n ≤ x
                  · have HE : Hid (RES = ([], 11)) := by
                      show _ = _
                      have h5 : setErr q (strideL f l s) n = 11 := by rw [← HSD.out, HSC.out, if_pos (.inr h4)]
                      rw [HSE.out (by rw [h5]; decide), h5]
                    clear HSC i6
                    go_wp2_with fail
                    go_ret2
                    rw [HE.out]
                    exact ⟨_, rfl, NewInts.nil _ _, hbi⟩
                  · have hix := index_ref i6 c6 x
                    have HXM := Lib.hid (idxL_mem c x)
                    have HNI2 := Lib.hid HNI.out.own
                    clear i6
                    by_cases hm : x ∈ c
                    · have HE : Hid (RES = ([], 5)) := by
                        show _ = _
                        have h5 : setErr q (strideL f l s) n = 5 := by rw [← HSD.out, HSC.out, if_neg (by omega), if_pos hm]
                        rw [HSE.out (by rw [h5]; decide), h5]
                      have hge := HXM.out.2 hm
                      generalize idxL c x = ix at *
                      clear HSC hm HXM
                      go_wp2_with (refine hix.mono ?_; rintro e w' ⟨rfl, hw⟩; have hw := hw.symm; subst hw)
                      go_ret2
                      rw [HE.out]
                      exact ⟨_, rfl, NewInts.nil _ _, hbi⟩
                    · have hlt0 : idxL c x < 0 := Int.not_le.1 (fun hh => hm (HXM.out.1 hh))
                      have HSN : Hid (setErr (c ++ [x]) ((strideL f l s).drop (i + 1)) n = setErr q (strideL f l s) n) := by
                        show _ = _; rw [← HSD.out, HSC.out, if_neg (by omega), if_neg hm]
                      have HS2 : Hid (setErr [] (c ++ [x]) n = 0) := by
                        show _ = _
                        rw [setErr_app, if_pos HS0.out, List.nil_append]
                        show (if x < 0 ∨ n ≤ x then (11 : Int) else if x ∈ c then 5 else setErr (c ++ [x]) [] n) = 0
                        rw [if_neg (by omega), if_neg hm]; rfl
                      have HC2 : Hid (c ++ [x] = q ++ (strideL f l s).take (i + 1)) := by
                        show _ = _
                        rw [List.take_succ_eq_append_getElem (by simpa using HIN.out), strideL_at, ← HX.out, HCQ.out, List.append_assoc]
                      generalize idxL c x = ix at *
                      clear HSC hm HXM
                      by_cases hmr : l ≤ x + s
                      · go_wp2_with (first
                          | (refine hix.mono ?_; rintro e w' ⟨rfl, hw⟩; have hw := hw.symm; subst hw)
                          | (at_builtin; refine wpList_append_own _ rfl (.tmp 67) (.tmp 69) 22 rfl w.heap.size 3 i0 (.int .i64 0) 1 8 Try.underlying22 hi hz0 hz1 hz2 rfl (by decide) _ _ _ rfl (HNI2.out.alloc _) ⟨_, 0, none⟩ 1 1 [.int .i64 x] rfl rfl (fun j u hj => by match j, hj with | 0, hj => simp at hj; subst hj; simp [Addr.add]) (by intro u hu; simp at hu; subst hu; rfl) (by unfold maxLen; omega) (by omega) (by simp; omega) ?_; intro v' w2 hown' hgrow _))
                        have hb2 : Below w.heap.size w w2 := grow_below (hbi.alloc hzi _) (HNI2.out.alloc _) hgrow (by simp; omega)
                        go_roundw
                        case rel =>
                          refine ⟨i + 1, x + s, c ++ [x], by go_num, ?_, .inl (HM.out.2 hmr), HC2, HS2, HSN, by omega, by omega, ⟨by simpa using hown', by simp; omega⟩, hb2⟩
                          show _ = _
                          rw [HX.out, Int.natCast_add, Int.add_mul]; omega
                        case measure => simp [intOf]; omega
                      · have HEND : Hid ((strideL f l s).drop (i + 1) = [] ∧ (strideL f l s).take (i + 1) = strideL f l s) := by
                          have hge : strideN f l s ≤ i + 1 := Nat.not_lt.1 (fun hh => hmr (HM.out.1 hh))
                          exact ⟨List.drop_of_length_le (by simpa using hge), List.take_of_length_le (by simpa using hge)⟩
                        go_wp2_with (first
                          | (refine hix.mono ?_; rintro e w' ⟨rfl, hw⟩; have hw := hw.symm; subst hw)
                          | (at_builtin; refine wpList_append_own _ rfl (.tmp 67) (.tmp 69) 22 rfl w.heap.size 3 i0 (.int .i64 0) 1 8 Try.underlying22 hi hz0 hz1 hz2 rfl (by decide) _ _ _ rfl (HNI2.out.alloc _) ⟨_, 0, none⟩ 1 1 [.int .i64 x] rfl rfl (fun j u hj => by match j, hj with | 0, hj => simp at hj; subst hj; simp [Addr.add]) (by intro u hu; simp at hu; subst hu; rfl) (by unfold maxLen; omega) (by omega) (by simp; omega) ?_; intro v' w2 hown' hgrow _))
                        have hb2 : Below w.heap.size w w2 := grow_below (hbi.alloc hzi _) (HNI2.out.alloc _) hgrow (by simp; omega)
                        go_roundw
                        case rel =>
                          have hz5 : setErr q (strideL f l s) n = 0 := by rw [← HSN.out, HEND.out.1]; rfl
                          have hq5 : c ++ [x] = q ++ strideL f l s := by rw [HC2.out, HEND.out.2]
                          refine ⟨k + 1, c ++ [x], by omega, by go_num, ?_, HS2, ?_, hb2⟩
                          · show _ = _; rw [hq5]; exact HSO.out hz5
                          · show World.ownsRow _ _ _ _ _ _ _; simpa using hown'
                        case measure => simp [intOf]; omega
              · have HN0 : Hid (strideL f l s = [] ∧ i = 0) := by
                  have h7 : ¬ i < strideN f l s := fun hh => hc (by rw [HX.out]; exact HW.out.1 hh)
                  rcases HI.out with h8 | ⟨h8, h9⟩
                  · exact absurd h8 h7
                  · exact ⟨List.length_eq_zero_iff.1 (by simpa using h9), h8⟩
                clear i6
                go_wp2_with fail
                go_roundw
                case rel =>
                  have hq5 : c = q := by rw [HCQ.out, HN0.out.1]; simp
                  refine ⟨k + 1, c, by omega, by go_num, ?_, HS0, HNI.out.own, hbi⟩
                  have := HSO.out (by rw [HN0.out.1]; rfl)
                  rw [HN0.out.1, List.append_nil] at this
                  show _ = _
                  rw [hq5]; exact this
                case measure => simp [intOf]; omega
      · have HN : Hid (RES = (q, 0)) := by show _ = _; rw [← HG.out, drop_end hlt]; rfl
        have hql : q.length ≤ 64 := setErr_len h1 HQ.out
        clear HG
        go_wp2_with fail
        go_ret2
        rw [HN.out]
        exact ⟨_, rfl, ⟨HO.out, by show q.length ≤ _; omega⟩, hb⟩
end Go.Proofs.Ytoloiingodigpaa
