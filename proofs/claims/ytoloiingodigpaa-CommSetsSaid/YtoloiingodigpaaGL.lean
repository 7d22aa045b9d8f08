import Derived.Test.YtoloiingodigpaaGK
namespace Go.Proofs.Ytoloiingodigpaa
open Go.RowKit Go.Shelf
attribute [local go_sem] Oper.semAt_some litE
set_option maxRecDepth 100000
set_option maxHeartbeats 2000000

theorem Translate_ref {w : World} {a b c : Option Addr} {l r m : List Int} (h : Ints w a l) (hr : Ints w b r) (hm : Ints w c m) (cap cap1 cap' : Nat) (hcap : l.length ≤ cap) (hcap' : m.length ≤ cap') :
    Calls Try.prog 31 #[.slice a l.length cap, .slice b r.length cap1, .slice c m.length cap'] w fun e w' => ∃ v, e = .returned (.tuple #[v, .int .i64 (trE l m r)]) ∧ NewInts w.heap.size w' v (trV l m r) ∧ Below w.heap.size w w' := by
  have hlen := h.len
  have hlen2 := hr.len
  have hlen3 := hm.len
  have hd := both_ref h hm cap cap' hcap hcap'
  have A0 := Lib.hid h
  have A1 := Lib.hid hm
  have A2 := Lib.hid hr
  obtain ⟨i0, hi, hz0, hz1, hz2⟩ := info_parts Try.info3
  clear h hm hr
  by_cases he : pairErr l m = 0
  · have HTE : Hid (trE l m r = if r.any (trBad l) then 11 else 0) := by show _ = _; unfold trE; rw [if_pos he]
    rw [he] at hd
    clear he
    go_enter Try.func31, Try.ntmps31
    go_wp2_with fail
    refine hd.mono ?_
    rintro e w1 ⟨rfl, hb1⟩
    clear hd
    go_wp2_with fail
    go_loopw [9, 10] (fun t i wr => ∃ (k : Nat) (q : List Int), k ≤ r.length ∧ i = .int .i64 k ∧ q.length ≤ k ∧ Hid (q ++ (r.drop k).map (trOne l m) = r.map (trOne l m)) ∧ Hid ((r.drop k).any (trBad l) = r.any (trBad l)) ∧ wr.ownsRow w.heap.size 3 1 t q.length (q.map (Value.int .i64)) ∧ Below w.heap.size w wr)
      (fun _ i _ => r.length - (intOf i).toNat)
    case atStart => exact ⟨0, [], Nat.zero_le _, rfl, by simp, rfl, rfl, World.ownsRow_nil _ _ _ _, hb1⟩
    case round =>
      obtain ⟨k, q, hk, rfl, hq, HQ, HA, hown, hb⟩ := hrel
      have hz := hb.size
      by_cases hlt : k < r.length
      · obtain ⟨gb, ob, rfl, hcb⟩ := (A2.out.keep hb).at_ (ne_nil_of_lt hlt)
        have c1 := hcb k hlt
        have HAC : Hid ((r.drop k).any (trBad l) = (trBad l r[k] || (r.drop (k + 1)).any (trBad l))) := by
          show _ = _; rw [List.drop_eq_getElem_cons hlt]; rfl
        have HQC : Hid ((q ++ [trOne l m r[k]]) ++ (r.drop (k + 1)).map (trOne l m) = r.map (trOne l m)) := by
          show _ = _; rw [← HQ.out, List.drop_eq_getElem_cons hlt, List.map_cons, List.append_assoc]; rfl
        have HO := Lib.hid hown
        generalize r[k] = x at *
        clear hcb hown
        by_cases h2 : x = -2
        · subst h2
          have HN : Hid ((r.drop (k + 1)).any (trBad l) = r.any (trBad l)) := by show _ = _; rw [← HA.out, HAC.out]; simp [trBad]
          have HS := HQC.out
          rw [show trOne l m (-2) = -2 by simp [trOne]] at HS
          have HS := Lib.hid HS
          clear HQC HA HAC HQ
          go_wp2_with (at_builtin; refine wpList_append_own _ rfl (.tmp 61) (.tmp 63) 22 rfl w.heap.size 3 i0 (.int .i64 0) 1 8 Try.underlying22 hi hz0 hz1 hz2 rfl (by decide) _ _ _ rfl (HO.out.alloc _) ⟨_, 0, none⟩ 1 1 [.int .i64 (-2)] rfl rfl (fun j u hj => by match j, hj with | 0, hj => simp at hj; subst hj; simp [Addr.add]) (by intro u hu; simp at hu; subst hu; rfl) (by unfold maxLen; omega) (by omega) (by simp; omega) ?_; intro v' w2 hown' hgrow _)
          have hb2 : Below w.heap.size w w2 := grow_below (hb.alloc hz _) (HO.out.alloc _) hgrow (by simp; omega)
          go_roundw
          case rel => exact ⟨k + 1, q ++ [-2], by omega, by go_num, by simp; omega, HS, HN, by simpa using hown', hb2⟩
          case measure => simp [intOf]; omega
        · have hx2 : (x == -2) = false := beq_eq_false_iff_ne.2 h2
          have hx2' : (x != -2) = true := by rw [bne_iff_ne]; exact h2
          by_cases h3 : x < 0
          · have HN : Hid (r.any (trBad l) = true) := by show _ = _; rw [← HA.out, HAC.out]; simp [trBad, h2, h3]
            have HT : Hid (trE l m r = 11) := by show _ = _; rw [HTE.out, HN.out, if_pos rfl]
            have HV : Hid (trV l m r = []) := by show _ = _; unfold trV; rw [HT.out, if_neg (by decide)]
            clear HQC HA HAC h2 HQ
            go_wp2_with fail
            go_ret2
            rw [HT.out, HV.out]
            exact ⟨_, rfl, NewInts.nil _ _, hb⟩
          · by_cases h4 : (l.length : Int) ≤ x
            · have HN : Hid (r.any (trBad l) = true) := by show _ = _; rw [← HA.out, HAC.out]; simp [trBad, h2, h4]
              have HT : Hid (trE l m r = 11) := by show _ = _; rw [HTE.out, HN.out, if_pos rfl]
              have HV : Hid (trV l m r = []) := by show _ = _; unfold trV; rw [HT.out, if_neg (by decide)]
              clear HQC HA HAC h2 HQ
              go_wp2_with fail
              go_ret2
              rw [HT.out, HV.out]
              exact ⟨_, rfl, NewInts.nil _ _, hb⟩
            · obtain ⟨xn, rfl⟩ := Int.eq_ofNat_of_zero_le (show 0 ≤ x by omega)
              have hxl : xn < l.length := by omega
              have HN : Hid ((r.drop (k + 1)).any (trBad l) = r.any (trBad l)) := by
                show _ = _; rw [← HA.out, HAC.out]
                have h5 : ¬ ((l.length : Int) ≤ (xn : Int)) := h4
                simp [trBad]; omega
              obtain ⟨ga, oa, rfl, hca⟩ := (A0.out.keep hb).at_ (ne_nil_of_lt hxl)
              have c4 := hca xn hxl
              have HF : Hid (trOne l m (xn : Int) = if idxL m l[xn] < 0 then -2 else idxL m l[xn]) := by
                show _ = _; unfold trOne; rw [if_neg h2]
                have : l.getD ((xn : Int)).toNat 0 = l[xn] := by simp [List.getD, hxl]
                rw [this]
              generalize l[xn] = y at *
              have hix := index_ref (A1.out.keep hb) cap' y
              by_cases hneg : idxL m y < 0
              · have HS := HQC.out
                rw [HF.out, if_pos hneg] at HS
                have HS := Lib.hid HS
                generalize idxL m y = ix at *
                clear HQC HA HAC h2 hca HF HQ
                go_wp2_with (first
                  | (refine hix.mono ?_; rintro e w' ⟨rfl, hw⟩; have hw := hw.symm; subst hw)
                  | (at_builtin; refine wpList_append_own _ rfl (.tmp 61) (.tmp 63) 22 rfl w.heap.size 3 i0 (.int .i64 0) 1 8 Try.underlying22 hi hz0 hz1 hz2 rfl (by decide) _ _ _ rfl (HO.out.alloc _) ⟨_, 0, none⟩ 1 1 [.int .i64 (-2)] rfl rfl (fun j u hj => by match j, hj with | 0, hj => simp at hj; subst hj; simp [Addr.add]) (by intro u hu; simp at hu; subst hu; rfl) (by unfold maxLen; omega) (by omega) (by simp; omega) ?_; intro v' w2 hown' hgrow _))
                have hb2 : Below w.heap.size w w2 := grow_below (hb.alloc hz _) (HO.out.alloc _) hgrow (by simp; omega)
                go_roundw
                case rel => exact ⟨k + 1, q ++ [-2], by omega, by go_num, by simp; omega, HS, HN, by simpa using hown', hb2⟩
                case measure => simp [intOf]; omega
              · have HS := HQC.out
                rw [HF.out, if_neg hneg] at HS
                have HS := Lib.hid HS
                generalize idxL m y = ix at *
                clear HQC HA HAC h2 hca HF HQ
                go_wp2_with (first
                  | (refine hix.mono ?_; rintro e w' ⟨rfl, hw⟩; have hw := hw.symm; subst hw)
                  | (at_builtin; refine wpList_append_own _ rfl (.tmp 61) (.tmp 63) 22 rfl w.heap.size 3 i0 (.int .i64 0) 1 8 Try.underlying22 hi hz0 hz1 hz2 rfl (by decide) _ _ _ rfl (HO.out.alloc _) ⟨_, 0, none⟩ 1 1 [.int .i64 ix] rfl rfl (fun j u hj => by match j, hj with | 0, hj => simp at hj; subst hj; simp [Addr.add]) (by intro u hu; simp at hu; subst hu; rfl) (by unfold maxLen; omega) (by omega) (by simp; omega) ?_; intro v' w2 hown' hgrow _))
                have hb2 : Below w.heap.size w w2 := grow_below (hb.alloc hz _) (HO.out.alloc _) hgrow (by simp; omega)
                go_roundw
                case rel => exact ⟨k + 1, q ++ [ix], by omega, by go_num, by simp; omega, HS, HN, by simpa using hown', hb2⟩
                case measure => simp [intOf]; omega
      · have HN : Hid (r.any (trBad l) = false) := by show _ = _; rw [← HA.out, drop_end hlt]; rfl
        have HT : Hid (trE l m r = 0) := by show _ = _; rw [HTE.out, HN.out]; rfl
        have HV : Hid (trV l m r = q) := by
          show _ = _; unfold trV; rw [HT.out, if_pos rfl, ← HQ.out, drop_end hlt]; simp
        have HO := Lib.hid hown
        clear HA HQ hown
        go_wp2_with fail
        go_ret2
        rw [HT.out, HV.out]
        exact ⟨_, rfl, ⟨HO.out, by omega⟩, hb⟩
  · have hne2 : (pairErr l m != 0) = true := by rw [bne_iff_ne]; exact he
    have HT : Hid (trE l m r = pairErr l m) := by show _ = _; unfold trE; rw [if_neg he]
    have HV : Hid (trV l m r = []) := by show _ = _; unfold trV; rw [HT.out, if_neg he]
    rw [HT.out, HV.out]
    clear HT HV
    generalize pairErr l m = x at *
    go_enter Try.func31, Try.ntmps31
    go_wp2_with (refine hd.mono ?_; rintro e w1 ⟨rfl, hb⟩)
    go_ret2
    exact ⟨_, rfl, NewInts.nil _ _, hb⟩
end Go.Proofs.Ytoloiingodigpaa
