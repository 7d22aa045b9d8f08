import Derived.Test.YtoloiingodigpaaGI
namespace Go.Proofs.Ytoloiingodigpaa
open Go.RowKit Go.Shelf
attribute [local go_sem] Oper.semAt_some litE
set_option maxRecDepth 100000
set_option maxHeartbeats 2000000

theorem Incl_ref {w : World} {a b : Option Addr} {l r : List Int} (h : Ints w a l) (hr : Ints w b r) (cap cap' : Nat) (hcap : l.length ≤ cap) (hcap' : r.length ≤ cap') :
    Calls Try.prog 27 #[.slice a l.length cap, .slice b r.length cap'] w fun e w' => ∃ v, e = .returned (.tuple #[v, .int .i64 (rankErr l r)]) ∧ NewInts w.heap.size w' v (inclL l r) ∧ Below w.heap.size w w' := by
  have hd := ranked_ref h hr cap cap' hcap hcap'
  have HA := Lib.hid h
  have HB := Lib.hid hr
  have hlen := h.len
  have hlen2 := hr.len
  obtain ⟨i0, hi, hz0, hz1, hz2⟩ := info_parts Try.info3
  clear h hr
  by_cases he : rankErr l r = 0
  · have HL : Hid (inclL l r = takeL l r) := by show _ = _; unfold inclL; rw [if_pos he]
    obtain ⟨_, _, hin, _⟩ := rank_facts he
    rw [HL.out]
    have HE := Lib.hid he
    have HIN := Lib.hid hin
    rw [he] at hd ⊢
    clear he hin
    go_enter Try.func27, Try.ntmps27
    go_wp2_with fail
    refine hd.mono ?_
    rintro e w1 ⟨rfl, hb1⟩
    clear hd
    go_wp2_with fail
    go_loopw [7, 8] (fun t i wr => ∃ (k : Nat) (q : List Int), k ≤ r.length ∧ i = .int .i64 k ∧ q.length ≤ k ∧ Hid (q ++ takeL l (r.drop k) = takeL l r) ∧ wr.ownsRow w.heap.size 3 1 t q.length (q.map (Value.int .i64)) ∧ Below w.heap.size w wr)
      (fun _ i _ => r.length - (intOf i).toNat)
    case atStart => exact ⟨0, [], Nat.zero_le _, rfl, by simp, rfl, World.ownsRow_nil _ _ _ _, hb1⟩
    case round =>
      obtain ⟨k, q, hk, rfl, hq, HEQ, hown, hb⟩ := hrel
      have hz := hb.size
      by_cases hlt : k < r.length
      · obtain ⟨gb, ob, rfl, hcb⟩ := (HB.out.keep hb).at_ (ne_nil_of_lt hlt)
        have c1 := hcb k hlt
        obtain ⟨hx0, hx1⟩ := HIN.out r[k] (List.getElem_mem hlt)
        have HC : Hid (takeL l (r.drop k) = l.getD r[k].toNat 0 :: takeL l (r.drop (k + 1))) := by
          show _ = _; rw [List.drop_eq_getElem_cons hlt]; rfl
        generalize r[k] = x at *
        obtain ⟨rn, rfl⟩ := Int.eq_ofNat_of_zero_le hx0
        have hrl : rn < l.length := by omega
        obtain ⟨ga, oa, rfl, hca⟩ := (HA.out.keep hb).at_ (ne_nil_of_lt hrl)
        have c2 := hca rn hrl
        have e2 : l.getD (rn : Int).toNat 0 = l[rn] := by simp [List.getD, hrl]
        rw [e2] at HC
        generalize l[rn] = y at *
        have HN : Hid ((q ++ [y]) ++ takeL l (r.drop (k + 1)) = takeL l r) := by show _ = _; rw [← HEQ.out, HC.out]; simp
        have HO := Lib.hid hown
        clear hown hcb hca e2 HC HEQ
        go_wp2_with (at_builtin; refine wpList_append_own _ rfl (.tmp 21) (.tmp 29) 22 rfl w.heap.size 3 i0 (.int .i64 0) 1 8 Try.underlying22 hi hz0 hz1 hz2 rfl (by decide) _ _ _ rfl (HO.out.alloc _) ⟨_, 0, none⟩ 1 1 [.int .i64 y] rfl rfl (fun j u hj => by match j, hj with | 0, hj => simp at hj; subst hj; simp [Addr.add]) (by intro u hu; simp at hu; subst hu; rfl) (by unfold maxLen; omega) (by omega) (by simp; omega) ?_; intro v' w2 hown' hgrow _)
        have hb2 : Below w.heap.size w w2 := grow_below (hb.alloc hz _) (HO.out.alloc _) hgrow (by simp; omega)
        go_roundw
        case rel => exact ⟨k + 1, q ++ [y], by omega, by go_num, by simp; omega, HN, by simpa using hown', hb2⟩
        case measure => simp [intOf]; omega
      · have HN : Hid (q = takeL l r) := by show _ = _; rw [← HEQ.out, drop_end hlt]; simp [takeL]
        have HO := Lib.hid hown
        clear hown
        go_wp2_with fail
        go_ret2
        refine ⟨_, rfl, ?_, hb⟩
        rw [← HN.out]
        exact ⟨HO.out, by omega⟩
  · have HL : Hid (inclL l r = []) := by show _ = _; unfold inclL; rw [if_neg he]
    rw [HL.out]
    have hne2 : (rankErr l r != 0) = true := by rw [bne_iff_ne]; exact he
    have hne : (rankErr l r == 0) = false := beq_eq_false_iff_ne.2 he
    generalize rankErr l r = x at *
    go_enter Try.func27, Try.ntmps27
    go_wp2_with (refine hd.mono ?_; rintro e w1 ⟨rfl, hb⟩)
    go_ret2
    exact ⟨_, rfl, NewInts.nil _ _, hb⟩

theorem Excl_ref {w : World} {a b : Option Addr} {l r : List Int} (h : Ints w a l) (hr : Ints w b r) (cap cap' : Nat) (hcap : l.length ≤ cap) (hcap' : r.length ≤ cap') :
    Calls Try.prog 29 #[.slice a l.length cap, .slice b r.length cap'] w fun e w' => ∃ v, e = .returned (.tuple #[v, .int .i64 (rankErr l r)]) ∧ NewInts w.heap.size w' v (exclL l r) ∧ Below w.heap.size w w' := by
  have hd := ranked_ref h hr cap cap' hcap hcap'
  have HA := Lib.hid h
  have HB := Lib.hid hr
  have hlen := h.len
  have hlen2 := hr.len
  obtain ⟨i0, hi, hz0, hz1, hz2⟩ := info_parts Try.info3
  clear h hr
  by_cases he : rankErr l r = 0
  · have HL : Hid (exclL l r = pickF (fun i => !inS r i) 0 l) := by show _ = _; unfold exclL; rw [if_pos he]
    rw [HL.out]
    have hpl := pickF_len (fun i => !inS r i) l 0
    have HE := Lib.hid he
    rw [he] at hd ⊢
    clear he
    go_enter Try.func29, Try.ntmps29
    go_wp2_with fail
    refine hd.mono ?_
    rintro e w1 ⟨rfl, hb1⟩
    clear hd
    go_wp2_with fail
    go_loopw [7, 8] (fun t i wr => ∃ (k : Nat) (q : List Int), k ≤ l.length ∧ i = .int .i64 k ∧ q.length ≤ k ∧ Hid (q ++ pickF (fun i => !inS r i) k (l.drop k) = pickF (fun i => !inS r i) 0 l) ∧ wr.ownsRow w.heap.size 3 1 t q.length (q.map (Value.int .i64)) ∧ Below w.heap.size w wr)
      (fun _ i _ => l.length - (intOf i).toNat)
    case atStart => exact ⟨0, [], Nat.zero_le _, rfl, by simp, rfl, World.ownsRow_nil _ _ _ _, hb1⟩
    case round =>
      obtain ⟨k, q, hk, rfl, hq, HEQ, hown, hb⟩ := hrel
      have hz := hb.size
      by_cases hlt : k < l.length
      · obtain ⟨ga, oa, rfl, hca⟩ := (HA.out.keep hb).at_ (ne_nil_of_lt hlt)
        have c2 := hca k hlt
        have hI := index_ref (HB.out.keep hb) cap' (k : Int)
        have HX := Lib.hid (idxL_mem r (k : Int))
        have HC : Hid (pickF (fun i => !inS r i) k (l.drop k) = if (!inS r k) = true then l[k] :: pickF (fun i => !inS r i) (k + 1) (l.drop (k + 1)) else pickF (fun i => !inS r i) (k + 1) (l.drop (k + 1))) := by
          show _ = _; rw [List.drop_eq_getElem_cons hlt]; rfl
        generalize l[k] = y at *
        have HO := Lib.hid hown
        clear hown hca
        by_cases hm : (k : Int) ∈ r
        · have HN : Hid (q ++ pickF (fun i => !inS r i) (k + 1) (l.drop (k + 1)) = pickF (fun i => !inS r i) 0 l) := by show _ = _; rw [← HEQ.out, HC.out, if_neg (by simp [inS, hm])]
          have hge : 0 ≤ idxL r k := HX.out.2 hm
          generalize idxL r k = ix at *
          clear hm HC HEQ HX
          go_wp2_with (refine hI.mono ?_; rintro e w' ⟨rfl, hw⟩; have hw := hw.symm; subst hw)
          go_roundw
          case rel => exact ⟨k + 1, q, by omega, by go_num, by omega, HN, HO.out, hb⟩
          case measure => simp [intOf]; omega
        · have HN : Hid ((q ++ [y]) ++ pickF (fun i => !inS r i) (k + 1) (l.drop (k + 1)) = pickF (fun i => !inS r i) 0 l) := by show _ = _; rw [← HEQ.out, HC.out, if_pos (by simp [inS, hm])]; simp
          have hge : idxL r k < 0 := Int.not_le.1 (fun hh => hm (HX.out.1 hh))
          generalize idxL r k = ix at *
          clear hm HC HEQ HX
          go_wp2_with (first
            | (refine hI.mono ?_; rintro e w' ⟨rfl, hw⟩; have hw := hw.symm; subst hw)
            | (at_builtin; refine wpList_append_own _ rfl (.tmp 25) (.tmp 30) 22 rfl w.heap.size 3 i0 (.int .i64 0) 1 8 Try.underlying22 hi hz0 hz1 hz2 rfl (by decide) _ _ _ rfl (HO.out.alloc _) ⟨_, 0, none⟩ 1 1 [.int .i64 y] rfl rfl (fun j u hj => by match j, hj with | 0, hj => simp at hj; subst hj; simp [Addr.add]) (by intro u hu; simp at hu; subst hu; rfl) (by unfold maxLen; omega) (by omega) (by simp; omega) ?_; intro v' w2 hown' hgrow _))
          have hb2 : Below w.heap.size w w2 := grow_below (hb.alloc hz _) (HO.out.alloc _) hgrow (by simp; omega)
          go_roundw
          case rel => exact ⟨k + 1, q ++ [y], by omega, by go_num, by simp; omega, HN, by simpa using hown', hb2⟩
          case measure => simp [intOf]; omega
      · have HN : Hid (q = pickF (fun i => !inS r i) 0 l) := by show _ = _; rw [← HEQ.out, drop_end hlt]; simp [pickF]
        have HO := Lib.hid hown
        clear hown
        go_wp2_with fail
        go_ret2
        refine ⟨_, rfl, ?_, hb⟩
        rw [← HN.out]
        exact ⟨HO.out, by omega⟩
  · have HL : Hid (exclL l r = []) := by show _ = _; unfold exclL; rw [if_neg he]
    rw [HL.out]
    have hne2 : (rankErr l r != 0) = true := by rw [bne_iff_ne]; exact he
    have hne : (rankErr l r == 0) = false := beq_eq_false_iff_ne.2 he
    generalize rankErr l r = x at *
    go_enter Try.func29, Try.ntmps29
    go_wp2_with (refine hd.mono ?_; rintro e w1 ⟨rfl, hb⟩)
    go_ret2
    exact ⟨_, rfl, NewInts.nil _ _, hb⟩
end Go.Proofs.Ytoloiingodigpaa
