import Derived.Test.YtoloiingodigpaaGA
namespace Go.Proofs.Ytoloiingodigpaa
open Go.RowKit Go.Shelf
attribute [local go_sem] Oper.semAt_some litE
set_option maxRecDepth 100000
set_option maxHeartbeats 1000000

theorem check_ref {w : World} {a : Option Addr} {l : List Int} (h : Ints w a l) (cap : Nat) (hcap : l.length ≤ cap) :
    Calls Try.prog 19 #[.slice a l.length cap] w fun e w' => e = .returned (.int .i64 (chkErr l)) ∧ Below w.heap.size w w' := by
  have hlen := h.len
  have hd := different_ref h cap hcap 64
  by_cases hl : 64 < l.length
  · have HN : Hid (chkErr l = 9) := by show _ = _; unfold chkErr; rw [if_pos hl]
    have hl' : (64 : Int) < l.length := by omega
    rw [HN.out]
    go_enter Try.func19, Try.ntmps19
    go_wp2_with fail
    go_ret
    exact ⟨rfl, Below.refl _ _⟩
  · have HN : Hid (chkErr l = setErr [] l 64) := by show _ = _; unfold chkErr; rw [if_neg hl]
    have hl' : ¬ (64 : Int) < l.length := by omega
    rw [HN.out]
    go_enter Try.func19, Try.ntmps19
    go_wp2_with (refine hd.mono ?_; rintro e w' ⟨rfl, hb⟩)
    go_ret
    exact ⟨rfl, hb⟩

theorem both_ref {w : World} {a b : Option Addr} {l m : List Int} (h : Ints w a l) (hm : Ints w b m) (cap cap' : Nat) (hcap : l.length ≤ cap) (hcap' : m.length ≤ cap') :
    Calls Try.prog 63 #[.slice a l.length cap, .slice b m.length cap'] w fun e w' => e = .returned (.int .i64 (pairErr l m)) ∧ Below w.heap.size w w' := by
  have hd := check_ref h cap hcap
  have HM := Lib.hid hm
  clear hm
  by_cases hl : chkErr l = 0
  · have HN : Hid (pairErr l m = chkErr m) := by show _ = _; unfold pairErr; rw [if_pos hl]
    rw [HN.out]
    go_enter Try.func63, Try.ntmps63
    go_wp2_with fail
    refine hd.mono ?_
    rintro e w1 ⟨rfl, hb⟩
    have hd2 := check_ref (HM.out.keep hb) cap' hcap'
    go_wp2_with fail
    refine hd2.mono ?_
    rintro e w2 ⟨rfl, hb2⟩
    go_wp2_with fail
    go_ret
    exact ⟨rfl, hb.trans (hb2.mono hb.size)⟩
  · have HN : Hid (pairErr l m = chkErr l) := by show _ = _; unfold pairErr; rw [if_neg hl]
    rw [HN.out]
    have hne : (chkErr l == 0) = false := beq_eq_false_iff_ne.2 hl
    have hne2 : (chkErr l != 0) = true := by rw [bne_iff_ne]; exact hl
    generalize chkErr l = x at *
    go_enter Try.func63, Try.ntmps63
    go_wp2_with (refine hd.mono ?_; rintro e w1 ⟨rfl, hb⟩)
    go_ret
    exact ⟨rfl, hb⟩

/-- the numbers of a that b has, or has not -/
def chosenL (a b : List Int) (has : Bool) : List Int := a.filter fun x => decide (x ∈ b) == has
theorem chosenL_len (a b : List Int) (has : Bool) : (chosenL a b has).length ≤ a.length := List.length_filter_le _ _

theorem chosen_ref {w : World} {a b : Option Addr} {l m : List Int} (h : Ints w a l) (hm : Ints w b m) (cap cap' : Nat) (has : Bool) :
    Calls Try.prog 64 #[.slice a l.length cap, .slice b m.length cap', .bool has] w fun e w' => ∃ v, e = .returned v ∧ NewInts w.heap.size w' v (chosenL l m has) ∧ Below w.heap.size w w' := by
  have hlen := h.len
  have HM := Lib.hid hm
  clear hm
  obtain ⟨i0, hi, hz0, hz1, hz2⟩ := info_parts Try.info3
  have hcl := chosenL_len l m has
  go_enter Try.func64, Try.ntmps64
  go_wp2_with fail
  go_loopw [7, 8] (fun t i wr => ∃ (k : Nat) (r : List Int), k ≤ l.length ∧ i = .int .i64 k ∧ r.length ≤ k ∧ Hid (r ++ chosenL (l.drop k) m has = chosenL l m has) ∧ wr.ownsRow w.heap.size 3 1 t r.length (r.map (Value.int .i64)) ∧ Below w.heap.size w wr)
    (fun _ i _ => l.length - (intOf i).toNat)
  case atStart => exact ⟨0, [], Nat.zero_le _, rfl, by simp, rfl, World.ownsRow_nil _ _ _ _, Below.refl _ _⟩
  case round =>
    obtain ⟨k, r, hk, rfl, hr, HE, hown, hb⟩ := hrel
    by_cases hlt : k < l.length
    · obtain ⟨gg, off, rfl, hc⟩ := h.at_ (ne_nil_of_lt hlt)
      have c0 := hc k hlt
      have d0 := (hb.cell (p := ⟨gg, off + k, none⟩) (block_lt_of_cell c0)).trans c0
      have hz := hb.size
      have hI := index_ref (HM.out.keep hb) cap' l[k]
      have HX := Lib.hid (idxL_mem m l[k])
      have HC : Hid (chosenL (l.drop k) m has = if (decide (l[k] ∈ m) == has) = true then l[k] :: chosenL (l.drop (k + 1)) m has else chosenL (l.drop (k + 1)) m has) := by
        show _ = _
        rw [List.drop_eq_getElem_cons hlt]; unfold chosenL; rw [List.filter_cons]
      generalize l[k] = x at *
      have HO := Lib.hid hown
      clear hc c0 hown
      have hdec : decide (0 ≤ idxL m x) = decide (x ∈ m) := by
        rw [decide_eq_decide]; exact HX.out
      cases hq : (decide (x ∈ m) == has) with
      | true =>
        have HN : Hid ((r ++ [x]) ++ chosenL (l.drop (k + 1)) m has = chosenL l m has) := by
          show _ = _; rw [← HE.out, HC.out, if_pos hq]; simp
        have hdq : (decide (0 ≤ idxL m x) == has) = true := by rw [hdec]; exact hq
        generalize idxL m x = ix at *
        clear hq hdec HX HC HE
        go_wp2_with (first
          | (refine hI.mono ?_; rintro e w' ⟨rfl, hw⟩; have hw := hw.symm; subst hw)
          | (at_builtin; refine wpList_append_own _ rfl (.tmp 24) (.tmp 29) 22 rfl w.heap.size 3 i0 (.int .i64 0) 1 8 Try.underlying22 hi hz0 hz1 hz2 rfl (by decide) _ _ _ rfl (HO.out.alloc _) ⟨wr.heap.size, 0, none⟩ 1 1 [.int .i64 x] rfl rfl (fun j u hj => by match j, hj with | 0, hj => simp at hj; subst hj; simp [Addr.add]) (by intro u hu; simp at hu; subst hu; rfl) (by unfold maxLen; omega) (by omega) (by simp; omega) ?_; intro v' w1 hown' hgrow _))
        have hb1 : Below w.heap.size w w1 := grow_below (hb.alloc hz _) (HO.out.alloc _) hgrow (by simp; omega)
        go_roundw
        case rel => exact ⟨k + 1, r ++ [x], by omega, by go_num, by simp; omega, HN, by simpa using hown', hb1⟩
        case measure => simp [intOf]; omega
      | false =>
        have HN : Hid (r ++ chosenL (l.drop (k + 1)) m has = chosenL l m has) := by
          show _ = _; rw [← HE.out, HC.out, if_neg (by rw [hq]; decide)]
        have hdq : (decide (0 ≤ idxL m x) == has) = false := by rw [hdec]; exact hq
        generalize idxL m x = ix at *
        clear hq hdec HX HC HE
        go_wp2_with (first
          | (refine hI.mono ?_; rintro e w' ⟨rfl, hw⟩; have hw := hw.symm; subst hw))
        go_roundw
        case rel => exact ⟨k + 1, r, by omega, by go_num, by omega, HN, HO.out, hb⟩
        case measure => simp [intOf]; omega
    · have HN : Hid (r = chosenL l m has) := by show _ = _; rw [← HE.out, drop_end hlt]; simp [chosenL]
      have HO := Lib.hid hown
      clear hown
      go_wp2_with fail
      go_ret
      refine ⟨_, rfl, ?_, hb⟩
      rw [← HN.out]
      exact ⟨HO.out, by omega⟩
end Go.Proofs.Ytoloiingodigpaa
