import Derived.Test.YtoloiingodigpaaGF
namespace Go.Proofs.Ytoloiingodigpaa
open Go.RowKit Go.Shelf
attribute [local go_sem] Oper.semAt_some litE
set_option maxRecDepth 100000
set_option maxHeartbeats 1000000

theorem Compare_ref {w : World} {a b : Option Addr} {l m : List Int} (h : Ints w a l) (hm : Ints w b m) (cap cap' : Nat) (hcap : l.length ≤ cap) (hcap' : m.length ≤ cap') :
    Calls Try.prog 25 #[.slice a l.length cap, .slice b m.length cap'] w fun e w' => e = .returned (.tuple #[.int .i64 (if pairErr l m = 0 then cmpR l m else 0), .int .i64 (pairErr l m)]) ∧ Below w.heap.size w w' := by
  have hd := both_ref h hm cap cap' hcap hcap'
  have HA := Lib.hid h
  have HB := Lib.hid hm
  clear h hm
  by_cases hl : pairErr l m = 0
  · have HL := Lib.hid hl
    rw [if_pos hl]
    rw [hl] at hd ⊢
    clear hl
    go_enter Try.func25, Try.ntmps25
    go_wp2_with fail
    refine hd.mono ?_
    rintro e w1 ⟨rfl, hb⟩
    have hs := same_ints (HA.out.keep hb) (HB.out.keep hb) cap cap'
    go_wp2_with fail
    refine hs.mono ?_
    rintro e w2 ⟨rfl, hb2⟩
    have hb3 := hb.trans (hb2.mono hb.size)
    clear hs hd
    by_cases e : l = m
    · have HN : Hid (cmpR l m = 1) := by show _ = _; unfold cmpR; rw [if_pos e]
      rw [show decide (l = m) = true by simp [e]]
      go_wp2_with fail
      go_ret2
      rw [HN.out]
      exact ⟨rfl, hb3⟩
    · rw [show decide (l = m) = false by simp [e]]
      by_cases hlen : l.length = m.length
      · have hch := chosen_ref (HA.out.keep hb3) (HB.out.keep hb3) cap cap' false
        rw [← hlen] at hch hcap' ⊢
        have HLEN := Lib.hid hlen
        by_cases hz : (chosenL l m false).length = 0
        · have HN : Hid (cmpR l m = 2) := by show _ = _; unfold cmpR; rw [if_neg e, if_pos ⟨hlen, hz⟩]
          clear e hlen
          go_wp2_with fail
          refine hch.mono ?_
          rintro e w3 ⟨v, rfl, hv, hb4⟩
          obtain ⟨av, cv, rfl, _⟩ := hv.ints
          have hzi : ((chosenL l m false).length : Int) = 0 := by omega
          clear hch hv
          go_wp2_with fail
          go_ret2
          rw [HN.out]
          exact ⟨rfl, hb3.trans (hb4.mono hb3.size)⟩
        · have HN : Hid (cmpR l m = 3) := by show _ = _; unfold cmpR; rw [if_neg e, if_neg (fun x => hz x.2)]
          clear e hlen
          go_wp2_with fail
          refine hch.mono ?_
          rintro e w3 ⟨v, rfl, hv, hb4⟩
          obtain ⟨av, cv, rfl, _⟩ := hv.ints
          have hzi : (((chosenL l m false).length : Int) == 0) = false := beq_eq_false_iff_ne.2 (by omega)
          clear hch hv
          go_wp2_with fail
          go_ret2
          rw [HN.out]
          exact ⟨rfl, hb3.trans (hb4.mono hb3.size)⟩
      · have HN : Hid (cmpR l m = 3) := by show _ = _; unfold cmpR; rw [if_neg e, if_neg (fun x => hlen x.1)]
        have hlen' : ((l.length : Int) == m.length) = false := beq_eq_false_iff_ne.2 (by omega)
        clear e hlen
        go_wp2_with fail
        go_ret2
        rw [HN.out]
        exact ⟨rfl, hb3⟩
  · rw [if_neg hl]
    have hne2 : (pairErr l m != 0) = true := by rw [bne_iff_ne]; exact hl
    have hne : (pairErr l m == 0) = false := beq_eq_false_iff_ne.2 hl
    generalize pairErr l m = x at *
    go_enter Try.func25, Try.ntmps25
    go_wp2_with (refine hd.mono ?_; rintro e w1 ⟨rfl, hb⟩)
    go_ret2
    exact ⟨rfl, hb⟩

/-- lists have at most 100 elements -/
theorem few_any {w : World} (g : Nat) (L : List (Option Addr × Nat × Nat)) (hL : L.length ≤ 8) (hc : ∀ j (h : j < L.length), w.cell? ⟨g, j, none⟩ = some (.slice L[j].1 L[j].2.1 L[j].2.2)) (hb : ∀ x ∈ L, x.2.1 ≤ 17592186044416) :
    Calls Try.prog 13 #[.slice (some ⟨g, 0, none⟩) L.length L.length] w fun e w' => e = .returned (.bool (L.all fun x => decide (x.2.1 ≤ 100))) ∧ w = w' := by
  have HC := Lib.hid hc
  have HB := Lib.hid hb
  clear hc hb
  go_enter Try.func13, Try.ntmps13
  go_wp2_with fail
  go_loop [3] (fun i => ∃ k : Nat, k ≤ L.length ∧ i = .int .i64 k ∧ Hid ((L.drop k).all (fun x => decide (x.2.1 ≤ 100)) = L.all fun x => decide (x.2.1 ≤ 100))) (fun i => L.length - (intOf i).toNat)
  case atStart => exact ⟨0, Nat.zero_le _, rfl, rfl⟩
  case round =>
    obtain ⟨k, hk, rfl, HE⟩ := hrel
    by_cases hlt : k < L.length
    · have c0 := HC.out k hlt
      have HX : Hid ((L.drop k).all (fun x => decide (x.2.1 ≤ 100)) = (decide (L[k].2.1 ≤ 100) && (L.drop (k + 1)).all fun x => decide (x.2.1 ≤ 100))) := by
        show _ = _; rw [List.drop_eq_getElem_cons hlt, List.all_cons]
      have hbk := HB.out L[k] (List.getElem_mem hlt)
      generalize L[k] = x at *
      obtain ⟨xa, xn, xc⟩ := x
      simp only at c0 hbk
      by_cases h1 : xn ≤ 100
      · have h2 : ¬ (100 : Int) < xn := by omega
        have HN : Hid ((L.drop (k + 1)).all (fun x => decide (x.2.1 ≤ 100)) = L.all fun x => decide (x.2.1 ≤ 100)) := by
          show _ = _; rw [← HE.out, HX.out]; simp [h1]
        clear HE HX
        go_wp2_with fail
        go_round
        case rel => exact ⟨k + 1, by omega, by go_num, HN⟩
        case measure => simp [intOf]; omega
      · have h2 : (100 : Int) < xn := by omega
        have HN : Hid ((L.all fun x => decide (x.2.1 ≤ 100)) = false) := by
          show _ = _; rw [← HE.out, HX.out]; simp [h1]
        clear HE HX
        go_wp2_with fail
        go_ret
        rw [HN.out]
        exact ⟨rfl, rfl⟩
    · have HN : Hid ((L.all fun x => decide (x.2.1 ≤ 100)) = true) := by
        show _ = _; rw [← HE.out, drop_end hlt]; rfl
      clear HE
      go_wp2_with fail
      go_ret
      rw [HN.out]
      exact ⟨rfl, rfl⟩
end Go.Proofs.Ytoloiingodigpaa
