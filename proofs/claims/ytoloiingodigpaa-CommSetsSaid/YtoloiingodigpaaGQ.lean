import Derived.Test.YtoloiingodigpaaGP
namespace Go.Proofs.Ytoloiingodigpaa
open Go.RowKit Go.Shelf
attribute [local go_sem] Oper.semAt_some litE
set_option maxRecDepth 100000
set_option maxHeartbeats 1000000

theorem member_any {w : World} {a : Option Addr} {l : List Int} (h : Ints w a l) (cap : Nat) (x : Int) :
    Calls Try.prog 55 #[.slice a l.length cap, .int .i64 x] w fun e w' => e = .returned (.bool (decide (x ∈ l))) ∧ w = w' := by
  have hlen := h.len
  go_enter Try.func55, Try.ntmps55
  go_wp2_with fail
  go_loop [9] (fun i => ∃ k : Nat, k ≤ l.length ∧ i = .int .i64 k ∧ Hid (decide (x ∈ l.drop k) = decide (x ∈ l))) (fun i => l.length - (intOf i).toNat)
  case atStart => exact ⟨0, Nat.zero_le _, rfl, rfl⟩
  case round =>
    obtain ⟨k, hk, rfl, HE⟩ := hrel
    by_cases hlt : k < l.length
    · obtain ⟨g, off, rfl, hc⟩ := h.at_ (ne_nil_of_lt hlt)
      have c0 := hc k hlt
      have HC : Hid (decide (x ∈ l.drop k) = decide (x = l[k] ∨ x ∈ l.drop (k + 1))) := by
        show _ = _; rw [List.drop_eq_getElem_cons hlt, decide_eq_decide]; exact List.mem_cons
      generalize l[k] = y at *
      clear hc h
      by_cases hy : x = y
      · subst hy
        have HN : Hid (decide (x ∈ l) = true) := by show _ = _; rw [← HE.out, HC.out]; simp
        clear HE HC
        go_wp2_with fail
        go_ret
        rw [HN.out]
        exact ⟨rfl, rfl⟩
      · have HN : Hid (decide (x ∈ l.drop (k + 1)) = decide (x ∈ l)) := by show _ = _; rw [← HE.out, HC.out]; simp [hy]
        have hb : (x == y) = false := beq_eq_false_iff_ne.2 hy
        clear HE HC
        go_wp2_with fail
        go_round
        case rel => exact ⟨k + 1, by omega, by go_num, HN⟩
        case measure => simp [intOf]; omega
    · have HN : Hid (decide (x ∈ l) = false) := by show _ = _; rw [← HE.out, drop_end hlt]; simp
      clear HE
      go_wp2_with fail
      go_ret
      rw [HN.out]
      exact ⟨rfl, rfl⟩
theorem equal_law {w : World} {a b : Option Addr} {l m : List Int} (h : Ints w a l) (hm : Ints w b m) (cap cap' : Nat) :
    Calls Try.prog 56 #[.slice a l.length cap, .slice b m.length cap'] w fun e w' => e = .returned (.bool (decide (l = m))) ∧ Below w.heap.size w w' := by
  have hlen := h.len
  have hlen2 := hm.len
  by_cases he : l.length = m.length
  · have HE := Lib.hid he
    clear he
    have HL : Hid (∀ k, k < l.length → k < m.length) := fun k hk => by have := HE.out; omega
    rw [← HE.out]
    go_enter Try.func56, Try.ntmps56
    go_wp2_with fail
    go_loopw [13] (fun i wr => ∃ k : Nat, k ≤ l.length ∧ i = .int .i64 k ∧ Hid ((l.drop k = m.drop k) ↔ l = m) ∧ Below w.heap.size w wr) (fun i _ => l.length - (intOf i).toNat)
    case atStart => exact ⟨0, Nat.zero_le _, rfl, by show _ ↔ _; simp, Below.refl _ _⟩
    case round =>
      obtain ⟨k, hk, rfl, HD, hb⟩ := hrel
      by_cases hlt : k < l.length
      · have hlm := HL.out k hlt
        obtain ⟨g, off, rfl, hc⟩ := (h.keep hb).at_ (ne_nil_of_lt hlt)
        obtain ⟨g2, off2, rfl, hc2⟩ := (hm.keep hb).at_ (ne_nil_of_lt hlm)
        have c0 := hc k hlt
        have c1 := hc2 k hlm
        clear hc hc2 h hm
        have hz := hb.size
        by_cases hx : l[k] = m[k]
        · have HN : Hid ((l.drop (k + 1) = m.drop (k + 1)) ↔ l = m) := by
            have h1 := HD.out
            rw [drop_cons_eq hlt hlm] at h1
            show _ ↔ _
            rw [← h1]; simp [hx]
          generalize l[k] = x at *
          subst hx
          go_wp2_with fail
          go_quiet (fail)
          go_wp2_with fail
          go_roundw
          case rel => exact ⟨k + 1, by omega, by go_num, HN, below_drewN hb _⟩
          case measure => simp [intOf]; omega
        · have HN : Hid (decide (l = m) = false) := by
            have h1 := HD.out
            rw [drop_cons_eq hlt hlm] at h1
            show _ = _
            simp [← h1, hx]
          have hx' : ¬ m[k] = l[k] := fun e => hx e.symm
          generalize l[k] = x at *
          generalize m[k] = y at *
          go_wp2_with fail
          go_quiet (fail)
          go_wp2_with fail
          go_ret
          refine ⟨by rw [HN.out]; rfl, below_drewN hb _⟩
      · have HN : Hid (decide (l = m) = true) := by
          have h1 := HD.out
          show _ = _
          rw [decide_eq_true_iff, ← h1]
          rw [List.drop_of_length_le (by omega), List.drop_of_length_le (by have := HE.out; omega)]
        go_wp2_with fail
        go_ret
        exact ⟨by rw [HN.out]; rfl, hb⟩
  · have HN : Hid (decide (l = m) = false) := by
      show _ = _
      simp; intro e; exact he (by rw [e])
    have he' : ¬ ((l.length : Int) = m.length) := by omega
    clear he
    go_enter Try.func56, Try.ntmps56
    go_wp2_with fail
    go_ret
    exact ⟨by rw [HN.out]; rfl, Below.refl _ _⟩
end Go.Proofs.Ytoloiingodigpaa
