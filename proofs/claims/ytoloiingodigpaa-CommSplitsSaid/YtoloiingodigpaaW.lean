import Derived.Test.YtoloiingodigpaaF
import Derived.BigQuiet
namespace Go.Proofs.Ytoloiingodigpaa
open Go.RowKit Go.Shelf
attribute [local go_sem] Oper.semAt_some

theorem below_drewN {B : Nat} {a w : World} (h : Below B a w) (n : Nat) : Below B a (w.drewN n) := h.trans ⟨rfl, rfl, rfl, Nat.le_refl _, fun _ _ => rfl⟩

/-- the lists are equal from k on -/
theorem drop_cons_eq {l m : List Int} {k : Nat} (hl : k < l.length) (hm : k < m.length) : (l.drop k = m.drop k) = (l[k] = m[k] ∧ l.drop (k + 1) = m.drop (k + 1)) := by
  rw [List.drop_eq_getElem_cons hl, List.drop_eq_getElem_cons hm, List.cons.injEq]

set_option maxRecDepth 100000 in
set_option maxHeartbeats 1000000 in
theorem same_ints {w : World} {a b : Option Addr} {l m : List Int} (h : Ints w a l) (hm : Ints w b m) (cap cap' : Nat) :
    Calls Try.prog 47 #[.slice a l.length cap, .slice b m.length cap'] w fun e w' => e = .returned (.bool (decide (l = m))) ∧ Below w.heap.size w w' := by
  have hlen := h.len
  have hlen2 := hm.len
  by_cases he : l.length = m.length
  · have HE := Lib.hid he
    clear he
    have HL : Hid (∀ k, k < l.length → k < m.length) := fun k hk => by have := HE.out; omega
    rw [← HE.out]
    go_enter Try.func47, Try.ntmps47
    go_wp2_with fail
    go_loopw [5] (fun i wr => ∃ k : Nat, k ≤ l.length ∧ i = .int .i64 k ∧ Hid ((l.drop k = m.drop k) ↔ l = m) ∧ Below w.heap.size w wr) (fun i _ => l.length - (intOf i).toNat)
    case atStart => exact ⟨0, Nat.zero_le _, rfl, by show _ ↔ _; simp, Below.refl _ _⟩
    case round =>
      obtain ⟨k, hk, rfl, HD, hb⟩ := hrel
      by_cases hlt : k < l.length
      · have hlm := HL.out k hlt
        obtain ⟨g, off, rfl, hc⟩ := (h.keep hb).at_ (ne_nil_of_lt hlt)
        obtain ⟨g2, off2, rfl, hc2⟩ := (hm.keep hb).at_ (ne_nil_of_lt hlm)
        have c0 := hc k hlt
        have c1 := hc2 k hlm
        clear hc hc2 h hm
        have hz := hb.size
        by_cases hx : l[k] = m[k]
        · have HN : Hid ((l.drop (k + 1) = m.drop (k + 1)) ↔ l = m) := by
            have h1 := HD.out
            rw [drop_cons_eq hlt hlm] at h1
            show _ ↔ _
            rw [← h1]; simp [hx]
          generalize l[k] = x at *
          subst hx
          go_wp2_with fail
          go_quiet (fail)
          go_wp2_with fail
          go_roundw
          case rel => exact ⟨k + 1, by omega, by go_num, HN, below_drewN hb _⟩
          case measure => simp [intOf]; omega
        · have HN : Hid (decide (l = m) = false) := by
            have h1 := HD.out
            rw [drop_cons_eq hlt hlm] at h1
            show _ = _
            simp [← h1, hx]
          have hx' : ¬ m[k] = l[k] := fun e => hx e.symm
          generalize l[k] = x at *
          generalize m[k] = y at *
          go_wp2_with fail
          go_quiet (fail)
          go_wp2_with fail
          go_ret
          refine ⟨by rw [HN.out]; rfl, below_drewN hb _⟩
      · have HN : Hid (decide (l = m) = true) := by
          have h1 := HD.out
          show _ = _
          rw [decide_eq_true_iff, ← h1]
          rw [List.drop_of_length_le (by omega), List.drop_of_length_le (by have := HE.out; omega)]
        go_wp2_with fail
        go_ret
        exact ⟨by rw [HN.out]; rfl, hb⟩
  · have HN : Hid (decide (l = m) = false) := by
      show _ = _
      simp; intro e; exact he (by rw [e])
    have he' : ¬ ((l.length : Int) = m.length) := by omega
    clear he
    go_enter Try.func47, Try.ntmps47
    go_wp2_with fail
    go_ret
    exact ⟨by rw [HN.out]; rfl, Below.refl _ _⟩

set_option maxHeartbeats 400000 in
theorem is_any {w : World} {a b : Option Addr} {l m : List Int} (h : Ints w a l) (hm : Ints w b m) (cap cap' : Nat) (e f : Int) :
    Calls Try.prog 17 #[.slice a l.length cap, .int .i64 e, .slice b m.length cap', .int .i64 f] w fun r w' => r = .returned (.bool (decide (e = f) && decide (l = m))) ∧ Below w.heap.size w w' := by
  have hs := same_ints h hm cap cap'
  by_cases he : e = f
  · subst he
    go_enter Try.func17, Try.ntmps17
    go_wp2_with (refine hs.mono ?_; rintro r w' ⟨rfl, hb⟩)
    go_ret
    exact ⟨by simp, hb⟩
  · go_enter Try.func17, Try.ntmps17
    go_wp2_with fail
    go_ret
    exact ⟨by simp [he], Below.refl _ _⟩
end Go.Proofs.Ytoloiingodigpaa
