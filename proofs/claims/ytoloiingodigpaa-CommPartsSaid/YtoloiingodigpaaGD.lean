import Derived.Test.YtoloiingodigpaaGC
import Derived.Test.YtoloiingodigpaaAF
import Derived.Laws.StructEq
import Derived.ChangeKeysEq
namespace Go.Proofs.Ytoloiingodigpaa
open Go.RowKit Go.Shelf
attribute [local go_sem] Oper.semAt_some litE
set_option maxRecDepth 100000
set_option maxHeartbeats 1000000

theorem Try.info4 : (Try.prog.info? 4).map (fun i => i.size) = some 1 := by kernel_rfl
theorem Try.cells4 : Try.prog.cellsOf 4 = 1 := by kernel_rfl

theorem size4 (w : World) : (sizeOf 4).run Try.prog w = .ok 1 w := by
  cases h : Try.prog.info? 4 with
  | none => have := Try.info4; rw [h] at this; simp at this
  | some i => rw [run_sizeOf w h, Try.cells4]

theorem part_set (s : Nat → Bool) (i : Nat) (hi : i < 64) (w : World) : (part 4 (setA s) (i * 1)).run Try.prog w = .ok (.bool (s i)) w := by
  have := setA_at s i hi
  simp [part, isAgg, run_underlying Try.underlying4, this]

theorem run_equalIn_set (d : Nat) (s t : Nat → Bool) (w : World) :
    (Op.equalIn (d + 2) 83 (.agg (setA s)) (.agg (setA t))).run Try.prog w = .ok ((List.range 64).all fun i => s i == t i) w := by
  rw [List.range_eq_range', Op.equalIn]
  simp only [Sem.run_bind, run_underlying Try.und83, Result.andThen_ok, size4, Std.Legacy.Range.forIn_eq_forIn_range', Std.Legacy.Range.size, Nat.sub_zero, Nat.add_sub_cancel, Nat.div_one]
  have hl : ∀ i ∈ List.range' 0 64 1, i < 64 := fun i hi => by simpa using (List.mem_range'_1.1 hi).2
  generalize List.range' 0 64 1 = l at hl ⊢
  induction l with
  | nil => simp
  | cons i l ih =>
    have hi : i < 64 := hl i (by simp)
    have pe : (Op.equalIn (d + 1) 4 (.bool (s i)) (.bool (t i))).run Try.prog w = .ok (s i == t i) w := run_equalIn_bool' w d 4 _ _ Try.underlying4
    simp only [List.forIn_cons, Sem.run_bind, part_set s i hi, part_set t i hi, pe, Result.andThen_ok, List.all_cons]
    cases hb : (s i == t i)
    · simp
    · simp only [Bool.not_true, Bool.false_eq_true, if_false, Sem.run_pure, Result.andThen_ok, Bool.true_and]
      exact ih fun j hj => hl j (by simp [hj])

theorem run_eql_set (s t : Nat → Bool) (w : World) : (binOp .eql 83 (.agg (setA s)) (.agg (setA t))).run Try.prog w = .ok (.bool ((List.range 64).all fun i => s i == t i)) w := by
  rw [run_eql_struct, run_equalIn_set 9998 s t w]
  rfl

/-- slices.Equal of two lists -/
theorem equal_ints {w : World} {a b : Option Addr} {l m : List Int} (h : Ints w a l) (hm : Ints w b m) (cap cap' : Nat) :
    Calls Try.prog 69 #[.slice a l.length cap, .slice b m.length cap'] w fun e w' => e = .returned (.bool (decide (l = m))) ∧ Below w.heap.size w w' := by
  have hlen := h.len
  have hlen2 := hm.len
  by_cases he : l.length = m.length
  · have HE := Lib.hid he
    clear he
    have HL : Hid (∀ k, k < l.length → k < m.length) := fun k hk => by have := HE.out; omega
    rw [← HE.out]
    go_enter Try.func69, Try.ntmps69
    go_wp2_with fail
    go_loopw [13] (fun i wr => ∃ k : Nat, k ≤ l.length ∧ i = .int .i64 k ∧ Hid ((l.drop k = m.drop k) ↔ l = m) ∧ Below w.heap.size w wr) (fun i _ => l.length - (intOf i).toNat)
    case atStart => exact ⟨0, Nat.zero_le _, rfl, by show _ ↔ _; simp, Below.refl _ _⟩
    case round =>
      obtain ⟨k, hk, rfl, HD, hb⟩ := hrel
      by_cases hlt : k < l.length
      · have hlm := HL.out k hlt
        obtain ⟨g, off, rfl, hc⟩ := (h.keep hb).at_ (ne_nil_of_lt hlt)
        obtain ⟨g2, off2, rfl, hc2⟩ := (hm.keep hb).at_ (ne_nil_of_lt hlm)
        have c0 := hc k hlt
        have c1 := hc2 k hlm
        clear hc hc2 h hm
        have hz := hb.size
        by_cases hx : l[k] = m[k]
        · have HN : Hid ((l.drop (k + 1) = m.drop (k + 1)) ↔ l = m) := by
            have h1 := HD.out
            rw [drop_cons_eq hlt hlm] at h1
            show _ ↔ _
            rw [← h1]; simp [hx]
          generalize l[k] = x at *
          subst hx
          go_wp2_with fail
          go_quiet (fail)
          go_wp2_with fail
          go_roundw
          case rel => exact ⟨k + 1, by omega, by go_num, HN, below_drewN hb _⟩
          case measure => simp [intOf]; omega
        · have HN : Hid (decide (l = m) = false) := by
            have h1 := HD.out
            rw [drop_cons_eq hlt hlm] at h1
            show _ = _
            simp [← h1, hx]
          have hx' : ¬ m[k] = l[k] := fun e => hx e.symm
          generalize l[k] = x at *
          generalize m[k] = y at *
          go_wp2_with fail
          go_quiet (fail)
          go_wp2_with fail
          go_ret
          refine ⟨by rw [HN.out]; rfl, below_drewN hb _⟩
      · have HN : Hid (decide (l = m) = true) := by
          have h1 := HD.out
          show _ = _
          rw [decide_eq_true_iff, ← h1]
          rw [List.drop_of_length_le (by omega), List.drop_of_length_le (by have := HE.out; omega)]
        go_wp2_with fail
        go_ret
        exact ⟨by rw [HN.out]; rfl, hb⟩
  · have HN : Hid (decide (l = m) = false) := by
      show _ = _
      simp; intro e; exact he (by rw [e])
    have he' : ¬ ((l.length : Int) = m.length) := by omega
    clear he
    go_enter Try.func69, Try.ntmps69
    go_wp2_with fail
    go_ret
    exact ⟨by rw [HN.out]; rfl, Below.refl _ _⟩
end Go.Proofs.Ytoloiingodigpaa
