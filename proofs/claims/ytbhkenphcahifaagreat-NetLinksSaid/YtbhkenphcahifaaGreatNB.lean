import Derived.Test.YtbhkenphcahifaaGreatNA
namespace Go.Proofs.YtbhkenphcahifaaGreat
open Go.RowKit Go.Shelf
attribute [local go_sem] Oper.semAt_some
set_option maxRecDepth 100000
set_option maxHeartbeats 1000000

theorem within_any (x lo hi : Int) (w : World) : Calls Tryz.prog 116 #[.int .i64 x, .int .i64 lo, .int .i64 hi] w fun e w' => e = .returned (.bool (decide (lo ≤ x ∧ x ≤ hi))) ∧ w = w' := by
  by_cases h1 : lo ≤ x
  · by_cases h2 : x ≤ hi
    · have HD : Hid (decide (lo ≤ x ∧ x ≤ hi) = true) := decide_eq_true ⟨h1, h2⟩
      generalize decide (lo ≤ x ∧ x ≤ hi) = r at *
      go_enter Tryz.func116, Tryz.ntmps116
      go_wp2_with fail
      go_ret
      exact ⟨by rw [HD.out]; rfl, rfl⟩
    · have HD : Hid (decide (lo ≤ x ∧ x ≤ hi) = false) := decide_eq_false (fun h => h2 h.2)
      generalize decide (lo ≤ x ∧ x ≤ hi) = r at *
      go_enter Tryz.func116, Tryz.ntmps116
      go_wp2_with fail
      go_ret
      exact ⟨by rw [HD.out]; rfl, rfl⟩
  · have HD : Hid (decide (lo ≤ x ∧ x ≤ hi) = false) := decide_eq_false (fun h => h1 h.1)
    generalize decide (lo ≤ x ∧ x ≤ hi) = r at *
    go_enter Tryz.func116, Tryz.ntmps116
    go_wp2_with fail
    go_ret
    exact ⟨by rw [HD.out]; rfl, rfl⟩
theorem rwithin_any (x lo hi : Int) (w : World) : Calls Tryz.prog 94 #[.int .i64 x, .int .i64 lo, .int .i64 hi] w fun e w' => e = .returned (.bool (decide (lo ≤ x ∧ x ≤ hi))) ∧ w = w' := by
  by_cases h1 : lo ≤ x
  · by_cases h2 : x ≤ hi
    · have HD : Hid (decide (lo ≤ x ∧ x ≤ hi) = true) := decide_eq_true ⟨h1, h2⟩
      generalize decide (lo ≤ x ∧ x ≤ hi) = r at *
      go_enter Tryz.func94, Tryz.ntmps94
      go_wp2_with fail
      go_ret
      exact ⟨by rw [HD.out]; rfl, rfl⟩
    · have HD : Hid (decide (lo ≤ x ∧ x ≤ hi) = false) := decide_eq_false (fun h => h2 h.2)
      generalize decide (lo ≤ x ∧ x ≤ hi) = r at *
      go_enter Tryz.func94, Tryz.ntmps94
      go_wp2_with fail
      go_ret
      exact ⟨by rw [HD.out]; rfl, rfl⟩
  · have HD : Hid (decide (lo ≤ x ∧ x ≤ hi) = false) := decide_eq_false (fun h => h1 h.1)
    generalize decide (lo ≤ x ∧ x ≤ hi) = r at *
    go_enter Tryz.func94, Tryz.ntmps94
    go_wp2_with fail
    go_ret
    exact ⟨by rw [HD.out]; rfl, rfl⟩
theorem pow_small {k n : Nat} (hk : k ≤ 16) (hn : n ≤ 5) : k ^ n ≤ 1048576 := by
  have h1 : k ^ n ≤ 16 ^ n := Nat.pow_le_pow_left hk n
  have h2 : 16 ^ n ≤ 16 ^ 5 := Nat.pow_le_pow_right (by decide) hn
  exact Nat.le_trans h1 (Nat.le_trans h2 (by decide))
theorem power_any (k n : Nat) (hk : k ≤ 16) (hn : n ≤ 5) (w : World) : Calls Tryz.prog 117 #[.int .i64 k, .int .i64 n] w fun e w' => e = .returned (.int .i64 ((k ^ n : Nat) : Int)) ∧ w = w' := by
  have HP : Hid (∀ j, j ≤ n → k ^ j ≤ 1048576) := fun j hj => pow_small hk (by omega)
  have HS : Hid (∀ j, k ^ (j + 1) = k ^ j * k) := fun j => Nat.pow_succ ..
  go_enter Tryz.func117, Tryz.ntmps117
  go_wp2_with fail
  go_loop [5, 7] (fun p i => ∃ j : Nat, j ≤ n ∧ i = .int .i64 j ∧ p = .int .i64 ((k ^ j : Nat) : Int)) (fun _ i => n - (intOf i).toNat)
  case atStart => exact ⟨0, Nat.zero_le _, rfl, by simp⟩
  case round =>
    obtain ⟨j, hj, rfl, rfl⟩ := hrel
    by_cases hlt : j < n
    · have h1 := HP.out j hj
      have h2 := HS.out j
      have h3 := HP.out (j + 1) hlt
      obtain ⟨P2, hP2⟩ : ∃ P2, P2 = k ^ (j + 1) := ⟨_, rfl⟩
      rw [← hP2] at h2 h3
      have HP2 := Lib.hid hP2
      clear hP2
      obtain ⟨P, hP⟩ : ∃ P, P = k ^ j := ⟨_, rfl⟩
      rw [← hP] at h1 h2 ⊢
      clear hP
      have hw : wrap64 ((P : Int) * k) = (P2 : Int) := by
        rw [h2]
        have : ((P * k : Nat) : Int) = (P : Int) * k := by simp
        rw [← this]
        unfold wrap64
        omega
      have HH := Lib.hid h2
      clear h2
      go_wp2_with fail
      go_round
      case rel => exact ⟨j + 1, by omega, by go_num, by rw [← HP2.out, hw]⟩
      case measure => simp [intOf]; omega
    · have hjn : j = n := by omega
      subst hjn
      go_wp2_with fail
      go_ret
      exact ⟨rfl, rfl⟩
end Go.Proofs.YtbhkenphcahifaaGreat
