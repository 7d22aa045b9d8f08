import Derived.Test.YtbhkenphcahifaaGreatPG
namespace Go.Proofs.YtbhkenphcahifaaGreat
open Go.RowKit Go.Shelf
set_option maxRecDepth 100000
set_option maxHeartbeats 4000000

/-- is the sum of the first coordinates even -/
def evenB (c : List Int) : Nat → Bool
  | 0 => true
  | i + 1 => (evenB c i == (c.getD i 0 % 2 == 0))
/-- a coordinate, counted in its direction -/
def dgI (l c : List Int) (i : Nat) : Int := if evenB c i = true then c.getD i 0 else l.getD i 0 - 1 - c.getD i 0
/-- the place of a switch in the snake -/
def rkS (l c : List Int) : Nat → Int
  | 0 => 0
  | k + 1 => rkS l c k * l.getD k 0 + dgI l c k
theorem dg_in {l c : List Int} (hc : InT l c) {i : Nat} (hi : i < l.length) : 0 ≤ dgI l c i ∧ dgI l c i < l.getD i 0 := by
  obtain ⟨h0, h1⟩ := hc.2 i hi
  unfold dgI
  split <;> omega
/-- the last dimension that can be changed; the others behind it stand at their ends -/
def AtEnd (l c : List Int) (i : Nat) : Prop := ∀ j, i < j → j < l.length → dgI l c j = l.getD j 0 - 1
/-- the next coordinates -/
def nextC (c : List Int) (i : Nat) : List Int := c.set i (c.getD i 0 + (if evenB c i = true then 1 else -1))
theorem even_set_le {c : List Int} {i : Nat} {v : Int} : ∀ j, j ≤ i → evenB (c.set i v) j = evenB c j
  | 0, _ => rfl
  | j + 1, h => by
    rw [evenB, evenB, even_set_le j (by omega), getD_set_other _ _ _ _ _ (by omega)]
theorem par_flip {v z : Int} (h : v = z + 1 ∨ v = z - 1) : (v % 2 == 0) = !(z % 2 == 0) := by
  by_cases h2 : z % 2 = 0
  · have h3 : v % 2 ≠ 0 := by omega
    simp [h2, h3]
  · have h3 : v % 2 = 0 := by omega
    simp [h2, h3]
theorem even_set_gt {c : List Int} {i : Nat} (hi : i < c.length) {v : Int} (hv : v = c.getD i 0 + 1 ∨ v = c.getD i 0 - 1) : ∀ j, i < j → evenB (c.set i v) j = !(evenB c j)
  | 0, h => by omega
  | j + 1, h => by
    rw [evenB, evenB]
    by_cases hij : i = j
    · subst hij
      rw [even_set_le i (Nat.le_refl _), getD_set_same _ _ _ _ hi]
      have := par_flip hv
      rw [this]
      cases evenB c i <;> cases (c.getD i 0 % 2 == 0) <;> rfl
    · rw [even_set_gt hi hv j (by omega), getD_set_other _ _ _ _ _ hij]
      cases evenB c j <;> cases (c.getD j 0 % 2 == 0) <;> rfl
/-- a step along the snake leads one place further -/
theorem rk_next {l c : List Int} (hc : InT l c) {i : Nat} (hi : i < l.length) (hd : dgI l c i < l.getD i 0 - 1) (he : AtEnd l c i) :
    InT l (nextC c i) ∧ rkS l (nextC c i) l.length = rkS l c l.length + 1 := by
  have hcl : i < c.length := by rw [hc.1]; exact hi
  obtain ⟨c0, c1⟩ := hc.2 i hi
  have hv : (c.getD i 0 + (if evenB c i = true then 1 else -1)) = c.getD i 0 + 1 ∨ (c.getD i 0 + (if evenB c i = true then 1 else -1)) = c.getD i 0 - 1 := by
    split
    · exact .inl rfl
    · exact .inr (by omega)
  have hin : 0 ≤ c.getD i 0 + (if evenB c i = true then 1 else -1) ∧ c.getD i 0 + (if evenB c i = true then 1 else -1) < l.getD i 0 := by
    unfold dgI at hd
    by_cases h : evenB c i = true
    · rw [if_pos h] at hd ⊢; omega
    · rw [if_neg h] at hd ⊢; omega
  refine ⟨hc.set hi hin.1 hin.2, ?_⟩
  have dlt : ∀ j, j < i → dgI l (nextC c i) j = dgI l c j := fun j hj => by
    unfold dgI nextC
    rw [even_set_le j (by omega), getD_set_other _ _ _ _ _ (by omega)]
  have deq : dgI l (nextC c i) i = dgI l c i + 1 := by
    unfold dgI nextC
    rw [even_set_le i (Nat.le_refl _), getD_set_same _ _ _ _ hcl]
    by_cases h : evenB c i = true
    · rw [if_pos h, if_pos h, if_pos h]
    · rw [if_neg h, if_neg h, if_neg h]; omega
  have dgt : ∀ j, i < j → j < l.length → dgI l (nextC c i) j = 0 := fun j hj hl => by
    have h1 := he j hj hl
    unfold dgI at h1
    unfold dgI nextC
    rw [even_set_gt hcl hv j hj, getD_set_other _ _ _ _ _ (by omega)]
    by_cases h : evenB c j = true
    · rw [if_pos h] at h1
      rw [if_neg (by rw [h]; decide)]; omega
    · have h2 : evenB c j = false := by simpa using h
      rw [if_neg h] at h1
      rw [if_pos (by rw [h2]; rfl)]; omega
  have low : ∀ k, k ≤ i → rkS l (nextC c i) k = rkS l c k := fun k => by
    induction k with
    | zero => intro _; rfl
    | succ k ih => intro hk; rw [rkS, rkS, ih (by omega), dlt k (by omega)]
  have high : ∀ m, i + 1 + m ≤ l.length → rkS l (nextC c i) (i + 1 + m) = rkS l c (i + 1 + m) + 1 := fun m => by
    induction m with
    | zero => intro _; rw [Nat.add_zero, rkS, rkS, low i (Nat.le_refl _), deq]; omega
    | succ m ih =>
      intro hm
      rw [← Nat.add_assoc, rkS, rkS, ih (by omega), dgt (i + 1 + m) (by omega) (by omega), he (i + 1 + m) (by omega) (by omega), Int.add_mul]
      omega
  have := high (l.length - (i + 1)) (by omega)
  rwa [show i + 1 + (l.length - (i + 1)) = l.length by omega] at this
/-- as long as not all dimensions stand at their ends, some dimension can be changed -/
theorem rk_bound {l c : List Int} (hc : InT l c) : ∀ k, k ≤ l.length → 0 ≤ rkS l c k ∧ rkS l c k + 1 ≤ prodI (l.take k) := by
  intro k
  induction k with
  | zero => intro _; exact ⟨Int.le_refl _, by simp [rkS, prodI]⟩
  | succ k ih =>
    intro hk
    obtain ⟨i1, i2⟩ := ih (by omega)
    obtain ⟨d0, d1⟩ := dg_in hc (show k < l.length by omega)
    rw [List.take_succ_eq_append_getElem (by omega), prodI_snoc, rkS]
    rw [show l[k] = l.getD k 0 by simp [List.getD, show k < l.length by omega]]
    have h0 : 0 ≤ rkS l c k * l.getD k 0 := Int.mul_nonneg i1 (by omega)
    have h1 : (rkS l c k + 1) * l.getD k 0 ≤ prodI (l.take k) * l.getD k 0 := Int.mul_le_mul_of_nonneg_right i2 (by omega)
    rw [Int.add_mul] at h1
    omega
/-- at the last place all stand at their ends -/
theorem rk_last {l c : List Int} (h : AtEnd l c 0 ∧ (0 < l.length → dgI l c 0 = l.getD 0 0 - 1)) : rkS l c l.length + 1 = prodI l := by
  have key : ∀ k, k ≤ l.length → rkS l c k + 1 = prodI (l.take k) := by
    intro k
    induction k with
    | zero => intro _; simp [rkS, prodI]
    | succ k ih =>
      intro hk
      have hd : dgI l c k = l.getD k 0 - 1 := by
        cases k with
        | zero => exact h.2 (by omega)
        | succ k => exact h.1 (k + 1) (by omega) (by omega)
      rw [List.take_succ_eq_append_getElem (by omega), prodI_snoc, rkS, hd, ← ih (by omega)]
      rw [show l[k] = l.getD k 0 by simp [List.getD, show k < l.length by omega], Int.add_mul]
      omega
  have := key l.length (Nat.le_refl _)
  rwa [List.take_length] at this
/-- the place in the snake says which switch it is -/
theorem rk_digits {l c d : List Int} (hc : InT l c) (hd : InT l d) : ∀ k, k ≤ l.length → rkS l c k = rkS l d k → ∀ j, j < k → dgI l c j = dgI l d j := by
  intro k
  induction k with
  | zero => intro _ _ j hj; omega
  | succ k ih =>
    intro hk he j hj
    obtain ⟨a0, a1⟩ := dg_in hc (show k < l.length by omega)
    obtain ⟨b0, b1⟩ := dg_in hd (show k < l.length by omega)
    rw [rkS, rkS] at he
    have hs : l.getD k 0 ≠ 0 := by omega
    have e1 : (rkS l c k * l.getD k 0 + dgI l c k) / l.getD k 0 = rkS l c k := by
      rw [Int.add_comm, Int.add_mul_ediv_right _ _ hs, Int.ediv_eq_zero_of_lt a0 a1, Int.zero_add]
    have e2 : (rkS l d k * l.getD k 0 + dgI l d k) / l.getD k 0 = rkS l d k := by
      rw [Int.add_comm, Int.add_mul_ediv_right _ _ hs, Int.ediv_eq_zero_of_lt b0 b1, Int.zero_add]
    have e3 : rkS l c k = rkS l d k := by rw [← e1, ← e2, he]
    by_cases hjk : j < k
    · exact ih (by omega) e3 j hjk
    · obtain rfl : j = k := by omega
      rw [e3] at he; omega
theorem rk_inj {l c d : List Int} (hc : InT l c) (hd : InT l d) (he : rkS l c l.length = rkS l d l.length) : c = d := by
  have hdg := rk_digits hc hd l.length (Nat.le_refl _) he
  have key : ∀ j, j ≤ l.length → evenB c j = evenB d j ∧ ∀ i, i < j → c.getD i 0 = d.getD i 0 := by
    intro j
    induction j with
    | zero => intro _; exact ⟨rfl, fun i hi => by omega⟩
    | succ j ih =>
      intro hj
      obtain ⟨h1, h2⟩ := ih (by omega)
      have h3 := hdg j (by omega)
      have h4 : c.getD j 0 = d.getD j 0 := by
        unfold dgI at h3
        rw [h1] at h3
        by_cases h : evenB d j = true
        · rw [if_pos h, if_pos h] at h3; exact h3
        · rw [if_neg h, if_neg h] at h3; omega
      refine ⟨by rw [evenB, evenB, h1, h4], fun i hi => ?_⟩
      by_cases hij : i < j
      · exact h2 i hij
      · obtain rfl : i = j := by omega
        exact h4
  refine List.ext_getElem (by rw [hc.1, hd.1]) fun i h1 h2 => ?_
  have := (key l.length (Nat.le_refl _)).2 i (by rw [← hc.1]; exact h1)
  simpa [List.getD, h1, h2] using this
end Go.Proofs.YtbhkenphcahifaaGreat
