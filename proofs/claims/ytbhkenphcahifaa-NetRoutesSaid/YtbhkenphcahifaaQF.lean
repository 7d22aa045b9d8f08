import Derived.Test.YtbhkenphcahifaaQE
namespace Go.Proofs.Ytbhkenphcahifaa
open Go.RowKit Go.Shelf
attribute [local go_sem] Oper.semAt_some
set_option maxRecDepth 100000
set_option maxHeartbeats 4000000

/-- a path without a switch that would stand there twice -/
def skipL : Int → List (Int × Int) → List (Int × Int)
  | _, [] => []
  | p, s :: L => if s.1 ≠ p then s :: skipL s.1 L else skipL s.1 L
theorem skip_same (x y : Int) : skipL x [(y, 0)] = if x ≠ y then [(y, 0)] else [] := by
  by_cases h : x = y
  · simp [skipL, h]
  · have h2 : y ≠ x := fun e => h e.symm
    simp [skipL, h, h2]
theorem drag_skip {a h x y : Int} (ha : 1 ≤ a) (hh : 1 ≤ h) (hx : 0 ≤ x) (hx2 : x < a * (a * h + 1)) (hy : 0 ≤ y) (hy2 : y < a * (a * h + 1)) (hne : x / a ≠ y / a) :
    dragL a h x y = skipL x [(x / a * a + ((y / a - x / a - 1 + (a * h + 1)) % (a * h + 1)) / h, 0), (y / a * a + (a * h + 1 - 2 - (y / a - x / a - 1 + (a * h + 1)) % (a * h + 1)) / h, 0), (y, 1)] := by
  unfold dragL
  rw [if_pos hne]
  have hah : 1 ≤ a * h := by have := Int.mul_le_mul ha hh (by decide) (by omega); omega
  obtain ⟨g, hg⟩ : ∃ g, g = a * h + 1 := ⟨_, rfl⟩
  rw [← hg] at hx2 hy2 ⊢
  have hgx0 := Int.ediv_nonneg hx (show 0 ≤ a by omega)
  have hgy0 := Int.ediv_nonneg hy (show 0 ≤ a by omega)
  have hgx1 : x / a < g := Int.ediv_lt_of_lt_mul (by omega) (by rw [Int.mul_comm]; exact hx2)
  have hgy1 : y / a < g := Int.ediv_lt_of_lt_mul (by omega) (by rw [Int.mul_comm]; exact hy2)
  rw [Int.add_emod_right]
  have h5 : (y / a - x / a - 1) % g = if x / a < y / a then y / a - x / a - 1 else y / a - x / a - 1 + g := by
    split
    · exact Int.emod_eq_of_lt (by omega) (by omega)
    · rw [← Int.add_emod_right]; exact Int.emod_eq_of_lt (by omega) (by omega)
  have h6 : (x / a + (y / a - x / a - 1) % g + 1) % g = y / a := by
    rw [h5]
    split
    · rw [show x / a + (y / a - x / a - 1) + 1 = y / a by omega]; exact Int.emod_eq_of_lt hgy0 hgy1
    · rw [show x / a + (y / a - x / a - 1 + g) + 1 = y / a + g by omega, Int.add_emod_right]; exact Int.emod_eq_of_lt hgy0 hgy1
  have hp0 : 0 ≤ (y / a - x / a - 1) % g := Int.emod_nonneg _ (by omega)
  have hp1 : (y / a - x / a - 1) % g ≤ g - 2 := by rw [h5]; split <;> omega
  rw [h6]
  generalize (y / a - x / a - 1) % g = po at *
  have q1 : po / h < a := Int.ediv_lt_of_lt_mul (by omega) (by omega)
  have q0 := Int.ediv_nonneg hp0 (show 0 ≤ h by omega)
  have q3 : (g - 2 - po) / h < a := Int.ediv_lt_of_lt_mul (by omega) (by omega)
  have q2 := Int.ediv_nonneg (show 0 ≤ g - 2 - po by omega) (show 0 ≤ h by omega)
  have ex : (x / a * a + po / h) / a = x / a := by
    rw [Int.add_comm, Int.add_mul_ediv_right _ _ (by omega), Int.ediv_eq_zero_of_lt q0 q1, Int.zero_add]
  have ey : (y / a * a + (g - 2 - po) / h) / a = y / a := by
    rw [Int.add_comm, Int.add_mul_ediv_right _ _ (by omega), Int.ediv_eq_zero_of_lt q2 q3, Int.zero_add]
  generalize x / a * a + po / h = e1 at *
  generalize y / a * a + (g - 2 - po) / h = e2 at *
  have h12 : e2 ≠ e1 := fun e => hne (by rw [← ex, ← ey, e])
  by_cases c1 : e1 = x
  · by_cases c2 : e2 = y
    · simp [skipL, c1, c2]; intro e; exact absurd (c2.trans (e.trans c1.symm)) h12
    · have c3 : y ≠ e2 := fun e => c2 e.symm
      simp [skipL, c1, c2, c3]; intro e; exact absurd (e.trans c1.symm) h12
  · by_cases c2 : e2 = y
    · simp [skipL, c1, c2]; intro e; exact absurd (c2.trans e) h12
    · have c3 : y ≠ e2 := fun e => c2 e.symm
      simp [skipL, c1, c2, c3, h12]

/-- append to an empty slice: a new row -/
theorem app_fresh {w : World} (b : Nat) {a : Option Addr} {R : List Int} (h : Ints w a R) (hp : R ≠ []) (hl : R.length ≤ 1000000) (c : Nat) :
    ∃ v' w2, (Builtin.append_ #[22, 22] 22 #[.slice (some ⟨b, 0, none⟩) 0 0, .slice a R.length c]).run Try.prog w = .ok v' w2 ∧ NewInts w.heap.size w2 v' R ∧ Below w.heap.size w w2 := by
  obtain ⟨i0, hi, hz0, hz1, hz2⟩ := info_parts Try.info3
  obtain ⟨g, off, rfl, hc⟩ := h.at_ hp
  have hpos : 0 < R.length := List.length_pos_iff.2 hp
  have hr := run_append_grow (P := Try.prog) w 22 22 3 i0 (.int .i64 0) Try.underlying22 hi hz0 ⟨b, 0, none⟩ 0 0 [] (by simp) (fun j v hv => by simp at hv) ⟨g, off, none⟩ R.length c (R.map (Value.int .i64)) (by rw [hz1]; simp)
    (fun j u hu => by
      have hj : j < R.length := by
        rcases Nat.lt_or_ge j R.length with h | h
        · exact h
        · rw [List.getElem?_eq_none (by simpa using h)] at hu; cases hu
      have e : u = .int .i64 R[j] := by simpa [hj] using hu.symm
      have hadd : (⟨g, off, none⟩ : Addr).add j = ⟨g, off + j, none⟩ := by unfold Addr.add; split <;> simp_all
      rw [hadd, e]; exact hc j hj) (by omega) (by omega) (by rw [hz2]; have := nextslicecap_zero (need := 0 + R.length) (by omega); rw [this]; omega)
  have hge := grownCap_ge w (0 + R.length) 0 3
  have hle := grownCap_le_maxLen w (0 + R.length) 0 3 (by unfold maxLen; omega)
  generalize grownCap w (0 + R.length) 0 3 = cp at *
  refine ⟨_, _, hr, ⟨⟨by simp, .inr ⟨w.heap.size, cp, _, by rw [Nat.zero_add], Nat.le_refl _, heap_alloc_new w.drew _, by omega, hle, ?_, ?_⟩⟩, by omega⟩, ((Below.refl _ _).drew).alloc (Nat.le_refl _) _⟩
  · simp [Builtin.zeroCells, Value.cells]; omega
  · simp
end Go.Proofs.Ytbhkenphcahifaa
