import Derived.Test.YtbhkenphcahifaaGreatPF
namespace Go.Proofs.YtbhkenphcahifaaGreat
open Go.RowKit Go.Shelf
set_option maxRecDepth 100000
set_option maxHeartbeats 4000000

/-- the rank of a channel of a tree -/
def rkTree (ww : Int) (t : N3) : Nat := if t.1 / ww < t.2.1 / ww then (t.1 / ww).toNat else 100 - (t.1 / ww).toNat
theorem lvl_div {ww wd : Int} (l : Nat) (h0 : 0 ≤ wd) (h1 : wd < ww) : ((l : Int) * ww + wd) / ww = l := by
  rw [Int.add_comm, Int.add_mul_ediv_right _ _ (by omega), Int.ediv_eq_zero_of_lt h0 h1, Int.zero_add]
theorem downL_asc {k lv : Nat} {ww y : Int} (hW : ∀ l wd, l < lv - 1 → 0 ≤ wd → wd < ww → 0 ≤ wthI k l wd (digI k l y) ∧ wthI k l wd (digI k l y) < ww) : ∀ (l : Nat) (wd : Int) (r : Nat), l ≤ lv - 1 → l ≤ 50 → 0 ≤ wd → wd < ww → r ≤ 100 - l → asc (rkTree ww) ((l : Int) * ww + wd) r (downL k ww y l wd)
  | 0, _, _, _, _, _, _, _ => trivial
  | l + 1, wd, r, h1, h2, h3, h4, h5 => by
    rw [downL]
    obtain ⟨w0, w1⟩ := hW l wd (by omega) h3 h4
    have e1 := lvl_div (l + 1) h3 h4
    have e2 := lvl_div l w0 w1
    have hr : rkTree ww (((l + 1 : Nat) : Int) * ww + wd, (l : Int) * ww + wthI k l wd (digI k l y), 0) = 100 - (l + 1) := by
      unfold rkTree
      simp only [e1, e2]
      rw [if_neg (by omega)]; simp
    refine ⟨by show r ≤ rkTree ww (_, _, 0); rw [hr]; exact h5, ?_⟩
    show asc _ _ (rkTree ww (_, _, 0) + 1) _
    rw [hr]
    exact downL_asc hW l _ _ (by omega) (by omega) w0 w1 (by omega)
theorem upL_asc {k lv : Nat} {ww y : Int} (hT : ∀ l wd, lv - 1 ≤ l → 0 ≤ wd → wd < ww → wd / ((k ^ l : Nat) : Int) = y / ((k ^ l : Nat) : Int)) (hW : ∀ l wd, l < lv - 1 → 0 ≤ wd → wd < ww → 0 ≤ wthI k l wd (digI k l y) ∧ wthI k l wd (digI k l y) < ww) :
    ∀ (f l : Nat) (wd : Int) (r : Nat), l ≤ lv - 1 → l + f ≤ 50 → 0 ≤ wd → wd < ww → r ≤ l → asc (rkTree ww) ((l : Int) * ww + wd) r (upL k ww y f l wd)
  | 0, l, wd, r, h1, h2, h3, h4, h5 => by rw [upL]; exact downL_asc hW l wd r h1 (by omega) h3 h4 (by omega)
  | f + 1, l, wd, r, h1, h2, h3, h4, h5 => by
    rw [upL]
    split
    · rename_i hq
      have hl : l < lv - 1 := by
        by_cases h : lv - 1 ≤ l
        · exact absurd (hT l wd h h3 h4) hq
        · omega
      obtain ⟨w0, w1⟩ := hW l wd hl h3 h4
      have e1 := lvl_div l h3 h4
      have e2 := lvl_div (l + 1) w0 w1
      have hr : rkTree ww ((l : Int) * ww + wd, ((l + 1 : Nat) : Int) * ww + wthI k l wd (digI k l y), 0) = l := by
        unfold rkTree
        simp only [e1, e2]
        rw [if_pos (by omega)]; simp
      refine ⟨by show r ≤ rkTree ww (_, _, 0); rw [hr]; exact h5, ?_⟩
      show asc _ _ (rkTree ww (_, _, 0) + 1) _
      rw [hr]
      exact upL_asc hT hW f (l + 1) _ _ (by omega) (by omega) w0 w1 (by omega)
    · exact downL_asc hW l wd r h1 (by omega) h3 h4 (by omega)
theorem tree_asc {k lv : Nat} {x y : Int} (hk : 1 ≤ k) (hlv : 1 ≤ lv) (hlv2 : lv ≤ 5) (hx : 0 ≤ x) (hx2 : x < (lv : Int) * ((k ^ (lv - 1) : Nat) : Int)) (hy : 0 ≤ y) (hy2 : y < ((k ^ (lv - 1) : Nat) : Int)) : asc (rkTree ((k ^ (lv - 1) : Nat) : Int)) x 0 (treeL k lv x y) := by
  unfold treeL
  have hw1 : 1 ≤ k ^ (lv - 1) := pow_pos' hk
  have hpw : ∀ l, lv - 1 ≤ l → ((k ^ (lv - 1) : Nat) : Int) ≤ ((k ^ l : Nat) : Int) := fun l hl => by
    have := Nat.pow_le_pow_right hk hl; omega
  have hW : ∀ l wd, l < lv - 1 → 0 ≤ wd → wd < ((k ^ (lv - 1) : Nat) : Int) → 0 ≤ wthI k l wd (digI k l y) ∧ wthI k l wd (digI k l y) < ((k ^ (lv - 1) : Nat) : Int) := fun l wd h1 h2 h3 => by
    obtain ⟨d0, d1⟩ := dig_bound (k := k) (i := l) (x := y) hk
    exact wth_in hk h1 h2 h3 d0 (by omega)
  have hT : ∀ l wd, lv - 1 ≤ l → 0 ≤ wd → wd < ((k ^ (lv - 1) : Nat) : Int) → wd / ((k ^ l : Nat) : Int) = y / ((k ^ l : Nat) : Int) := fun l wd h1 h2 h3 => by
    have := hpw l h1
    rw [Int.ediv_eq_zero_of_lt h2 (by omega), Int.ediv_eq_zero_of_lt hy (by omega)]
  obtain ⟨ww, hww⟩ : ∃ ww : Int, ww = ((k ^ (lv - 1) : Nat) : Int) := ⟨_, rfl⟩
  have hwa : 1 ≤ ww := by omega
  rw [← hww] at hx2 hy2 hW hT ⊢
  clear hpw hww hw1
  have hlx2 : x / ww < lv := Int.ediv_lt_of_lt_mul (by omega) hx2
  have hlx0 := Int.ediv_nonneg hx (show 0 ≤ ww by omega)
  have e : x = ((x / ww).toNat : Int) * ww + x % ww := by
    rw [Int.toNat_of_nonneg hlx0, Int.mul_comm]
    exact (Int.mul_ediv_add_emod x ww).symm
  have := upL_asc hT hW lv (x / ww).toNat (x % ww) 0 (by omega) (by omega) (Int.emod_nonneg _ (by omega)) (Int.emod_lt_of_pos _ (by omega)) (Nat.zero_le _)
  rw [← e] at this
  exact this

/-- the rank of a channel of a dragonfly -/
def rkDrag (a : Int) (t : N3) : Nat := if t.2.2 = 1 then 2 else if t.1 / a ≠ t.2.1 / a then 1 else 0
theorem drag_asc {a h x y : Int} (ha : 1 ≤ a) (hh : 1 ≤ h) (hx : 0 ≤ x) (hx2 : x < a * (a * h + 1)) (hy : 0 ≤ y) (hy2 : y < a * (a * h + 1)) : asc (rkDrag a) x 0 (dragL a h x y) := by
  unfold dragL
  have hah : 1 ≤ a * h := by have := Int.mul_le_mul ha hh (by decide) (by omega); omega
  obtain ⟨g, hg⟩ : ∃ g, g = a * h + 1 := ⟨_, rfl⟩
  rw [← hg] at hx2 hy2 ⊢
  have hgx0 := Int.ediv_nonneg hx (show 0 ≤ a by omega)
  have hgy0 := Int.ediv_nonneg hy (show 0 ≤ a by omega)
  have hgx1 : x / a < g := Int.ediv_lt_of_lt_mul (by omega) (by rw [Int.mul_comm]; exact hx2)
  have hgy1 : y / a < g := Int.ediv_lt_of_lt_mul (by omega) (by rw [Int.mul_comm]; exact hy2)
  split
  · rename_i hne
    have h5 : (y / a - x / a - 1) % g = if x / a < y / a then y / a - x / a - 1 else y / a - x / a - 1 + g := by
      split
      · exact Int.emod_eq_of_lt (by omega) (by omega)
      · rw [← Int.add_emod_right]; exact Int.emod_eq_of_lt (by omega) (by omega)
    have h6 : (x / a + (y / a - x / a - 1) % g + 1) % g = y / a := by
      rw [h5]
      split
      · rw [show x / a + (y / a - x / a - 1) + 1 = y / a by omega]; exact Int.emod_eq_of_lt hgy0 hgy1
      · rw [show x / a + (y / a - x / a - 1 + g) + 1 = y / a + g by omega, Int.add_emod_right]; exact Int.emod_eq_of_lt hgy0 hgy1
    have hp0 : 0 ≤ (y / a - x / a - 1) % g := Int.emod_nonneg _ (by omega)
    have hp1 : (y / a - x / a - 1) % g ≤ g - 2 := by rw [h5]; split <;> omega
    rw [h6]
    generalize (y / a - x / a - 1) % g = po at *
    have q1 : po / h < a := Int.ediv_lt_of_lt_mul (by omega) (by omega)
    have q0 := Int.ediv_nonneg hp0 (show 0 ≤ h by omega)
    have q3 : (g - 2 - po) / h < a := Int.ediv_lt_of_lt_mul (by omega) (by omega)
    have q2 := Int.ediv_nonneg (show 0 ≤ g - 2 - po by omega) (show 0 ≤ h by omega)
    have ex : (x / a * a + po / h) / a = x / a := by
      rw [Int.add_comm, Int.add_mul_ediv_right _ _ (by omega), Int.ediv_eq_zero_of_lt q0 q1, Int.zero_add]
    have ey : (y / a * a + (g - 2 - po) / h) / a = y / a := by
      rw [Int.add_comm, Int.add_mul_ediv_right _ _ (by omega), Int.ediv_eq_zero_of_lt q2 q3, Int.zero_add]
    generalize x / a * a + po / h = e1 at *
    generalize y / a * a + (g - 2 - po) / h = e2 at *
    by_cases c1 : e1 = x
    · by_cases c2 : e2 = y
      · simp [c1, c2, asc]
      · simp [c1, c2, asc, rkDrag, ey, hne]
    · by_cases c2 : e2 = y
      · simp [c1, c2, asc, rkDrag, ex, hne]
      · simp [c1, c2, asc, rkDrag, ex, ey, hne]
  · split <;> simp [asc]

/-- in every network the channels of all routes have ranks that rise -/
theorem route_asc {kind : Int} {l : List Int} {hosts : Int} (hv : vOk kind l hosts) : ∃ rk : N3 → Nat, ∀ x y, rteE kind l hosts x y = 0 → asc rk x 0 (stepsL kind l x y) := by
  rcases hv with ⟨rfl, ht⟩ | ⟨rfl, hr⟩ | ⟨rfl, hd⟩
  · refine ⟨rkTorus l, fun x y _ => ?_⟩
    rw [show stepsL 1 l x y = torusL l x y from rfl]
    refine torus_asc (fun i hi => ?_) x y
    have := ht.2.2.1 (l.getD i 0) (by simp [List.getD, hi])
    exact this
  · refine ⟨rkTree (wordsI l), fun x y hE => ?_⟩
    obtain ⟨hv, hin, hy⟩ := rte_ok hE
    obtain ⟨⟨hx0, hx1⟩, hy0, _⟩ := inB_two hin
    rw [show stepsL 2 l x y = treeSteps l x y from rfl]
    obtain ⟨_, h1, h2, _⟩ := hr
    have hs : swI 2 l = l.getD 1 0 * wordsI l := rfl
    have ho : hoI 2 l = wordsI l := rfl
    rw [hs] at hx1
    rw [ho] at hy
    have hw : wordsI l = (((l.getD 0 0).toNat ^ ((l.getD 1 0).toNat - 1) : Nat) : Int) := rfl
    unfold treeSteps
    rw [hw] at hx1 hy ⊢
    clear hv hin hs ho hw hE
    generalize l.getD 0 0 = A at *
    generalize l.getD 1 0 = C at *
    obtain ⟨k, rfl⟩ := Int.eq_ofNat_of_zero_le (show 0 ≤ A by omega)
    obtain ⟨lv, rfl⟩ := Int.eq_ofNat_of_zero_le (show 0 ≤ C by omega)
    simp only [Int.toNat_natCast] at hx1 hy ⊢
    exact tree_asc (by omega) (by omega) (by omega) hx0 (by omega) hy0 hy
  · refine ⟨rkDrag (l.getD 0 0), fun x y hE => ?_⟩
    obtain ⟨hv, hin, hy⟩ := rte_ok hE
    obtain ⟨⟨hx0, hx1⟩, hy0, hy1⟩ := inB_two hin
    rw [show stepsL 3 l x y = dragL (l.getD 0 0) (l.getD 1 0) x y from rfl]
    have hs : swI 3 l = l.getD 0 0 * (l.getD 0 0 * l.getD 1 0 + 1) := rfl
    rw [hs] at hx1 hy1
    exact drag_asc hd.2.2.1.1 hd.2.2.2.1.1 hx0 (by omega) hy0 (by omega)
end Go.Proofs.YtbhkenphcahifaaGreat
