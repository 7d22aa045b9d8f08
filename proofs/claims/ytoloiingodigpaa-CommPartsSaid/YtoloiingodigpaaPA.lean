import Derived.Test.YtoloiingodigpaaN
import Derived.Test.YtoloiingodigpaaO
namespace Go.Proofs.Ytoloiingodigpaa
open Go.RowKit Go.Shelf

/-- the product of sizes -/
def prodL : List Int → Int
  | [] => 1
  | s :: l => s * prodL l
theorem prodL_pos : ∀ (l : List Int), (∀ s ∈ l, 1 ≤ s) → 1 ≤ prodL l
  | [], _ => Int.le_refl _
  | s :: l, h => by
    have h1 := h s (by simp)
    have h2 := prodL_pos l fun x hx => h x (by simp [hx])
    unfold prodL
    have := Int.mul_le_mul h1 h2 (by omega) (by omega)
    omega

/-- the coordinates, and what is left of the rank -/
def coordsS : List Int → Int → Int × List Int
  | [], r => (r, [])
  | s :: l, r => ((coordsS l r).1 / s, ((coordsS l r).1 % s) :: (coordsS l r).2)
@[simp] theorem coordsS_len : ∀ (l : List Int) (r : Int), (coordsS l r).2.length = l.length
  | [], _ => rfl
  | s :: l, r => by simp [coordsS, coordsS_len l r]

theorem cfold_drop (sizes : List Int) (r : Int) : ∀ (m k : Nat), sizes.length - k = m → k ≤ sizes.length →
    cfold sizes r ((List.range sizes.length).drop k).reverse = ((coordsS (sizes.drop k) r).1, List.replicate k 0 ++ (coordsS (sizes.drop k) r).2)
  | 0, k, h, hk => by
    have e : k = sizes.length := by omega
    subst e
    rw [List.drop_of_length_le (by simp), List.drop_of_length_le (Nat.le_refl _)]
    simp [cfold, coordsS]
  | m + 1, k, h, hk => by
    have hlt : k < sizes.length := by omega
    have ih := cfold_drop sizes r m (k + 1) (by omega) (by omega)
    rw [List.drop_eq_getElem_cons (by simpa using hlt), List.reverse_cons, cfold_snoc, ih, List.getElem_range]
    have e2 : sizes.drop k = sizes[k] :: sizes.drop (k + 1) := List.drop_eq_getElem_cons hlt
    have e3 : sizes.getD k 0 = sizes[k] := by simp [List.getD, hlt]
    rw [e2]
    show cstep sizes ((coordsS (sizes.drop (k + 1)) r).1, List.replicate (k + 1) 0 ++ (coordsS (sizes.drop (k + 1)) r).2) k = ((coordsS (sizes.drop (k + 1)) r).1 / sizes[k], List.replicate k 0 ++ (((coordsS (sizes.drop (k + 1)) r).1 % sizes[k]) :: (coordsS (sizes.drop (k + 1)) r).2))
    generalize coordsS (sizes.drop (k + 1)) r = p
    unfold cstep
    simp only [e3]
    congr 1
    rw [List.set_append_left _ _ (by simp), List.replicate_succ', List.set_append_right _ _ (by simp)]
    simp
theorem coordsL_eq (sizes : List Int) (r : Int) : coordsL sizes r = (coordsS sizes r).2 := by
  have := cfold_drop sizes r sizes.length 0 (by omega) (by omega)
  simp only [List.drop_zero] at this
  unfold coordsL
  rw [this]; simp

/-- the value of digits -/
def rankV : Int → List Int → List Int → Int
  | a, s :: sz, x :: xs => rankV (a * s + x) sz xs
  | a, _, _ => a

theorem rankV_coords : ∀ (sizes : List Int) (r : Int), (∀ s ∈ sizes, 1 ≤ s) → rankV (coordsS sizes r).1 sizes (coordsS sizes r).2 = r
  | [], _, _ => rfl
  | s :: l, r, h => by
    have hs := h s (by simp)
    unfold coordsS rankV
    simp only
    have e : (coordsS l r).1 / s * s + (coordsS l r).1 % s = (coordsS l r).1 := by
      have := Int.ediv_mul_add_emod (coordsS l r).1 s
      omega
    rw [e]
    exact rankV_coords l r fun x hx => h x (by simp [hx])
theorem coordsS_quot : ∀ (sizes : List Int) (r : Int), (∀ s ∈ sizes, 1 ≤ s) → (coordsS sizes r).1 = r / prodL sizes
  | [], r, _ => by simp [coordsS, prodL]
  | s :: l, r, h => by
    have h2 := prodL_pos l fun x hx => h x (by simp [hx])
    unfold coordsS prodL
    simp only
    rw [coordsS_quot l r fun x hx => h x (by simp [hx]), Int.mul_comm, Int.ediv_ediv_of_nonneg (by omega)]

/-- digits of these sizes -/
def Digits : List Int → List Int → Prop
  | [], [] => True
  | s :: sz, x :: xs => (0 ≤ x ∧ x < s) ∧ Digits sz xs
  | _, _ => False
theorem Digits.len : ∀ {sz xs : List Int}, Digits sz xs → xs.length = sz.length
  | [], [], _ => rfl
  | s :: sz, x :: xs, h => by simp [Digits.len h.2]
theorem Digits.at_ : ∀ {sz xs : List Int}, Digits sz xs → ∀ d, d < sz.length → 0 ≤ xs.getD d 0 ∧ xs.getD d 0 < sz.getD d 0
  | s :: sz, x :: xs, h, 0, _ => by simpa using h.1
  | s :: sz, x :: xs, h, d + 1, hd => by simpa using Digits.at_ h.2 d (by simpa using hd)
theorem Digits.set : ∀ {sz xs : List Int}, Digits sz xs → ∀ (d : Nat) (y : Int), 0 ≤ y → y < sz.getD d 0 → Digits sz (xs.set d y)
  | [], [], h, _, _, _, _ => h
  | s :: sz, x :: xs, h, 0, y, h0, h1 => by
    simp at h1
    exact ⟨⟨h0, h1⟩, h.2⟩
  | s :: sz, x :: xs, h, d + 1, y, h0, h1 => by
    simp at h1
    exact ⟨h.1, Digits.set h.2 d y h0 (by simpa using h1)⟩
theorem coords_digits : ∀ (sizes : List Int) (r : Int), (∀ s ∈ sizes, 1 ≤ s) → Digits sizes (coordsS sizes r).2
  | [], _, _ => trivial
  | s :: l, r, h => by
    have hs := h s (by simp)
    exact ⟨⟨Int.emod_nonneg _ (by omega), Int.emod_lt_of_pos _ (by omega)⟩, coords_digits l r fun x hx => h x (by simp [hx])⟩
theorem coords_rankV : ∀ (sizes xs : List Int) (a : Int), Digits sizes xs → coordsS sizes (rankV a sizes xs) = (a, xs)
  | [], [], a, _ => rfl
  | s :: sz, x :: xs, a, h => by
    obtain ⟨h0, h1⟩ := h.1
    unfold rankV coordsS
    rw [coords_rankV sz xs (a * s + x) h.2]
    have e1 : (a * s + x) / s = a := by
      rw [Int.add_comm, Int.add_mul_ediv_right _ _ (by omega), Int.ediv_eq_zero_of_lt h0 h1]; omega
    have e2 : (a * s + x) % s = x := by
      rw [Int.add_comm, Int.add_mul_emod_self_right, Int.emod_eq_of_lt h0 h1]
    simp only [e1, e2]
theorem rankV_bd : ∀ (sizes xs : List Int) (a : Int), Digits sizes xs → 0 ≤ a → 0 ≤ rankV a sizes xs ∧ rankV a sizes xs < (a + 1) * prodL sizes
  | [], [], a, _, h => by simp [rankV, prodL]; omega
  | s :: sz, x :: xs, a, h, ha => by
    obtain ⟨h0, h1⟩ := h.1
    unfold rankV prodL
    have has : 0 ≤ a * s := Int.mul_nonneg ha (by omega)
    obtain ⟨i1, i2⟩ := rankV_bd sz xs (a * s + x) h.2 (by omega)
    refine ⟨i1, Int.lt_of_lt_of_le i2 ?_⟩
    rw [← Int.mul_assoc]
    have hp : 0 ≤ prodL sz := by
      have : ∀ (sz xs : List Int), Digits sz xs → 0 ≤ prodL sz := by
        intro sz
        induction sz with
        | nil => intro xs _; simp [prodL]
        | cons t sz ih =>
          intro xs hx
          cases xs with
          | nil => cases hx
          | cons y ys => exact Int.mul_nonneg (by have := hx.1; omega) (ih ys hx.2)
      exact this sz xs h.2
    refine Int.mul_le_mul_of_nonneg_right ?_ hp
    have : (a + 1) * s = a * s + s := by rw [Int.add_mul]; omega
    omega

/-- a coordinate along a dimension, brought into the grid -/
def nx (b : Bool) (s x : Int) : Option Int := if b then some (x % s) else if 0 ≤ x ∧ x < s then some x else none

theorem rankL_digits : ∀ (sizes : List Int) (wrap : List Bool) (xs : List Int) (a : Int), Digits sizes xs → wrap.length = sizes.length → 0 ≤ a → (a + 1) * prodL sizes ≤ 64 → (∀ s ∈ sizes, 1 ≤ s) → rankL a sizes wrap xs = rankV a sizes xs
  | [], _, [], a, _, _, _, _, _ => by simp [rankL, rankV]
  | s :: sz, b :: wr, x :: xs, a, h, hl, ha, hb, hp => by
    obtain ⟨h0, h1⟩ := h.1
    have e : (if b = true then x % s else x) = x := by
      cases b with
      | true => simp [Int.emod_eq_of_lt h0 h1]
      | false => simp
    unfold rankL rankV
    rw [e, if_neg (by omega)]
    have hpp := prodL_pos sz fun y hy => hp y (by simp [hy])
    have has : 0 ≤ a * s := Int.mul_nonneg ha (by omega)
    have e1 : (a + 1) * s = a * s + s := by rw [Int.add_mul]; omega
    have hb2 : ((a + 1) * s) * prodL sz ≤ 64 := by rw [Int.mul_assoc]; exact hb
    have hb3 : (a + 1) * s ≤ 64 := by
      have hnn : 0 ≤ (a + 1) * s := by omega
      have := Int.mul_le_mul_of_nonneg_left hpp hnn
      omega
    have w1 : wrap64 (a * s) = a * s := by unfold wrap64; omega
    rw [w1, show wrap64 (a * s + x) = a * s + x by unfold wrap64; omega]
    refine rankL_digits sz wr xs (a * s + x) h.2 (by simpa using hl) (by omega) ?_ (fun y hy => hp y (by simp [hy]))
    refine Int.le_trans (Int.mul_le_mul_of_nonneg_right ?_ (by omega)) hb2
    omega

theorem rankL_set : ∀ (sizes : List Int) (wrap : List Bool) (xs : List Int) (a : Int) (d : Nat) (x : Int), Digits sizes xs → wrap.length = sizes.length → 0 ≤ a → (a + 1) * prodL sizes ≤ 64 → (∀ s ∈ sizes, 1 ≤ s) → d < sizes.length →
    rankL a sizes wrap (xs.set d x) = match nx (wrap.getD d false) (sizes.getD d 0) x with | some y => rankV a sizes (xs.set d y) | none => -2
  | s :: sz, b :: wr, x0 :: xs, a, 0, x, h, hl, ha, hb, hp, _ => by
    have hs := hp s (by simp)
    have hpp := prodL_pos sz fun y hy => hp y (by simp [hy])
    have has : 0 ≤ a * s := Int.mul_nonneg ha (by omega)
    have e1 : (a + 1) * s = a * s + s := by rw [Int.add_mul]; omega
    have hb2 : ((a + 1) * s) * prodL sz ≤ 64 := by rw [Int.mul_assoc]; exact hb
    have hb3 : (a + 1) * s ≤ 64 := by
      have hnn : 0 ≤ (a + 1) * s := by omega
      have := Int.mul_le_mul_of_nonneg_left hpp hnn
      omega
    have w1 : wrap64 (a * s) = a * s := by unfold wrap64; omega
    have go : ∀ y, 0 ≤ y → y < s → rankL (wrap64 (a * s + y)) sz wr xs = rankV (a * s + y) sz xs := fun y hy0 hy1 => by
      rw [show wrap64 (a * s + y) = a * s + y by unfold wrap64; omega]
      refine rankL_digits sz wr xs (a * s + y) h.2 (by simpa using hl) (by omega) ?_ (fun y hy => hp y (by simp [hy]))
      refine Int.le_trans (Int.mul_le_mul_of_nonneg_right ?_ (by omega)) hb2
      omega
    simp only [List.set_cons_zero, List.getD_cons_zero]
    unfold rankL nx
    cases b with
    | true =>
      have m0 : 0 ≤ x % s := Int.emod_nonneg _ (by omega)
      have m1 : x % s < s := Int.emod_lt_of_pos _ (by omega)
      simp only [if_true]
      rw [if_neg (by omega), w1, go _ m0 m1]
      rfl
    | false =>
      simp only [Bool.false_eq_true, if_false]
      by_cases hx : 0 ≤ x ∧ x < s
      · rw [if_neg (by omega), if_pos hx, w1, go _ hx.1 hx.2]
        rfl
      · rw [if_pos (by omega), if_neg hx]
  | s :: sz, b :: wr, x0 :: xs, a, d + 1, x, h, hl, ha, hb, hp, hd => by
    obtain ⟨h0, h1⟩ := h.1
    have hs := hp s (by simp)
    have e : (if b = true then x0 % s else x0) = x0 := by
      cases b with
      | true => simp [Int.emod_eq_of_lt h0 h1]
      | false => simp
    have hpp := prodL_pos sz fun y hy => hp y (by simp [hy])
    have has : 0 ≤ a * s := Int.mul_nonneg ha (by omega)
    have e1 : (a + 1) * s = a * s + s := by rw [Int.add_mul]; omega
    have hb2 : ((a + 1) * s) * prodL sz ≤ 64 := by rw [Int.mul_assoc]; exact hb
    have hb3 : (a + 1) * s ≤ 64 := by
      have hnn : 0 ≤ (a + 1) * s := by omega
      have := Int.mul_le_mul_of_nonneg_left hpp hnn
      omega
    have w1 : wrap64 (a * s) = a * s := by unfold wrap64; omega
    have ih := rankL_set sz wr xs (a * s + x0) d x h.2 (by simpa using hl) (by omega) (by
      refine Int.le_trans (Int.mul_le_mul_of_nonneg_right ?_ (by omega)) hb2
      omega) (fun y hy => hp y (by simp [hy])) (by simpa using hd)
    simp only [List.set_cons_succ, List.getD_cons_succ]
    unfold rankL
    rw [e, if_neg (by omega), w1, show wrap64 (a * s + x0) = a * s + x0 by unfold wrap64; omega, ih]
    cases nx (wr.getD d false) (sz.getD d 0) x <;> rfl

theorem cntF_prod : ∀ (l : List Int) (n : Int), 1 ≤ n → (∀ s ∈ l, 1 ≤ s) → n * prodL l ≤ 64 → cntF n l = n * prodL l
  | [], n, _, _, _ => by simp [cntF, prodL]
  | s :: l, n, h1, hp, hb => by
    have hs := hp s (by simp)
    have hpp := prodL_pos l fun y hy => hp y (by simp [hy])
    unfold prodL at hb ⊢
    rw [← Int.mul_assoc] at hb ⊢
    have hns : 1 ≤ n * s := by
      have : 1 * 1 ≤ n * s := Int.mul_le_mul h1 hs (by omega) (by omega)
      omega
    have hb3 : n * s ≤ 64 := by
      have := Int.mul_le_mul_of_nonneg_left hpp (show 0 ≤ n * s by omega)
      omega
    have hdv : s ≤ 64 / n := (Int.le_ediv_iff_mul_le (by omega)).2 (by rw [Int.mul_comm]; exact hb3)
    unfold cntF
    rw [if_neg (by omega)]
    exact cntF_prod l (n * s) hns (fun y hy => hp y (by simp [hy])) hb
end Go.Proofs.Ytoloiingodigpaa
