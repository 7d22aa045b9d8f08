import Derived.Test.YtjcdnaandbockaaGreatProg
import Derived.WalkKit
import Derived.WalkSpells
import Derived.LoopTactic
import Derived.Lib.Hide
import Derived.BigQuiet
import Derived.Deep.QuietTactic
import Derived.OrdersIn
import Derived.Laws.Rows
import Derived.Laws.Tables
import Derived.Shelf.Spec.BitsCarry
import Derived.Shelf.Abstract
import Derived.Laws.BitsLemmas
import Derived.Laws.Bits64
namespace Go.Proofs.YtjcdnaandbockaaGreat
open Go.RowKit


/-- the word i of a number -/
def limb (V i : Nat) : Nat := V / 2 ^ (64 * i) % 18446744073709551616
theorem limb_lt (V i : Nat) : limb V i < 18446744073709551616 := Nat.mod_lt _ (by decide)
theorem pow_succ64 (i : Nat) : 2 ^ (64 * (i + 1)) = 2 ^ (64 * i) * 18446744073709551616 := by
  rw [Nat.mul_add, Nat.pow_add]
theorem pow_pos' (i : Nat) : 0 < 2 ^ (64 * i) := Nat.two_pow_pos _

/-- the carry into word i -/
def carry (V X i : Nat) : Nat := (V % 2 ^ (64 * i) + X % 2 ^ (64 * i)) / 2 ^ (64 * i)
theorem carry_zero (V X : Nat) : carry V X 0 = 0 := by simp [carry, Nat.mod_one]
theorem carry_le (V X i : Nat) : carry V X i ≤ 1 := by
  unfold carry
  have h := pow_pos' i
  have h1 := Nat.mod_lt V h
  have h2 := Nat.mod_lt X h
  have : (V % 2 ^ (64 * i) + X % 2 ^ (64 * i)) / 2 ^ (64 * i) < 2 := by
    rw [Nat.div_lt_iff_lt_mul h]; omega
  omega
theorem split_mod (V p b : Nat) : V % (p * b) = V % p + p * (V / p % b) := Nat.mod_mul
theorem div_add_carry (V X p : Nat) (hp : 0 < p) : (V + X) / p = V / p + X / p + (V % p + X % p) / p := by
  have e1 : V + X = (V % p + X % p) + p * (V / p + X / p) := by
    have h1 := Nat.mod_add_div V p
    have h2 := Nat.mod_add_div X p
    rw [Nat.mul_add]; omega
  rw [e1, Nat.add_mul_div_left _ _ hp]; omega
theorem limb_add (V X i : Nat) : (limb V i + limb X i + carry V X i) % 18446744073709551616 = limb (V + X) i := by
  unfold limb carry
  rw [div_add_carry V X _ (pow_pos' i)]
  omega
theorem carry_succ (V X i : Nat) : (limb V i + limb X i + carry V X i) / 18446744073709551616 = carry V X (i + 1) := by
  unfold limb carry
  rw [pow_succ64, split_mod, split_mod]
  have hp := pow_pos' i
  generalize 2 ^ (64 * i) = p at *
  have e : V % p + p * (V / p % 18446744073709551616) + (X % p + p * (X / p % 18446744073709551616)) = (V % p + X % p) + p * (V / p % 18446744073709551616 + X / p % 18446744073709551616) := by
    rw [Nat.mul_add]; omega
  rw [e, ← Nat.div_div_eq_div_mul, Nat.add_mul_div_left _ _ hp]
  congr 1; omega

/-- the borrow into word i of 0 - V -/
def borrow (V i : Nat) : Nat := if V % 2 ^ (64 * i) = 0 then 0 else 1
theorem borrow_zero (V : Nat) : borrow V 0 = 0 := by simp [borrow, Nat.mod_one]
theorem borrow_le (V i : Nat) : borrow V i ≤ 1 := by unfold borrow; split <;> omega
theorem borrow_succ (V i : Nat) : (if 0 < limb V i + borrow V i then 1 else 0) = borrow V (i + 1) := by
  unfold limb borrow
  rw [pow_succ64, split_mod]
  have hp := pow_pos' i
  generalize 2 ^ (64 * i) = p at *
  by_cases h1 : V % p = 0
  · by_cases h2 : V / p % 18446744073709551616 = 0
    · simp [h1, h2]
    · have : p * (V / p % 18446744073709551616) ≠ 0 := by
        intro h; rcases Nat.mul_eq_zero.1 h with h | h <;> omega
      rw [if_pos h1, if_pos (by omega), if_neg (by omega)]
  · rw [if_neg h1, if_pos (by omega), if_neg (by omega)]
/-- 2^2304 -/
@[irreducible] def big : Nat := 2 ^ 2304
theorem big_split (i : Nat) (hi : i < 36) : big = 2 ^ (64 * i) * (18446744073709551616 * 2 ^ (2304 - 64 * i - 64)) := by
  have e : 2304 = 64 * i + (64 + (2304 - 64 * i - 64)) := by omega
  unfold big
  generalize 2304 = n at *
  rw [show (18446744073709551616 : Nat) = 2 ^ 64 by decide, ← Nat.pow_add, ← Nat.pow_add, ← e]
theorem big_ge (i : Nat) (hi : i < 36) : 2 ^ (64 * i) ≤ big := by
  rw [big_split i hi]
  exact Nat.le_mul_of_pos_right _ (Nat.mul_pos (by decide) (Nat.two_pow_pos _))
theorem big_pos : 0 < big := Nat.lt_of_lt_of_le (Nat.two_pow_pos _) (big_ge 0 (by decide))
/-- 0 - V, modulo 2^2304 -/
def opp (V : Nat) : Nat := (big - V) % big
theorem limb_mod (V i : Nat) (hi : i < 36) : limb (V % big) i = limb V i := by
  unfold limb
  rw [big_split i hi, Nat.mod_mul_right_div_self, Nat.mod_mul_right_mod]
theorem limb_opp (V i : Nat) (hV : V < big) (hi : i < 36) : (0 + 18446744073709551616 - limb V i - borrow V i) % 18446744073709551616 = limb (opp V) i := by
  unfold opp
  rw [limb_mod _ _ hi]
  unfold limb borrow
  rw [big_split i hi] at hV ⊢
  have hp := pow_pos' i
  have hq := Nat.two_pow_pos (2304 - 64 * i - 64)
  generalize 2 ^ (64 * i) = p at *
  generalize 2 ^ (2304 - 64 * i - 64) = q at *
  have hd : V / p < 18446744073709551616 * q := by rw [Nat.div_lt_iff_lt_mul hp, Nat.mul_comm]; exact hV
  have hm := Nat.mod_add_div V p
  have hr := Nat.mod_lt V hp
  have key : (p * (18446744073709551616 * q) - V) / p = 18446744073709551616 * q - V / p - (if V % p = 0 then 0 else 1) := by
    by_cases h0 : V % p = 0
    · rw [if_pos h0]
      have : p * (18446744073709551616 * q) - V = p * (18446744073709551616 * q - V / p) := by
        rw [Nat.mul_sub]; omega
      rw [this, Nat.mul_div_cancel_left _ hp]; omega
    · rw [if_neg h0]
      have : p * (18446744073709551616 * q) - V = (p - V % p) + p * (18446744073709551616 * q - V / p - 1) := by
        have e3 : p * (18446744073709551616 * q - V / p - 1) = p * (18446744073709551616 * q) - p * (V / p) - p := by rw [Nat.mul_sub, Nat.mul_sub, Nat.mul_one]
        have e4 : p * (V / p) + p ≤ p * (18446744073709551616 * q) := by
          rw [← Nat.mul_succ]; exact Nat.mul_le_mul_left _ hd
        rw [e3]; omega
      rw [this, Nat.add_mul_div_left _ _ hp, Nat.div_eq_of_lt (by omega)]; omega
  rw [key]
  by_cases h0 : V % p = 0
  · rw [if_pos h0]; omega
  · rw [if_neg h0]; omega

/-- two numbers with the same words are the same -/
theorem limb_ext : ∀ (n V X : Nat), V < 2 ^ (64 * n) → X < 2 ^ (64 * n) → (∀ i, i < n → limb V i = limb X i) → V = X := by
  intro n
  induction n with
  | zero => intro V X hV hX _; simp at hV hX; omega
  | succ n ih =>
    intro V X hV hX h
    have h0 := h n (by omega)
    unfold limb at h0
    rw [pow_succ64] at hV hX
    have hp := pow_pos' n
    have hl := ih (V % 2 ^ (64 * n)) (X % 2 ^ (64 * n)) (Nat.mod_lt _ hp) (Nat.mod_lt _ hp) (fun i hi => by
      have := h i (by omega)
      unfold limb at this ⊢
      have e : (2 : Nat) ^ (64 * n) = 2 ^ (64 * i) * (18446744073709551616 * 2 ^ (64 * n - 64 * i - 64)) := by
        rw [show (18446744073709551616 : Nat) = 2 ^ 64 by decide, ← Nat.pow_add, ← Nat.pow_add]; congr 1; omega
      rw [e, Nat.mod_mul_right_div_self, Nat.mod_mul_right_div_self, Nat.mod_mul_right_mod, Nat.mod_mul_right_mod]; exact this)
    generalize 2 ^ (64 * n) = p at *
    have a1 : V / p < 18446744073709551616 := by rw [Nat.div_lt_iff_lt_mul hp, Nat.mul_comm]; exact hV
    have a2 : X / p < 18446744073709551616 := by rw [Nat.div_lt_iff_lt_mul hp, Nat.mul_comm]; exact hX
    rw [Nat.mod_eq_of_lt a1, Nat.mod_eq_of_lt a2] at h0
    rw [← Nat.mod_add_div V p, ← Nat.mod_add_div X p, hl, h0]
theorem div_lt' {a p b : Nat} (hp : 0 < p) : a / p < b ↔ a < p * b := by rw [Nat.div_lt_iff_lt_mul hp, Nat.mul_comm]

/-- how many bits a number has -/
def blen (V : Nat) : Nat := if V = 0 then 0 else V.log2 + 1
theorem blen_le {V n : Nat} : blen V ≤ n ↔ V < 2 ^ n := by
  unfold blen
  by_cases h : V = 0
  · subst h; simp [Nat.two_pow_pos]
  · rw [if_neg h, ← Nat.log2_lt h]; omega
theorem lt_blen (V : Nat) : V < 2 ^ blen V := blen_le.1 (Nat.le_refl _)
theorem limb_top {V i : Nat} (h : V < 2 ^ (64 * (i + 1))) : limb V i = V / 2 ^ (64 * i) := by
  unfold limb
  rw [pow_succ64] at h
  exact Nat.mod_eq_of_lt (by rw [Nat.div_lt_iff_lt_mul (pow_pos' i), Nat.mul_comm]; exact h)
theorem blen_limb {V i : Nat} (h : V < 2 ^ (64 * (i + 1))) (hz : limb V i ≠ 0) : blen V = 64 * i + blen (limb V i) := by
  have hp := pow_pos' i
  rw [limb_top h] at hz ⊢
  apply Nat.le_antisymm
  · rw [blen_le, Nat.pow_add, ← div_lt' hp]
    exact lt_blen _
  · have h1 : ¬ blen V ≤ 64 * i := by
      rw [blen_le]; intro h2
      exact hz (Nat.div_eq_of_lt h2)
    have h2 : blen (V / 2 ^ (64 * i)) ≤ blen V - 64 * i := by
      rw [blen_le, div_lt' hp, ← Nat.pow_add, show 64 * i + (blen V - 64 * i) = blen V by omega]
      exact lt_blen V
    omega
theorem small_of_limb {V i : Nat} (h : V < 2 ^ (64 * (i + 1))) (hz : limb V i = 0) : V < 2 ^ (64 * i) := by
  rw [limb_top h] at hz
  have := Nat.mod_add_div V (2 ^ (64 * i))
  rw [hz] at this
  have h2 := Nat.mod_lt V (pow_pos' i)
  omega
theorem limb_low (V n i : Nat) (hi : i < n) : limb (V % 2 ^ (64 * n)) i = limb V i := by
  unfold limb
  have e : (2 : Nat) ^ (64 * n) = 2 ^ (64 * i) * (18446744073709551616 * 2 ^ (64 * n - 64 * i - 64)) := by
    rw [show (18446744073709551616 : Nat) = 2 ^ 64 by decide, ← Nat.pow_add, ← Nat.pow_add]; congr 1; omega
  rw [e, Nat.mod_mul_right_div_self, Nat.mod_mul_right_mod]
theorem limb_zero (i : Nat) : limb 0 i = 0 := by simp [limb]
theorem low_zero (V n : Nat) : V % 2 ^ (64 * n) = 0 ↔ ∀ i, i < n → limb V i = 0 := by
  constructor
  · intro h i hi
    rw [← limb_low V n i hi, h, limb_zero]
  · intro h
    apply limb_ext n _ _ (Nat.mod_lt _ (pow_pos' n)) (pow_pos' n)
    intro i hi
    rw [limb_low _ _ _ hi, h i hi, limb_zero]

theorem b64 (d : Nat) (hd : d ≤ 64) : (18446744073709551616 : Nat) = 2 ^ d * 2 ^ (64 - d) := by
  rw [← Nat.pow_add, show d + (64 - d) = 64 by omega]
theorem b64' (d : Nat) (hd : d ≤ 64) : (18446744073709551616 : Nat) = 2 ^ (64 - d) * 2 ^ d := by
  rw [Nat.mul_comm, ← b64 d hd]
/-- the part of a word that is shifted to the left -/
theorem shl_limb (L d : Nat) (hd : d ≤ 64) : L * 2 ^ (64 - d) % 18446744073709551616 = 2 ^ (64 - d) * (L % 2 ^ d) := by
  rw [b64' d hd, Nat.mul_comm L, Nat.mul_mod_mul_left]
theorem from_limb (V i d : Nat) (hd : d < 64) : (limb V i / 2 ^ d) ||| (limb V (i + 1) * 2 ^ (64 - d) % 18446744073709551616) = V / 2 ^ (64 * i + d) % 18446744073709551616 := by
  rw [shl_limb _ _ (by omega)]
  have hl : limb V i / 2 ^ d < 2 ^ (64 - d) := by
    rw [Nat.div_lt_iff_lt_mul (Nat.two_pow_pos _), ← b64' d (by omega)]; exact limb_lt V i
  rw [Nat.or_comm, ← Nat.two_pow_add_eq_or_of_lt hl]
  unfold limb
  rw [pow_succ64, ← Nat.div_div_eq_div_mul, Nat.pow_add, ← Nat.div_div_eq_div_mul]
  generalize V / 2 ^ (64 * i) = Q
  have e1 : Q % 18446744073709551616 / 2 ^ d = Q / 2 ^ d % 2 ^ (64 - d) := by rw [b64 d (by omega), Nat.mod_mul_right_div_self]
  have e2 : Q / 18446744073709551616 % 18446744073709551616 % 2 ^ d = Q / 2 ^ d / 2 ^ (64 - d) % 2 ^ d := by
    rw [Nat.div_div_eq_div_mul, ← b64 d (by omega), Nat.mod_mod_of_dvd]
    rw [b64 d (by omega)]; exact Nat.dvd_mul_right _ _
  rw [e1, e2]
  conv => rhs; rw [b64' d (by omega), Nat.mod_mul]
  omega
theorem any_limb (V i d : Nat) (hd : d < 64) : V % 2 ^ (64 * i + d) = 0 ↔ limb V i * 2 ^ (64 - d) % 18446744073709551616 = 0 ∧ ∀ j, j < i → limb V j = 0 := by
  rw [shl_limb _ _ (by omega), ← low_zero, Nat.pow_add, Nat.mod_mul]
  have e2 : limb V i % 2 ^ d = V / 2 ^ (64 * i) % 2 ^ d := by
    unfold limb
    rw [Nat.mod_mod_of_dvd]
    rw [b64 d (by omega)]; exact Nat.dvd_mul_right _ _
  rw [e2]
  have hp := pow_pos' i
  have hq := Nat.two_pow_pos (64 - d)
  constructor
  · intro h
    have h1 : 2 ^ (64 * i) * (V / 2 ^ (64 * i) % 2 ^ d) = 0 := by omega
    have h2 : V / 2 ^ (64 * i) % 2 ^ d = 0 := by rcases Nat.mul_eq_zero.1 h1 with h | h <;> omega
    rw [h2]; exact ⟨Nat.mul_zero _, by omega⟩
  · rintro ⟨h1, h2⟩
    have h3 : V / 2 ^ (64 * i) % 2 ^ d = 0 := by rcases Nat.mul_eq_zero.1 h1 with h | h <;> omega
    rw [h2, h3]; simp

theorem byte_limb (V k : Nat) : limb V (k / 8) / 2 ^ (k % 8 * 8) % 256 = V / 2 ^ (8 * k) % 256 := by
  unfold limb
  have e : 2 ^ (8 * k) = 2 ^ (64 * (k / 8)) * 2 ^ (k % 8 * 8) := by rw [← Nat.pow_add]; congr 1; omega
  rw [e, ← Nat.div_div_eq_div_mul]
  generalize V / 2 ^ (64 * (k / 8)) = Q
  have e2 : (18446744073709551616 : Nat) = 2 ^ (k % 8 * 8) * (256 * 2 ^ (56 - k % 8 * 8)) := by
    rw [show (256 : Nat) = 2 ^ 8 by decide, ← Nat.pow_add, ← Nat.pow_add, show k % 8 * 8 + (8 + (56 - k % 8 * 8)) = 64 by omega]
  rw [e2, Nat.mod_mul_right_div_self, Nat.mod_mul_right_mod]

/-- the number with some bytes, the lowest one first -/
def valB (f : Nat → Nat) : Nat → Nat
  | 0 => 0
  | k + 1 => valB f k + f k * 2 ^ (8 * k)
theorem pow8 (k : Nat) : 2 ^ (8 * (k + 1)) = 2 ^ (8 * k) * 256 := by rw [Nat.mul_add, Nat.pow_add]
theorem valB_lt (f : Nat → Nat) (hf : ∀ j, f j < 256) : ∀ k, valB f k < 2 ^ (8 * k)
  | 0 => by simp [valB]
  | k + 1 => by
    have := valB_lt f hf k
    have h2 : f k * 2 ^ (8 * k) ≤ 255 * 2 ^ (8 * k) := Nat.mul_le_mul_right _ (by have := hf k; omega)
    rw [pow8, valB]; omega
theorem valB_bytes (V : Nat) : ∀ k, valB (fun j => V / 2 ^ (8 * j) % 256) k = V % 2 ^ (8 * k)
  | 0 => by simp [valB, Nat.mod_one]
  | k + 1 => by rw [valB, valB_bytes V k, pow8, Nat.mod_mul, Nat.mul_comm (2 ^ (8 * k))]
theorem valB_congr {f g : Nat → Nat} : ∀ {k : Nat}, (∀ j, j < k → f j = g j) → valB f k = valB g k
  | 0, _ => rfl
  | k + 1, h => by rw [valB, valB, valB_congr (fun j hj => h j (by omega)), h k (by omega)]
theorem valB_byte (f : Nat → Nat) (hf : ∀ j, f j < 256) : ∀ k j, j < k → valB f k / 2 ^ (8 * j) % 256 = f j
  | 0, j, h => by omega
  | k + 1, j, h => by
    rw [valB]
    by_cases hj : j = k
    · subst hj
      rw [Nat.add_mul_div_right _ _ (Nat.two_pow_pos _), Nat.div_eq_of_lt (valB_lt f hf j)]
      have := hf j; omega
    · have e : 2 ^ (8 * k) = 2 ^ (8 * j) * (256 * 2 ^ (8 * k - 8 * j - 8)) := by
        rw [show (256 : Nat) = 2 ^ 8 by decide, ← Nat.pow_add, ← Nat.pow_add]; congr 1; omega
      rw [e, Nat.mul_comm (f k), Nat.mul_assoc, Nat.add_mul_div_left _ _ (Nat.two_pow_pos _), Nat.mul_assoc, Nat.add_mul_mod_self_left]
      exact valB_byte f hf k j (by omega)
/-- the words of a number to which a byte is added in front -/
theorem limb_byte (S x k i : Nat) (hS : S < 2 ^ (8 * k)) (hx : x < 256) : limb (S + x * 2 ^ (8 * k)) i = if i = k / 8 then limb S i ||| (x * 2 ^ (k % 8 * 8)) else limb S i := by
  have e : 2 ^ (8 * k) = 2 ^ (64 * (k / 8)) * 2 ^ (k % 8 * 8) := by rw [← Nat.pow_add]; congr 1; omega
  by_cases hi : i = k / 8
  · subst hi
    rw [if_pos rfl]
    unfold limb
    have hd : S / 2 ^ (64 * (k / 8)) < 2 ^ (k % 8 * 8) := by
      rw [div_lt' (Nat.two_pow_pos _), ← e]; exact hS
    have e64 : (18446744073709551616 : Nat) = 2 ^ (k % 8 * 8) * (256 * 2 ^ (56 - k % 8 * 8)) := by
      rw [show (256 : Nat) = 2 ^ 8 by decide, ← Nat.pow_add, ← Nat.pow_add, show k % 8 * 8 + (8 + (56 - k % 8 * 8)) = 64 by omega]
    have hq := Nat.two_pow_pos (k % 8 * 8)
    have hq2 := Nat.two_pow_pos (56 - k % 8 * 8)
    rw [e, Nat.mul_comm x, Nat.mul_assoc, Nat.add_mul_div_left _ _ (Nat.two_pow_pos _), Nat.mul_comm x]
    generalize S / 2 ^ (64 * (k / 8)) = T at *
    have hle : 2 ^ (k % 8 * 8) ≤ 18446744073709551616 := by
      rw [e64]; exact Nat.le_mul_of_pos_right _ (Nat.mul_pos (by decide) hq2)
    have hT : T % 18446744073709551616 = T := Nat.mod_eq_of_lt (by omega)
    rw [hT, Nat.or_comm, ← Nat.two_pow_add_eq_or_of_lt hd, Nat.add_comm, Nat.mod_eq_of_lt]
    rw [e64]
    have : 2 ^ (k % 8 * 8) * x + 2 ^ (k % 8 * 8) ≤ 2 ^ (k % 8 * 8) * (256 * 2 ^ (56 - k % 8 * 8)) := by
      rw [← Nat.mul_succ]
      exact Nat.mul_le_mul_left _ (Nat.le_trans (by omega : x.succ ≤ 256 * 1) (Nat.mul_le_mul_left _ hq2))
    omega
  · rw [if_neg hi]
    by_cases hlt : i < k / 8
    · unfold limb
      have e2 : 2 ^ (8 * k) = 2 ^ (64 * i) * (18446744073709551616 * 2 ^ (8 * k - 64 * i - 64)) := by
        rw [show (18446744073709551616 : Nat) = 2 ^ 64 by decide, ← Nat.pow_add, ← Nat.pow_add]; congr 1; omega
      rw [e2, Nat.mul_comm x, Nat.mul_assoc, Nat.add_mul_div_left _ _ (Nat.two_pow_pos _), Nat.mul_assoc, Nat.add_mul_mod_self_left]
    · have h1 : S + x * 2 ^ (8 * k) < 2 ^ (8 * (k + 1)) := by
        have h2 : x * 2 ^ (8 * k) ≤ 255 * 2 ^ (8 * k) := Nat.mul_le_mul_right _ (by omega)
        rw [pow8]; omega
      have h3 : 2 ^ (8 * (k + 1)) ≤ 2 ^ (64 * i) := Nat.pow_le_pow_right (by decide) (by omega)
      unfold limb
      rw [Nat.div_eq_of_lt (by omega), Nat.div_eq_of_lt (by have := Nat.pow_le_pow_right (show 0 < 2 by decide) (show 8 * k ≤ 64 * i by omega); omega)]
theorem limb_exact (D i up j : Nat) (hD : D < 18446744073709551616) (hu : up < 64) :
    limb (D * 2 ^ (64 * i + up)) j = if j = i then D * 2 ^ up % 18446744073709551616 else if j = i + 1 then D / 2 ^ (64 - up) else 0 := by
  have hp := Nat.two_pow_pos up
  have hpow : 2 ^ up * 2 ^ (64 - up) = 18446744073709551616 := (b64 up (by omega)).symm
  have hlt : D * 2 ^ up < 18446744073709551616 * 18446744073709551616 := by
    apply Nat.lt_of_lt_of_le (Nat.mul_lt_mul_of_pos_right hD hp)
    exact Nat.mul_le_mul_left _ (by rw [b64 up (by omega)]; exact Nat.le_mul_of_pos_right _ (Nat.two_pow_pos _))
  by_cases h1 : j = i
  · subst h1
    rw [if_pos rfl]
    unfold limb
    rw [Nat.pow_add, Nat.mul_left_comm, Nat.mul_div_cancel_left _ (pow_pos' j)]
  · rw [if_neg h1]
    by_cases h2 : j = i + 1
    · subst h2
      rw [if_pos rfl]
      unfold limb
      rw [pow_succ64, ← Nat.div_div_eq_div_mul, Nat.pow_add, Nat.mul_left_comm, Nat.mul_div_cancel_left _ (pow_pos' i)]
      have e : D * 2 ^ up / 18446744073709551616 = D / 2 ^ (64 - up) := by
        rw [← hpow, ← Nat.div_div_eq_div_mul, Nat.mul_div_cancel _ hp]
      rw [e, Nat.mod_eq_of_lt]
      exact Nat.lt_of_le_of_lt (Nat.div_le_self _ _) hD
    · rw [if_neg h2]
      unfold limb
      by_cases h3 : j < i
      · have e : D * 2 ^ (64 * i + up) = 2 ^ (64 * j) * (18446744073709551616 * (2 ^ (64 * i - 64 * j - 64) * (D * 2 ^ up))) := by
          have : 2 ^ (64 * i + up) = 2 ^ (64 * j) * 2 ^ 64 * 2 ^ (64 * i - 64 * j - 64) * 2 ^ up := by
            rw [← Nat.pow_add, ← Nat.pow_add, ← Nat.pow_add]; congr 1; omega
          rw [this, show (18446744073709551616 : Nat) = 2 ^ 64 by decide]
          simp only [Nat.mul_comm, Nat.mul_left_comm, Nat.mul_assoc]
        rw [e, Nat.mul_div_cancel_left _ (pow_pos' j), Nat.mul_mod_right]
      · have e : 2 ^ (64 * j) = 2 ^ (64 * i) * (18446744073709551616 * 18446744073709551616 * 2 ^ (64 * j - 64 * i - 128)) := by
          have h4 : 64 * j = 64 * i + (128 + (64 * j - 64 * i - 128)) := by omega
          rw [show 18446744073709551616 * 18446744073709551616 = 2 ^ 128 by decide, ← Nat.pow_add, ← Nat.pow_add, ← h4]
        rw [e, ← Nat.div_div_eq_div_mul, Nat.pow_add, Nat.mul_left_comm, Nat.mul_div_cancel_left _ (pow_pos' i), Nat.div_eq_of_lt]
        apply Nat.lt_of_lt_of_le hlt
        exact Nat.le_mul_of_pos_right _ (Nat.two_pow_pos _)
end Go.Proofs.YtjcdnaandbockaaGreat

namespace Go.Proofs.YtjcdnaandbockaaGreat
open Go.RowKit

section
variable {F : Fence} {n : Nat} {P : Program} {md : Region.Mode} {ops : Array Oper} {Q : Exit → Act → World → Prop}

theorem ready_spec {listed : Array Bool} {i : Nat} (_ : listed.size = ops.size) (h : i ∈ Region.ready md ops listed) :
    i < ops.size ∧ listed.getD i true = false ∧ ∀ o, ops[i]? = some o → ∀ e ∈ o.after, Region.binds md e = true → listed.getD e.on false = true := by
  unfold Region.ready at h
  simp only [List.mem_filter, List.mem_range] at h
  obtain ⟨h1, h2⟩ := h
  have h1' : i < ops.size := by omega
  rw [Array.getElem?_eq_getElem h1'] at h2
  simp only [Option.map_some, Option.getD_some, Bool.and_eq_true, Bool.not_eq_true', Array.all_eq_true_iff_forall_mem] at h2
  refine ⟨h1', h2.1, fun o ho e he hb => ?_⟩
  rw [Array.getElem?_eq_getElem h1'] at ho
  cases ho
  have := h2.2 e he
  simpa [hb] using this

theorem ready_nil {listed : Array Bool} (hs : listed.size = ops.size) (h : Region.ready md ops listed = []) (hup : ∀ (i : Nat) (o : Oper), ops[i]? = some o → ∀ e ∈ o.after, Region.binds md e = true → e.on < i) :
    ∀ i, i < ops.size → listed.getD i true = true := by
  intro i
  induction i using Nat.strongRecOn with
  | _ i ih =>
    intro hi
    by_cases hb : listed.getD i true = true
    · exact hb
    · have hb : listed.getD i true = false := by simpa using hb
      have hmem : i ∈ Region.ready md ops listed := by
        unfold Region.ready
        simp only [List.mem_filter, List.mem_range]
        refine ⟨by omega, ?_⟩
        rw [Array.getElem?_eq_getElem hi]
        simp only [Option.map_some, Option.getD_some, Bool.and_eq_true, Bool.not_eq_true', Array.all_eq_true_iff_forall_mem]
        refine ⟨hb, fun e he => ?_⟩
        cases hbe : Region.binds md e with
        | false => rfl
        | true =>
        have hlt := hup i ops[i] (Array.getElem?_eq_getElem hi) e he hbe
        have := ih e.on hlt (by omega)
        have h2 : listed.getD e.on false = true := by
          have hl : e.on < listed.size := by omega
          simp [Array.getD, hl] at this ⊢
          exact this
        simp [h2]
      rw [h] at hmem
      cases hmem

theorem count_set {listed : Array Bool} {i : Nat} (hi : i < listed.size) (hb : listed.getD i true = false) :
    (listed.setIfInBounds i true).toList.count false + 1 = listed.toList.count false := by
  have hb' : listed[i] = false := by simpa [Array.getD, hi] using hb
  have hmem : 0 < listed.toList.count false := List.count_pos_iff.2 (by rw [← hb']; simp)
  rw [Array.toList_setIfInBounds, List.count_set (by simpa using hi)]
  have e1 : listed.toList[i]'(by simpa using hi) = false := by simpa using hb'
  simp only [e1]
  have hm' : 0 < Array.count false listed := by simpa using (show 0 < listed.toList.count false from hmem)
  simp
  omega

theorem anyIn_det {I : Array Bool → Act → World → Prop}
    (step : ∀ listed a w i, listed.size = ops.size → i ∈ Region.ready md ops listed → I listed a w → wpOpIn F n P ops Q i (I (listed.setIfInBounds i true)) a w)
    (fin : ∀ listed a w, listed.size = ops.size → Region.ready md ops listed = [] → I listed a w → Q .normal a w) :
    ∀ fuel listed a w, listed.size = ops.size → listed.toList.count false ≤ fuel → I listed a w → wpAnyIn F n P md ops Q fuel listed a w := by
  intro fuel
  induction fuel with
  | zero =>
    intro listed a w hs hc h
    have hr : Region.ready md ops listed = [] := by
      refine List.eq_nil_iff_forall_not_mem.2 fun i hi => ?_
      obtain ⟨h1, h2, _⟩ := ready_spec hs hi
      have := count_set (by omega) h2
      omega
    exact ⟨hr, fin listed a w hs hr h⟩
  | succ fuel ih =>
    intro listed a w hs hc h
    refine ⟨fun hr => fin listed a w hs hr h, fun i hi => ?_⟩
    obtain ⟨h1, h2, _⟩ := ready_spec hs hi
    have := count_set (by omega) h2
    exact wpOpIn_mono (fun a' w' h' => ih _ a' w' (by simpa using hs) (by omega) h') (step listed a w i hs hi h)

/-- A region that draws its order, by an invariant of what has been done. -/
theorem region_det {id : Nat} {a : Act} {w : World} (hm : P.follows .mixedOrders = true) {I : Array Bool → Act → World → Prop}
    (hup : ∀ (i : Nat) (o : Oper), ops[i]? = some o → ∀ e ∈ o.after, Region.binds .any e = true → e.on < i)
    (h0 : I (Array.replicate ops.size false) a w.drew)
    (step : ∀ listed a w i, listed.size = ops.size → listed.getD i true = false → (∀ o, ops[i]? = some o → ∀ e ∈ o.after, Region.binds .any e = true → listed.getD e.on false = true) → i < ops.size → I listed a w → wpOpIn F n P ops Q i (I (listed.setIfInBounds i true)) a w)
    (fin : ∀ listed a w, listed.size = ops.size → (∀ i, i < ops.size → listed.getD i true = true) → I listed a w → Q .normal a w) :
    (Code.region id ops true).wpIn F n P Q a w :=
  wpIn_region_any hm (anyIn_det (fun listed a w i hs hi h => by
    obtain ⟨h1, h2, h3⟩ := ready_spec hs hi
    exact step listed a w i hs h2 h3 h1 h) (fun listed a w hs hr h => fin listed a w hs (ready_nil hs hr hup) h) _ _ _ _ (by simp) (by simp) h0)
end
end Go.Proofs.YtjcdnaandbockaaGreat
namespace Go.Proofs.YtjcdnaandbockaaGreat
theorem hup_check {ops : Array Oper} (h : (List.range ops.size).all (fun i => ((ops[i]?).map fun o => o.after.all fun e => !Region.binds .any e || decide (e.on < i)).getD true) = true) : ∀ (i : Nat) (o : Oper), ops[i]? = some o → ∀ e ∈ o.after, Region.binds .any e = true → e.on < i := by
  intro i o ho e he hb
  have hi : i < ops.size := (Array.getElem?_eq_some_iff.1 ho).1
  have := List.all_eq_true.1 h i (by simpa using hi)
  rw [ho] at this
  simp only [Option.map_some, Option.getD_some, Array.all_eq_true_iff_forall_mem] at this
  simpa [hb] using this e he
end Go.Proofs.YtjcdnaandbockaaGreat

namespace Go.Proofs.YtjcdnaandbockaaGreat
section
variable {n : Nat} {P : Program} {ops : Array Oper} {Q : Exit → Act → World → Prop}

theorem wpIn_of_wp_plain {o : Oper} {a : Act} {w w' : World} {K : Act → World → Prop} {v : Value} (h : (o.semAt Fence.wide.round a.eval).run P w = .ok (.value v) w') (hk : K (a.put o.dst v) w') : Oper.wpIn Fence.wide n P o a w K Q := by
  refine ⟨fun f _ => trivial, ?_⟩
  rw [h]
  exact hk

theorem wpInF_plain {F : Fence} {o : Oper} {a : Act} {w w' : World} {K : Act → World → Prop} {v : Value} (hab : ∀ f, o.about P w a.eval = some f → F.fn f) (h : (o.semAt F.round a.eval).run P w = .ok (.value v) w') (hk : K (a.put o.dst v) w') : Oper.wpIn F n P o a w K Q := by
  refine ⟨hab, ?_⟩
  rw [h]
  exact hk
theorem wpInF_skip {F : Fence} {o : Oper} {a : Act} {w w' : World} {K : Act → World → Prop} (hab : ∀ f, o.about P w a.eval = some f → F.fn f) (h : (o.semAt F.round a.eval).run P w = .ok .skip w') (hk : K (a.put o.dst undef) w') : Oper.wpIn F n P o a w K Q := by
  refine ⟨hab, ?_⟩
  rw [h]
  exact hk

theorem wpIn_of_wp_skip {o : Oper} {a : Act} {w w' : World} {K : Act → World → Prop} (h : (o.semAt Fence.wide.round a.eval).run P w = .ok .skip w') (hk : K (a.put o.dst undef) w') : Oper.wpIn Fence.wide n P o a w K Q := by
  refine ⟨fun f _ => trivial, ?_⟩
  rw [h]
  exact hk

theorem wpOpIn_load_row {i : Nat} {o : Oper} {K : Act → World → Prop} {a : Act} {w : World} (ho : ops[i]? = some o) (hgd : o.guard = none) (ty : TypeId) (x : Operand) (hop : o.op = .load ty x)
    (g : Nat) (hx : a.eval x = .pointer (some ⟨g, 0, none⟩)) (t : TypeId) (cs : Array Value) (fr : Nat × Nat) (d : TypeDesc) (hg : w.heap[g]? = some (.cells cs t fr))
    (hu : P.underlying ty = some d) (hd : (match d with | .struct _ | .array _ _ => true | _ => false) = true) (hi : (P.info? ty).map (·.size) = some cs.size)
    (h : K (a.put o.dst (.agg cs)) w) : wpOpIn Fence.wide n P ops Q i K a w := by
  refine wpOpIn_step ho (fun K' hK => ?_)
  rw [if_pos (by simp [Region.wanted, hgd])]
  refine wpIn_of_wp_plain (v := .agg cs) ?_ (hK _ _ h)
  have : Fence.wide.round = none := rfl
  simp only [this, Oper.semAt, hop, execOp, hx, Instr.loadAt, Instr.sureAddr, Sem.run_bind, Sem.run_pure, Result.andThen_ok, run_loadVar_row w g t ty cs fr d hg hu hd hi]

theorem wpOpIn_store_row {i : Nat} {o : Oper} {K : Act → World → Prop} {a : Act} {w : World} (ho : ops[i]? = some o) (hgd : o.guard = none) (ty : TypeId) (x y : Operand) (hop : o.op = .store ty x y)
    (g : Nat) (cells : Array Value) (hx : a.eval x = .pointer (some ⟨g, 0, none⟩)) (hy : a.eval y = .agg cells)
    (t : TypeId) (old : Array Value) (hg : w.heap[g]? = some (.cells old t (0, 0))) (hi : (P.info? ty).map (·.size) = some cells.size)
    (hold : old.size = cells.size) (h1 : cells.all (·.oneCell') = true)
    (h : K (a.put o.dst undef) (w.setRow g cells)) : wpOpIn Fence.wide n P ops Q i K a w := by
  refine wpOpIn_step ho (fun K' hK => ?_)
  rw [if_pos (by simp [Region.wanted, hgd])]
  refine wpIn_of_wp_skip ?_ (hK _ _ h)
  have : Fence.wide.round = none := rfl
  simp only [this, Oper.semAt, hop, execOp, hx, hy, Instr.storeAt, Instr.sureAddr, Sem.run_bind, Sem.run_pure, Result.andThen_ok, run_storeVar_row w g t ty old cells hg hi hold h1]
end
end Go.Proofs.YtjcdnaandbockaaGreat

namespace Go.Proofs.YtjcdnaandbockaaGreat
open Go.RowKit Go.Shelf
attribute [local go_sem] Oper.semAt_some

/-- the cells of 36 words -/
@[irreducible] def lA (f : Nat → Nat) : Array Value := Array.ofFn (n := 36) fun j => .int .u64 (f j)
@[simp] theorem lA_size (f : Nat → Nat) : (lA f).size = 36 := by unfold lA; simp
theorem lA_at (f : Nat → Nat) (j : Nat) (h : j < 36) : (lA f)[j]? = some (.int .u64 (f j)) := by unfold lA; simp [h]
theorem lA_one (f : Nat → Nat) : (lA f).all (·.oneCell') = true := by unfold lA; rw [Array.all_eq_true]; intro i hi; simp [Value.oneCell']
theorem lA_congr {f g : Nat → Nat} (h : ∀ j, j < 36 → f j = g j) : lA f = lA g := by
  unfold lA
  congr 1
  funext j
  rw [h j j.2]
theorem lA_get (f : Nat → Nat) (j : Nat) (h : j < (lA f).size) : (lA f)[j] = .int .u64 (f j) := by
  have := lA_at f j (by simpa using h)
  rw [Array.getElem?_eq_getElem h] at this
  exact Option.some.inj this
theorem lA_set (f : Nat → Nat) (i v : Nat) : (lA f).setIfInBounds i (.int .u64 v) = lA (fun j => if j = i then v else f j) := by
  apply Array.ext
  · simp
  · intro j h1 h2
    have hj : j < 36 := by simpa using h2
    rw [lA_get (fun j => if j = i then v else f j) j h2, Array.getElem_setIfInBounds (by simpa using hj)]
    by_cases e : i = j
    · subst e; simp
    · rw [if_neg e, if_neg (fun h : j = i => e h.symm), lA_get]

/-- block b holds words between other cells -/
def WAt (w : World) (b : Nat) (t : TypeId) (pre post : Array Value) (f : Nat → Nat) : Prop := w.heap[b]? = some (.cells (pre ++ lA f ++ post) t (0, 0))
theorem WAt.lt {w : World} {b : Nat} {t : TypeId} {pre post : Array Value} {f : Nat → Nat} (h : WAt w b t pre post f) : b < w.heap.size := (Array.getElem?_eq_some_iff.1 h).1
theorem WAt.cell {w : World} {b : Nat} {t : TypeId} {pre post : Array Value} {f : Nat → Nat} (h : WAt w b t pre post f) (j : Nat) (hj : j < 36) : w.cell? ⟨b, pre.size + j, none⟩ = some (.int .u64 (f j)) := by
  rw [cell_of_row w b _ _ _ _ h, Array.append_assoc, Array.getElem?_append_right (by omega), Nat.add_sub_cancel_left, Array.getElem?_append_left (by simpa using hj)]
  exact lA_at f j hj
theorem WAt.cell0 {w : World} {b : Nat} {t : TypeId} {post : Array Value} {f : Nat → Nat} (h : WAt w b t #[] post f) (j : Nat) (hj : j < 36) : w.cell? ⟨b, j, none⟩ = some (.int .u64 (f j)) := by
  have := h.cell j hj; simpa using this
theorem WAt.open_ {w : World} {b : Nat} {t : TypeId} {pre post : Array Value} {f : Nat → Nat} (h : WAt w b t pre post f) (o : Nat) : w.frozen? ⟨b, o, none⟩ = false := frozen_of_row w b o _ _ h
theorem WAt.set {w : World} {b : Nat} {t : TypeId} {pre post : Array Value} {f : Nat → Nat} (h : WAt w b t pre post f) (i v : Nat) (hi : i < 36) : WAt (w.setCell ⟨b, pre.size + i, none⟩ (.int .u64 v)) b t pre post (fun j => if j = i then v else f j) := by
  unfold WAt
  rw [heap_setCell_same w b _ _ t _ h, ← lA_set]
  congr 2
  apply Array.ext_getElem?
  intro k
  rw [Array.getElem?_setIfInBounds]
  by_cases h1 : k < pre.size
  · rw [if_neg (by omega), Array.append_assoc, Array.getElem?_append_left h1, Array.append_assoc, Array.getElem?_append_left h1]
  · by_cases h2 : k < pre.size + 36
    · rw [Array.append_assoc, Array.getElem?_append_right (by omega), Array.getElem?_append_left (by simp; omega)]
      rw [Array.append_assoc, Array.getElem?_append_right (by omega), Array.getElem?_append_left (by simp; omega), Array.getElem?_setIfInBounds]
      by_cases e : pre.size + i = k
      · subst e
        rw [if_pos rfl, if_pos (by simp; omega), if_pos (by omega), if_pos (by simpa using hi)]
      · rw [if_neg e, if_neg (by omega)]
    · rw [if_neg (by omega)]
      rw [Array.getElem?_append_right (by simp; omega), Array.getElem?_append_right (by simp; omega)]
      simp
theorem WAt.keep {w w' : World} {B b : Nat} {t : TypeId} {pre post : Array Value} {f : Nat → Nat} (h : WAt w b t pre post f) (hb : Below B w w') (hB : b < B) : WAt w' b t pre post f := (hb.block b hB).trans h
theorem WAt.congr {w : World} {b : Nat} {t : TypeId} {pre post : Array Value} {f g : Nat → Nat} (h : WAt w b t pre post f) (e : ∀ j, j < 36 → f j = g j) : WAt w b t pre post g := by
  unfold WAt at h ⊢; rw [← lA_congr e]; exact h

theorem Tryz.mixed : Tryz.prog.follows .mixedOrders = true := by kernel_rfl
/-- math/bits.Add64, over integers -/
theorem add64 (x y c : Int) (hx : 0 ≤ x ∧ x < 18446744073709551616) (hy : 0 ≤ y ∧ y < 18446744073709551616) (hc : 0 ≤ c ∧ c ≤ 1) (w : World) :
    (callFunc 120 #[.int .u64 x, .int .u64 y, .int .u64 c]).run Tryz.prog w = .ok (.value (.tuple #[.int .u64 ((x + y + c) % 18446744073709551616), .int .u64 ((x + y + c) / 18446744073709551616)])) w := by
  obtain ⟨x, rfl⟩ := Int.eq_ofNat_of_zero_le hx.1
  obtain ⟨y, rfl⟩ := Int.eq_ofNat_of_zero_le hy.1
  obtain ⟨c, rfl⟩ := Int.eq_ofNat_of_zero_le hc.1
  rw [run_callFunc_extern Tryz.func120 (by kernel_rfl) (by kernel_rfl) (by kernel_rfl) (e := add64Entry) (by kernel_rfl), run_add64 x y c (by omega) (by omega) (by omega) (by omega)]
  simp only [Result.andThen]
def bor (x y b : Int) : Int := if x < y + b then 1 else 0
theorem sub64 (x y b : Int) (hx : 0 ≤ x ∧ x < 18446744073709551616) (hy : 0 ≤ y ∧ y < 18446744073709551616) (hb : 0 ≤ b ∧ b ≤ 1) (w : World) :
    (callFunc 94 #[.int .u64 x, .int .u64 y, .int .u64 b]).run Tryz.prog w = .ok (.value (.tuple #[.int .u64 ((x + 18446744073709551616 - y - b) % 18446744073709551616), .int .u64 (bor x y b)])) w := by
  obtain ⟨x, rfl⟩ := Int.eq_ofNat_of_zero_le hx.1
  obtain ⟨y, rfl⟩ := Int.eq_ofNat_of_zero_le hy.1
  obtain ⟨b, rfl⟩ := Int.eq_ofNat_of_zero_le hb.1
  rw [run_callFunc_extern Tryz.func94 (by kernel_rfl) (by kernel_rfl) (by kernel_rfl) (e := sub64Entry) (by kernel_rfl), run_sub64 x y b (by omega)]
  have e1 : (((x + 18446744073709551616 - y - b) % 18446744073709551616 : Nat) : Int) = ((x : Int) + 18446744073709551616 - y - b) % 18446744073709551616 := by omega
  have e2 : ((if x < y + b then 1 else 0 : Nat) : Int) = bor x y b := by
    unfold bor
    by_cases h : x < y + b
    · rw [if_pos h, if_pos (by omega)]; rfl
    · rw [if_neg h, if_neg (by omega)]; rfl
  rw [e1, e2]
  rfl
end Go.Proofs.YtjcdnaandbockaaGreat

namespace Go.Proofs.YtjcdnaandbockaaGreat
open Go.RowKit Go.Shelf

section
variable {P : Program}
theorem part_add (g o j : Nat) : (⟨g, o, none⟩ : Addr).add j = ⟨g, o + j, none⟩ := by
  unfold Addr.add; split <;> simp_all

/-- a load of some of a block's cells -/
theorem run_load_part {w : World} {g o : Nat} {t : TypeId} (ty : TypeId) (pre cs post : Array Value) (hg : w.heap[g]? = some (.cells (pre ++ cs ++ post) t (0, 0))) (ho : o = pre.size) (d : TypeDesc)
    (hu : P.underlying ty = some d) (hd : (match d with | .struct _ | .array _ _ => true | _ => false) = true) (hi : (P.info? ty).map (·.size) = some cs.size) :
    (loadVar ty ⟨g, o, none⟩).run P w = .ok (.agg cs) w := by
  subst ho
  have hl : (loadCells ⟨g, pre.size, none⟩ cs.toList.length).run P w = .ok cs.toList.toArray w :=
    run_loadCells_list (P := P) w ⟨g, pre.size, none⟩ cs.toList (fun j v hv => by
      have hj : j < cs.size := by
        rcases Nat.lt_or_ge j cs.toList.length with h | h
        · simpa using h
        · rw [List.getElem?_eq_none h] at hv; cases hv
      rw [part_add, cell_of_row w g _ _ t _ hg, Array.append_assoc, Array.getElem?_append_right (by omega), Nat.add_sub_cancel_left, Array.getElem?_append_left hj]
      simpa using hv)
  cases hq : P.info? ty with
  | none => simp [hq] at hi
  | some i =>
    have hs : i.size = cs.size := by simpa [hq] using hi
    have hagg : (isAgg ty).run P w = .ok true w := by
      unfold isAgg
      rw [Sem.run_bind, run_underlying hu w]
      cases d <;> simp_all
    simp only [Array.length_toList, Array.toArray_toList] at hl
    simp [loadVar, Sem.run_bind, hagg, sizeOf, typeInfo, hq, hs, hl]

theorem setRow_self (w : World) (g : Nat) (cur : Array Value) (t : TypeId) (hg : w.heap[g]? = some (.cells cur t (0, 0))) : w.setRow g cur = w := by
  have hlt : g < w.heap.size := (Array.getElem?_eq_some_iff.1 hg).1
  have hv : w.heap[g] = .cells cur t (0, 0) := (Array.getElem?_eq_some_iff.1 hg).2
  unfold World.setRow
  cases w with
  | mk heap tape drawn os output =>
    congr 1
    apply Array.ext
    · simp
    · intro k h1 h2
      simp only [Array.getElem_modify]
      split
      · rename_i hk; subst hk; simp at hv; simp [hv]
      · rfl
theorem mid_step (l : List Value) (n m : Nat) (v : Value) (hn : n < l.length) (hm : n < m) : (l.set n v).take (n + 1) = l.take n ++ [v] ∧ (l.set n v).drop m = l.drop m := by
  rw [List.set_eq_take_append_cons_drop, if_pos hn]
  have hlen : (l.take n).length = n := by simp; omega
  constructor
  · rw [List.take_append, hlen, List.take_of_length_le (by omega)]
    simp
  · rw [List.drop_append, hlen, List.drop_of_length_le (by omega), List.nil_append]
    rw [show m - n = (m - n - 1) + 1 by omega, List.drop_succ_cons, List.drop_drop]
    congr 1; omega
theorem run_storeCells_mid (g o : Nat) (t : TypeId) : ∀ (vs : List Value) (i : Nat) (cur : Array Value) (w : World), w.heap[g]? = some (.cells cur t (0, 0)) → o + i + vs.length ≤ cur.size → (∀ v ∈ vs, v.oneCell' = true) →
    (storeCells ⟨g, o, none⟩ vs i).run P w = .ok () (w.setRow g (cur.toList.take (o + i) ++ vs ++ cur.toList.drop (o + i + vs.length)).toArray)
  | [], i, cur, w, hg, hl, _ => by
    have e : (cur.toList.take (o + i) ++ [] ++ cur.toList.drop (o + i + ([] : List Value).length)).toArray = cur := by simp
    rw [e, setRow_self w g cur t hg]
    rfl
  | v :: rest, i, cur, w, hg, hl, h1 => by
    have hi : o + i < cur.size := by simp at hl; omega
    have hcell : w.cell? ⟨g, o + i, none⟩ = some cur[o + i] := by simp [World.cell?, hg, hi]
    have hfro : w.frozen? ⟨g, o + i, none⟩ = false := by simp [World.frozen?, hg]
    have hst : (store ((⟨g, o, none⟩ : Addr).add i) v).run P w = .ok () (w.setRow g (cur.setIfInBounds (o + i) v)) := by
      rw [part_add, run_store P w _ v _ (h1 v (by simp)), hcell]
      simp [hfro, setCell_eq_setRow w g (o + i) cur t (0, 0) v hg]
    have ih := run_storeCells_mid g o t rest (i + 1) (cur.setIfInBounds (o + i) v) (w.setRow g (cur.setIfInBounds (o + i) v)) (setRow_heap w g cur _ t _ hg) (by simp at hl ⊢; omega) (fun x hx => h1 x (by simp [hx]))
    simp only [storeCells, Sem.run_bind, hst, Result.andThen_ok, ih, setRow_setRow]
    congr 3
    obtain ⟨e1, e2⟩ := mid_step cur.toList (o + i) (o + (i + 1) + rest.length) v (by simpa using hi) (by omega)
    rw [Array.toList_setIfInBounds, e2, show o + (i + 1) = o + i + 1 by omega, e1]
    simp [show o + i + 1 + rest.length = o + i + (rest.length + 1) by omega]
/-- a store to some of a block's cells -/
theorem run_store_part {w : World} {g o : Nat} {t : TypeId} (ty : TypeId) (pre old post cells : Array Value) (hg : w.heap[g]? = some (.cells (pre ++ old ++ post) t (0, 0))) (ho : o = pre.size) (hi : (P.info? ty).map (·.size) = some cells.size)
    (hold : old.size = cells.size) (h1 : cells.all (·.oneCell') = true) :
    (storeVar ty ⟨g, o, none⟩ (.agg cells)).run P w = .ok () (w.setRow g (pre ++ cells ++ post)) := by
  subst ho
  have h := run_storeCells_mid (P := P) g pre.size t cells.toList 0 (pre ++ old ++ post) w hg (by simp; omega) (fun v hv => (Array.all_eq_true_iff_forall_mem.1 h1) v (by simpa using hv))
  have e : ((pre ++ old ++ post).toList.take (pre.size + 0) ++ cells.toList ++ (pre ++ old ++ post).toList.drop (pre.size + 0 + cells.toList.length)).toArray = pre ++ cells ++ post := by
    apply Array.ext'
    have h2 : (pre.toList ++ old.toList).length = pre.size + cells.size := by simp; omega
    simp only [Array.toList_append, Nat.add_zero, Array.length_toList]
    rw [List.drop_append, List.drop_of_length_le (by rw [h2]; omega), h2, Nat.sub_self, List.drop_zero, List.append_assoc pre.toList, List.take_append]
    simp
    exact List.take_of_length_le (by simp)
  rw [e] at h
  cases hq : P.info? ty with
  | none => simp [hq] at hi
  | some i =>
    have hs : cells.size = i.size := by simp [hq] at hi; omega
    simp [storeVar, sizeOf, typeInfo, hq, Value.cells, hs, h]
end
section
variable {n : Nat} {P : Program} {ops : Array Oper} {Q : Exit → Act → World → Prop}
theorem wp_load_part {o : Oper} {a : Act} {w : World} {K : Act → World → Prop} (ty : TypeId) (x : Operand) (ho : o.op = .load ty x)
    (g off : Nat) (hx : a.eval x = .pointer (some ⟨g, off, none⟩)) (t : TypeId) (pre cs post : Array Value) (d : TypeDesc) (hg : w.heap[g]? = some (.cells (pre ++ cs ++ post) t (0, 0))) (hoff : off = pre.size)
    (hu : P.underlying ty = some d) (hd : (match d with | .struct _ | .array _ _ => true | _ => false) = true) (hi : (P.info? ty).map (·.size) = some cs.size)
    (h : K (a.put o.dst (.agg cs)) w) : o.wp P a w K Q := by
  unfold Oper.wp execOp
  simp only [ho, hx, Instr.loadAt, Instr.sureAddr, Sem.run_bind, Sem.run_pure, Result.andThen_ok, run_load_part ty pre cs post hg hoff d hu hd hi]
  exact h
theorem wpList_load_part {rest : List Oper} {o : Oper} {a : Act} {w : World} (hgd : o.guard = none) (ty : TypeId) (x : Operand) (ho : o.op = .load ty x)
    (g off : Nat) (hx : a.eval x = .pointer (some ⟨g, off, none⟩)) (t : TypeId) (pre cs post : Array Value) (d : TypeDesc) (hg : w.heap[g]? = some (.cells (pre ++ cs ++ post) t (0, 0))) (hoff : off = pre.size)
    (hu : P.underlying ty = some d) (hd : (match d with | .struct _ | .array _ _ => true | _ => false) = true) (hi : (P.info? ty).map (·.size) = some cs.size)
    (h : wpList P ops Q rest (a.put o.dst (.agg cs)) w) : wpList P ops Q (o :: rest) a w :=
  wpList_plain hgd fun _ hK => wp_load_part ty x ho g off hx t pre cs post d hg hoff hu hd hi (hK _ _ h)
theorem wp_store_part {o : Oper} {a : Act} {w : World} {K : Act → World → Prop} (ty : TypeId) (x y : Operand) (ho : o.op = .store ty x y)
    (g off : Nat) (cells : Array Value) (hx : a.eval x = .pointer (some ⟨g, off, none⟩)) (hy : a.eval y = .agg cells)
    (t : TypeId) (pre old post : Array Value) (hg : w.heap[g]? = some (.cells (pre ++ old ++ post) t (0, 0))) (hoff : off = pre.size) (hi : (P.info? ty).map (·.size) = some cells.size)
    (hold : old.size = cells.size) (h1 : cells.all (·.oneCell') = true)
    (h : K (a.put o.dst undef) (w.setRow g (pre ++ cells ++ post))) : o.wp P a w K Q := by
  unfold Oper.wp execOp
  simp only [ho, hx, hy, Instr.storeAt, Instr.sureAddr, Sem.run_bind, Sem.run_pure, Result.andThen_ok, run_store_part ty pre old post cells hg hoff hi hold h1]
  exact h
theorem wpList_store_part {rest : List Oper} {o : Oper} {a : Act} {w : World} (hgd : o.guard = none) (ty : TypeId) (x y : Operand) (ho : o.op = .store ty x y)
    (g off : Nat) (cells : Array Value) (hx : a.eval x = .pointer (some ⟨g, off, none⟩)) (hy : a.eval y = .agg cells)
    (t : TypeId) (pre old post : Array Value) (hg : w.heap[g]? = some (.cells (pre ++ old ++ post) t (0, 0))) (hoff : off = pre.size) (hi : (P.info? ty).map (·.size) = some cells.size)
    (hold : old.size = cells.size) (h1 : cells.all (·.oneCell') = true)
    (h : wpList P ops Q rest (a.put o.dst undef) (w.setRow g (pre ++ cells ++ post))) : wpList P ops Q (o :: rest) a w :=
  wpList_plain hgd fun _ hK => wp_store_part ty x y ho g off cells hx hy t pre old post hg hoff hi hold h1 (hK _ _ h)
theorem wpOpIn_load_part {i : Nat} {o : Oper} {K : Act → World → Prop} {a : Act} {w : World} (ho : ops[i]? = some o) (hgd : o.guard = none) (ty : TypeId) (x : Operand) (hop : o.op = .load ty x)
    (g off : Nat) (hx : a.eval x = .pointer (some ⟨g, off, none⟩)) (t : TypeId) (pre cs post : Array Value) (d : TypeDesc) (hg : w.heap[g]? = some (.cells (pre ++ cs ++ post) t (0, 0))) (hoff : off = pre.size)
    (hu : P.underlying ty = some d) (hd : (match d with | .struct _ | .array _ _ => true | _ => false) = true) (hi : (P.info? ty).map (·.size) = some cs.size)
    (h : K (a.put o.dst (.agg cs)) w) : wpOpIn Fence.wide n P ops Q i K a w := by
  refine wpOpIn_step ho (fun K' hK => ?_)
  rw [if_pos (by simp [Region.wanted, hgd])]
  refine wpIn_of_wp_plain ?_ (hK _ _ h)
  have : Fence.wide.round = none := rfl
  simp only [this, Oper.semAt, hop, execOp, hx, Instr.loadAt, Instr.sureAddr, Sem.run_bind, Sem.run_pure, Result.andThen_ok, run_load_part ty pre cs post hg hoff d hu hd hi]
theorem wpOpIn_store_part {i : Nat} {o : Oper} {K : Act → World → Prop} {a : Act} {w : World} (ho : ops[i]? = some o) (hgd : o.guard = none) (ty : TypeId) (x y : Operand) (hop : o.op = .store ty x y)
    (g off : Nat) (cells : Array Value) (hx : a.eval x = .pointer (some ⟨g, off, none⟩)) (hy : a.eval y = .agg cells)
    (t : TypeId) (pre old post : Array Value) (hg : w.heap[g]? = some (.cells (pre ++ old ++ post) t (0, 0))) (hoff : off = pre.size) (hi : (P.info? ty).map (·.size) = some cells.size)
    (hold : old.size = cells.size) (h1 : cells.all (·.oneCell') = true)
    (h : K (a.put o.dst undef) (w.setRow g (pre ++ cells ++ post))) : wpOpIn Fence.wide n P ops Q i K a w := by
  refine wpOpIn_step ho (fun K' hK => ?_)
  rw [if_pos (by simp [Region.wanted, hgd])]
  refine wpIn_of_wp_skip ?_ (hK _ _ h)
  have : Fence.wide.round = none := rfl
  simp only [this, Oper.semAt, hop, execOp, hx, hy, Instr.storeAt, Instr.sureAddr, Sem.run_bind, Sem.run_pure, Result.andThen_ok, run_store_part ty pre old post cells hg hoff hi hold h1]
end
section
variable {n : Nat} {P : Program} {ops : Array Oper} {Q : Exit → Act → World → Prop}

/-- an operation that yields a value, in a region that draws its order -/
theorem wpOpIn_plain {i : Nat} {o : Oper} {K : Act → World → Prop} {a : Act} {w w' : World} {v : Value} (ho : ops[i]? = some o) (hgd : o.guard = none)
    (h : (o.semAt none a.eval).run P w = .ok (.value v) w') (hk : K (a.put o.dst v) w') : wpOpIn Fence.wide n P ops Q i K a w := by
  refine wpOpIn_step ho (fun K' hK => ?_)
  rw [if_pos (by simp [Region.wanted, hgd])]
  exact wpIn_of_wp_plain h (hK _ _ hk)

/-- an operation that yields nothing -/
theorem wpOpIn_skip {i : Nat} {o : Oper} {K : Act → World → Prop} {a : Act} {w w' : World} (ho : ops[i]? = some o) (hgd : o.guard = none)
    (h : (o.semAt none a.eval).run P w = .ok .skip w') (hk : K (a.put o.dst undef) w') : wpOpIn Fence.wide n P ops Q i K a w := by
  refine wpOpIn_step ho (fun K' hK => ?_)
  rw [if_pos (by simp [Region.wanted, hgd])]
  exact wpIn_of_wp_skip h (hK _ _ hk)

/-- a call of a Go function, by its contract -/
theorem wpOpIn_call {i : Nat} {o : Oper} {K : Act → World → Prop} {a : Act} {w : World} {f : FuncId} {args : Array Value} {R : Ending → World → Prop} (ho : ops[i]? = some o) (hgd : o.guard = none)
    (h : (o.semAt none a.eval).run P w = .ok (.enter f args) w) (hc : Calls P f args w R) (hk : ∀ e w', R e w' → ∃ v, e = .returned v ∧ K (a.put o.dst v) w') : wpOpIn Fence.wide n P ops Q i K a w := by
  refine wpOpIn_step ho (fun K' hK => ?_)
  rw [if_pos (by simp [Region.wanted, hgd])]
  refine ⟨fun f _ => trivial, ?_⟩
  have e : Fence.wide.round = none := rfl
  rw [e, h, Oper.uponIn_enter]
  refine ⟨(fun hd => by cases hd), callsIn_wide.2 (hc.mono ?_)⟩
  intro e w' hr
  obtain ⟨v, rfl, hv⟩ := hk e w' hr
  exact hK _ _ hv

theorem sem_call {o : Oper} {a : Act} {w : World} {g : FuncId} {xs : Array Operand} {ts : Array TypeId} {vs : Array Value} (hop : o.op = .call { callee := .value (.func g), args := xs, argTypes := ts }) (hvs : xs.map a.eval = vs)
    (eg : ∀ args w, (callFunc g args).run P w = .ok (.enter g args) w) : (o.semAt none a.eval).run P w = .ok (.enter g vs) w := by
  simp [Oper.semAt, hop, execOp, resolve, invoke, eg, hvs, Deferred.ofValue, Act.eval]
theorem sem_call2 {o : Oper} {a : Act} {w : World} {g : FuncId} {x y : Operand} {ts : Array TypeId} {vx vy : Value} (hop : o.op = .call { callee := .value (.func g), args := #[x, y], argTypes := ts }) (hx : a.eval x = vx) (hy : a.eval y = vy)
    (eg : ∀ args w, (callFunc g args).run P w = .ok (.enter g args) w) : (o.semAt none a.eval).run P w = .ok (.enter g #[vx, vy]) w :=
  sem_call hop (by simp [hx, hy]) eg
theorem sem_call4 {o : Oper} {a : Act} {w : World} {g : FuncId} {x y z u : Operand} {ts : Array TypeId} {vx vy vz vu : Value} (hop : o.op = .call { callee := .value (.func g), args := #[x, y, z, u], argTypes := ts }) (hx : a.eval x = vx) (hy : a.eval y = vy) (hz : a.eval z = vz) (hu : a.eval u = vu)
    (eg : ∀ args w, (callFunc g args).run P w = .ok (.enter g args) w) : (o.semAt none a.eval).run P w = .ok (.enter g #[vx, vy, vz, vu]) w :=
  sem_call hop (by simp [hx, hy, hz, hu]) eg
/-- an append, by the equation of its run -/
theorem wpOpIn_append {i : Nat} {o : Oper} {K : Act → World → Prop} {a : Act} {w w' : World} {v' : Value} (ho : ops[i]? = some o) (hgd : o.guard = none) (s x : Operand) (t : TypeId) (hop : o.op = Op.call { callee := Callee.builtin Builtin.append, args := #[s, x], argTypes := #[t, t] })
    {vs vx : Value} (hs : a.eval s = vs) (hx : a.eval x = vx) (hrun : (Builtin.append_ #[t, t] o.type #[vs, vx]).run P w = .ok v' w') (hk : K (a.put o.dst v') w') : wpOpIn Fence.wide n P ops Q i K a w := by
  refine wpOpIn_plain ho hgd (v := v') (w' := w') ?_ hk
  simp [Oper.semAt, hop, execOp, resolve, invoke, builtin, hs, hx, hrun, Result.andThen]

/-- a load of one cell -/
theorem wpOpIn_load_cell {i : Nat} {o : Oper} {K : Act → World → Prop} {a : Act} {w : World} {v : Value} (ho : ops[i]? = some o) (hgd : o.guard = none)
    (h : (o.semAt none a.eval).run P w = .ok (.value v) w) (hk : K (a.put o.dst v) w) : wpOpIn Fence.wide n P ops Q i K a w := wpOpIn_plain ho hgd h hk
end

theorem kcell {w W : World} {b o : Nat} {v : Value} (hb : Below w.heap.size w W) (h : w.cell? ⟨b, o, none⟩ = some v) : W.cell? ⟨b, o, none⟩ = some v :=
  (hb.cell (p := ⟨b, o, none⟩) (block_lt_of_cell h)).trans h
theorem below_heapAt {B : Nat} {w w' : World} (h : Below B w w') {b : Nat} {o : Obj} (hx : b < B ∧ w.heap[b]? = some o) : w'.heap[b]? = some o := (h.block b hx.1).trans hx.2
theorem below_drewN {B : Nat} {a w : World} (h : Below B a w) (n : Nat) : Below B a (w.drewN n) := h.trans ⟨rfl, rfl, rfl, Nat.le_refl _, fun _ _ => rfl⟩
theorem below_setRow {B b : Nat} {w : World} (h : B ≤ b) (c : Array Value) : Below B w (w.setRow b c) :=
  ⟨rfl, rfl, rfl, by simp, fun k hk => Go.setRow_other w b k c (by omega)⟩
end Go.Proofs.YtjcdnaandbockaaGreat

namespace Go.Proofs.YtjcdnaandbockaaGreat
open Go.RowKit Go.Shelf
attribute [local go_sem] Oper.semAt_some
set_option maxRecDepth 100000
set_option maxHeartbeats 1000000

theorem litZ : #[Value.int IntKind.u64 0, Value.int IntKind.u64 0, Value.int IntKind.u64 0, Value.int IntKind.u64 0, Value.int IntKind.u64 0, Value.int IntKind.u64 0, Value.int IntKind.u64 0, Value.int IntKind.u64 0, Value.int IntKind.u64 0, Value.int IntKind.u64 0, Value.int IntKind.u64 0, Value.int IntKind.u64 0, Value.int IntKind.u64 0, Value.int IntKind.u64 0, Value.int IntKind.u64 0, Value.int IntKind.u64 0, Value.int IntKind.u64 0, Value.int IntKind.u64 0, Value.int IntKind.u64 0, Value.int IntKind.u64 0, Value.int IntKind.u64 0, Value.int IntKind.u64 0, Value.int IntKind.u64 0, Value.int IntKind.u64 0, Value.int IntKind.u64 0, Value.int IntKind.u64 0, Value.int IntKind.u64 0, Value.int IntKind.u64 0, Value.int IntKind.u64 0, Value.int IntKind.u64 0, Value.int IntKind.u64 0, Value.int IntKind.u64 0, Value.int IntKind.u64 0, Value.int IntKind.u64 0, Value.int IntKind.u64 0, Value.int IntKind.u64 0] = lA fun _ => 0 := by
  apply Array.ext
  · simp
  · intro i h1 h2
    rw [lA_get]
    have hi : i < 36 := by simpa using h2
    match i, hi with
    | 0, _ => rfl | 1, _ => rfl | 2, _ => rfl | 3, _ => rfl | 4, _ => rfl | 5, _ => rfl | 6, _ => rfl | 7, _ => rfl | 8, _ => rfl | 9, _ => rfl | 10, _ => rfl | 11, _ => rfl | 12, _ => rfl | 13, _ => rfl | 14, _ => rfl | 15, _ => rfl | 16, _ => rfl | 17, _ => rfl | 18, _ => rfl | 19, _ => rfl | 20, _ => rfl | 21, _ => rfl | 22, _ => rfl | 23, _ => rfl | 24, _ => rfl | 25, _ => rfl | 26, _ => rfl | 27, _ => rfl | 28, _ => rfl | 29, _ => rfl | 30, _ => rfl | 31, _ => rfl | 32, _ => rfl | 33, _ => rfl | 34, _ => rfl | 35, _ => rfl | n + 36, h => exact absurd h (by omega)
theorem wat0 {w : World} {b : Nat} {t : TypeId} {f : Nat → Nat} (h : w.heap[b]? = some (.cells (lA f) t (0, 0))) : WAt w b t #[] #[] f := by
  unfold WAt; simpa using h
theorem WAt.plain {w : World} {b : Nat} {t : TypeId} {f : Nat → Nat} (h : WAt w b t #[] #[] f) : w.heap[b]? = some (.cells (lA f) t (0, 0)) := by
  unfold WAt at h; simpa using h

theorem opp_step (V k : Nat) (hV : V < big) (hk : k < 36) (W : World) : (callFunc 94 #[.int .u64 0, .int .u64 (limb V k : Nat), .int .u64 (borrow V k : Nat)]).run Tryz.prog W = .ok (.value (.tuple #[.int .u64 (limb (opp V) k : Nat), .int .u64 (borrow V (k + 1) : Nat)])) W := by
  have h1 := limb_lt V k
  have h2 := borrow_le V k
  have h3 := limb_opp V k hV hk
  have h4 := borrow_succ V k
  rw [sub64 0 (limb V k : Nat) (borrow V k : Nat) (by omega) (by omega) (by omega) W]
  have e1 : ((0 : Int) + 18446744073709551616 - (limb V k : Nat) - (borrow V k : Nat)) % 18446744073709551616 = (limb (opp V) k : Nat) := by omega
  have e2 : bor 0 (limb V k : Nat) (borrow V k : Nat) = (borrow V (k + 1) : Nat) := by
    unfold bor; rw [← h4]
    by_cases h : 0 < limb V k + borrow V k
    · rw [if_pos h, if_pos (by omega)]; rfl
    · rw [if_neg h, if_neg (by omega)]; rfl
  rw [e1, e2]
theorem add_step (V X k : Nat) (W : World) : (callFunc 120 #[.int .u64 (limb V k : Nat), .int .u64 (limb X k : Nat), .int .u64 (carry V X k : Nat)]).run Tryz.prog W = .ok (.value (.tuple #[.int .u64 (limb (V + X) k : Nat), .int .u64 (carry V X (k + 1) : Nat)])) W := by
  have h1 := limb_lt V k
  have h2 := limb_lt X k
  have h3 := limb_add V X k
  have h4 := carry_succ V X k
  have h5 := carry_le V X k
  rw [add64 (limb V k : Nat) (limb X k : Nat) (carry V X k : Nat) (by omega) (by omega) (by omega) W]
  have e1 : (((limb V k : Nat) : Int) + (limb X k : Nat) + (carry V X k : Nat)) % 18446744073709551616 = (limb (V + X) k : Nat) := by omega
  have e2 : (((limb V k : Nat) : Int) + (limb X k : Nat) + (carry V X k : Nat)) / 18446744073709551616 = (carry V X (k + 1) : Nat) := by omega
  rw [e1, e2]

theorem und38 : Tryz.prog.underlying 85 = some (.array 36 22) := by kernel_rfl
theorem info38 : (Tryz.prog.info? 85).map (·.size) = some 36 := by kernel_rfl
theorem info38' (f : Nat → Nat) : (Tryz.prog.info? 85).map (·.size) = some (lA f).size := by rw [lA_size]; exact info38
theorem opp_lt (V : Nat) : opp V < big := Nat.mod_lt _ big_pos

theorem opposite_any (V : Nat) (hV : V < big) (w : World) : Calls Tryz.prog 79 #[.agg (lA (limb V))] w fun e w' => e = .returned (.agg (lA (limb (opp V)))) ∧ Below w.heap.size w w' := by
  go_enter Tryz.func79, Tryz.ntmps79
  go_wp2_with fail
  rw [litZ]
  have hb0 : Below w.heap.size w ((w.alloc (.cells (lA (limb V)) 85)).alloc (.cells (lA fun _ => 0) 85)) := ((Below.refl _ _).alloc (Nat.le_refl _) _).alloc (by simp) _
  have q0 : ((w.alloc (.cells (lA (limb V)) 85)).alloc (.cells (lA fun _ => 0) 85)).heap[w.heap.size]? = some (.cells (lA (limb V)) 85 (0, 0)) := (Below.heap_alloc _ _ _ (by simp)).trans (heap_alloc_new w _)
  have q1 : ((w.alloc (.cells (lA (limb V)) 85)).alloc (.cells (lA fun _ => 0) 85)).heap[w.heap.size + 1]? = some (.cells (lA fun _ => 0) 85 (0, 0)) := by
    have := heap_alloc_new (w.alloc (.cells (lA (limb V)) 85)) (.cells (lA fun _ => 0) 85)
    rwa [show (w.alloc (.cells (lA (limb V)) 85)).heap.size = w.heap.size + 1 by simp] at this
  have HB := Lib.hid hb0
  have Q0 := Lib.hid (wat0 q0)
  have Q1 := Lib.hid q1
  clear hb0 q0 q1
  generalize (w.alloc (.cells (lA (limb V)) 85)).alloc (.cells (lA fun _ => 0) 85) = w2 at *
  go_loopw [3, 5] (fun b i wr => ∃ k : Nat, k ≤ 36 ∧ i = .int .i64 k ∧ b = .int .u64 (borrow V k : Nat) ∧ Hid (WAt wr w.heap.size 85 #[] #[] (fun j => if j < k then limb (opp V) j else limb V j)) ∧ Hid (wr.heap[w.heap.size + 1]? = some (.cells (lA fun _ => 0) 85 (0, 0))) ∧ Hid (Below w.heap.size w wr)) (fun _ i _ => 36 - (intOf i).toNat)
  case atStart => exact ⟨0, by omega, rfl, by rw [borrow_zero]; rfl, Q0.out.congr (fun j _ => by simp), Q1, HB⟩
  case round =>
    obtain ⟨k, hk, rfl, rfl, HW, H1, HBr⟩ := hrel
    by_cases hlt : k < 36
    · have hltz : (k : Int) < 36 := by omega
      have c0 := HW.out.cell k hlt
      have f0 := HW.out.open_ (0 + k)
      have l0 := HW.out.lt
      have hs := opp_step V k hV hlt
      rw [if_neg (Nat.lt_irrefl k)] at c0
      simp only [Array.size_empty, List.size_toArray, List.length_nil, Nat.zero_add] at c0 f0
      have HS := Lib.hid (HW.out.set k (limb (opp V) k) hlt)
      have HB2 := Lib.hid (HBr.out.setCell (p := ⟨w.heap.size, k, none⟩) (Nat.le_refl _) (.int .u64 (limb (opp V) k : Nat)))
      have HO : Hid ((wr.setCell ⟨w.heap.size, k, none⟩ (.int .u64 (limb (opp V) k : Nat))).heap[w.heap.size + 1]? = some (.cells (lA fun _ => 0) 85 (0, 0))) := (heap_setCell_other _ _ _ _ (show w.heap.size + 1 ≠ w.heap.size by omega)).trans H1.out
      simp only [Array.size_empty, List.size_toArray, List.length_nil, Nat.zero_add] at HS
      go_wp2_with (simp only [hs])
      go_roundw
      case rel =>
        refine ⟨k + 1, by omega, by go_num, rfl, HS.out.congr (fun j hj => ?_), HO, HB2⟩
        by_cases e : j = k
        · subst e; simp
        · by_cases h2 : j < k
          · rw [if_neg e, if_pos h2, if_pos (by omega)]
          · rw [if_neg e, if_neg h2, if_neg (by omega)]
      case measure => simp [intOf]; omega
    · have hk36 : k = 36 := by omega
      subst hk36
      have hp : WAt wr w.heap.size 85 #[] #[] (limb (opp V)) := HW.out.congr (fun j hj => by rw [if_pos hj])
      have HP := Lib.hid hp.plain
      clear hp
      go_wp2_with (first
        | (refine wpList_load_row rfl 85 _ rfl w.heap.size rfl 85 _ _ _ HP.out und38 rfl (info38' _) ?_)
        | (refine wpList_store_row rfl 85 _ _ rfl (w.heap.size + 1) (lA (limb (opp V))) rfl rfl 85 _ H1.out (info38' _) (by simp) (lA_one _) ?_))
      have hr := setRow_heap wr (w.heap.size + 1) _ (lA (limb (opp V))) 85 _ H1.out
      have hb := HBr.out.trans (below_setRow (Nat.le_succ w.heap.size) (lA (limb (opp V))))
      generalize wr.setRow (w.heap.size + 1) (lA (limb (opp V))) = Z at *
      refine bodyPost_ret (v := .agg (lA (limb (opp V)))) ?_ rfl ⟨rfl, hb⟩
      simp [results, Act.put, run_loadVar_row Z _ 85 85 _ _ _ hr und38 rfl (info38' _), Tryz.results79, asAddr]
end Go.Proofs.YtjcdnaandbockaaGreat

namespace Go.Proofs.YtjcdnaandbockaaGreat
open Go.RowKit Go.Shelf
attribute [local go_sem] Oper.semAt_some litZ
set_option maxRecDepth 100000
set_option maxHeartbeats 1000000

/-- whether an integer in two's complement is below 0 -/
def negN (V : Nat) : Bool := decide (9223372036854775808 ≤ limb V 35)
def absN (V : Nat) : Nat := if negN V = true then opp V else V
def fitN (V : Nat) : Bool := limb (absN V) 35 == 0
theorem absN_lt {V : Nat} (h : V < big) : absN V < big := by unfold absN; split; exact opp_lt V; exact h
theorem two38 (f g : Nat → Nat) (w : World) : Below w.heap.size w ((w.alloc (.cells (lA f) 85)).alloc (.cells (lA g) 85)) ∧ ((w.alloc (.cells (lA f) 85)).alloc (.cells (lA g) 85)).heap[w.heap.size]? = some (.cells (lA f) 85 (0, 0)) ∧
    ((w.alloc (.cells (lA f) 85)).alloc (.cells (lA g) 85)).heap[w.heap.size + 1]? = some (.cells (lA g) 85 (0, 0)) ∧ ((w.alloc (.cells (lA f) 85)).alloc (.cells (lA g) 85)).heap.size = w.heap.size + 2 := by
  refine ⟨((Below.refl _ _).alloc (Nat.le_refl _) _).alloc (by simp) _, (Below.heap_alloc _ _ _ (by simp)).trans (heap_alloc_new w _), ?_, by simp⟩
  have := heap_alloc_new (w.alloc (.cells (lA f) 85)) (.cells (lA g) 85)
  rwa [show (w.alloc (.cells (lA f) 85)).heap.size = w.heap.size + 1 by simp] at this

attribute [local go_sem] lA_get in
theorem negative_any (V : Nat) (w : World) : Calls Tryz.prog 75 #[.agg (lA (limb V))] w fun e w' => e = .returned (.bool (negN V)) ∧ Below w.heap.size w w' := by
  have hb : Below w.heap.size w (w.alloc (.cells (lA (limb V)) 85)) := (Below.refl _ _).alloc (Nat.le_refl _) _
  have hl := limb_lt V 35
  have HN : ((limb V 35 : Int) / 9223372036854775808 != 0) = negN V := by
    unfold negN
    by_cases h : 9223372036854775808 ≤ limb V 35
    · rw [decide_eq_true h, bne_iff_ne]; omega
    · rw [decide_eq_false h, bne_eq_false_iff_eq]; omega
  generalize negN V = ng at *
  go_enter Tryz.func75, Tryz.ntmps75
  go_wp2_with fail
  go_ret
  exact ⟨by simp [HN], hb⟩

theorem absolute_any (V : Nat) (hV : V < big) (w : World) : Calls Tryz.prog 76 #[.agg (lA (limb V))] w fun e w' => e = .returned (.agg (lA (limb (absN V)))) ∧ Below w.heap.size w w' := by
  obtain ⟨h1, h2, h3, h4⟩ := two38 (limb V) (fun _ => 0) w
  have HB := Lib.hid h1
  have Q0 := Lib.hid h2
  have Q1 := Lib.hid h3
  have HZ := Lib.hid h4
  clear h1 h2 h3 h4
  have hneg := negative_any V ((w.alloc (.cells (lA (limb V)) 85)).alloc (.cells (lA fun _ => 0) 85))
  cases hn : negN V with
  | true =>
    rw [hn] at hneg
    have HA : Hid (absN V = opp V) := by show _ = _; unfold absN; rw [if_pos hn]
    rw [HA.out]
    clear hn
    go_enter Tryz.func76, Tryz.ntmps76
    go_wp2_with (refine wpList_load_row rfl 85 _ rfl w.heap.size rfl 85 _ _ _ Q0.out und38 rfl (info38' _) ?_)
    refine hneg.mono ?_
    rintro e X ⟨rfl, hb⟩
    have R0 := Lib.hid (below_heapAt hb ⟨by have := HZ.out; omega, Q0.out⟩)
    have R1 := Lib.hid (below_heapAt hb ⟨by have := HZ.out; omega, Q1.out⟩)
    have HX := Lib.hid (HB.out.trans (hb.mono HB.out.size))
    clear hneg hb
    have hl : w.heap.size + 1 < X.heap.size := (Array.getElem?_eq_some_iff.1 R1.out).1
    go_wp2_with (refine wpList_load_row rfl 85 _ rfl w.heap.size rfl 85 _ _ _ R0.out und38 rfl (info38' _) ?_)
    refine (opposite_any V hV X).mono ?_
    rintro e Y ⟨rfl, hb⟩
    have S1 := Lib.hid (below_heapAt hb ⟨hl, R1.out⟩)
    have HY := Lib.hid (HX.out.trans (hb.mono HX.out.size))
    clear hb
    go_wp2_with (refine wpList_store_row rfl 85 _ _ rfl (w.heap.size + 1) (lA (limb (opp V))) rfl rfl 85 _ S1.out (info38' _) (by simp) (lA_one _) ?_)
    have hr := setRow_heap Y (w.heap.size + 1) _ (lA (limb (opp V))) 85 _ S1.out
    have hb9 := (HY.out).trans (below_setRow (Nat.le_succ w.heap.size) (lA (limb (opp V))))
    generalize Y.setRow (w.heap.size + 1) (lA (limb (opp V))) = Z9 at *
    refine bodyPost_ret (v := .agg (lA (limb (opp V)))) ?_ rfl ⟨rfl, hb9⟩
    simp [results, Act.put, run_loadVar_row Z9 _ 85 85 _ _ _ hr und38 rfl (info38' _), Tryz.results76, asAddr]
  | false =>
    rw [hn] at hneg
    have HA : Hid (absN V = V) := by show _ = _; unfold absN; rw [if_neg (by rw [hn]; decide)]
    rw [HA.out]
    clear hn
    go_enter Tryz.func76, Tryz.ntmps76
    go_wp2_with (refine wpList_load_row rfl 85 _ rfl w.heap.size rfl 85 _ _ _ Q0.out und38 rfl (info38' _) ?_)
    refine hneg.mono ?_
    rintro e X ⟨rfl, hb⟩
    have R0 := Lib.hid (below_heapAt hb ⟨by have := HZ.out; omega, Q0.out⟩)
    have R1 := Lib.hid (below_heapAt hb ⟨by have := HZ.out; omega, Q1.out⟩)
    have HX := Lib.hid (HB.out.trans (hb.mono HB.out.size))
    clear hneg hb
    go_wp2_with (first | (refine wpList_load_row rfl 85 _ rfl w.heap.size rfl 85 _ _ _ R0.out und38 rfl (info38' _) ?_) | (refine wpList_store_row rfl 85 _ _ rfl (w.heap.size + 1) (lA (limb V)) rfl rfl 85 _ R1.out (info38' _) (by simp) (lA_one _) ?_))
    have hr := setRow_heap X (w.heap.size + 1) _ (lA (limb V)) 85 _ R1.out
    have hb9 := (HX.out).trans (below_setRow (Nat.le_succ w.heap.size) (lA (limb V)))
    generalize X.setRow (w.heap.size + 1) (lA (limb V)) = Z9 at *
    refine bodyPost_ret (v := .agg (lA (limb V))) ?_ rfl ⟨rfl, hb9⟩
    simp [results, Act.put, run_loadVar_row Z9 _ 85 85 _ _ _ hr und38 rfl (info38' _), Tryz.results76, asAddr]

theorem size33 (w : World) : (sizeOf 22).run Tryz.prog w = .ok 1 w := by
  have h0 : (Tryz.prog.info? 22).map (·.size) = some 1 := by kernel_rfl
  cases h : Tryz.prog.info? 22 with
  | none => rw [h] at h0; simp at h0
  | some i => rw [run_sizeOf w h]; rfl
theorem index35 (f : Nat → Nat) (W : World) : (Instr.index 85 (.agg (lA f)) (.int .i64 35)).run Tryz.prog W = .ok (.int .u64 (f 35)) W := by
  simp [Instr.index, run_underlying und38, part, isAgg, run_underlying Tryz.underlying22, size33, Sem.run_bind, asIntOf, lA_get]

theorem fits_any (V : Nat) (hV : V < big) (w : World) : Calls Tryz.prog 90 #[.agg (lA (limb V))] w fun e w' => e = .returned (.bool (fitN V)) ∧ Below w.heap.size w w' := by
  have hb : Below w.heap.size w (w.alloc (.cells (lA (limb V)) 85)) := (Below.refl _ _).alloc (Nat.le_refl _) _
  have hq := heap_alloc_new w (.cells (lA (limb V)) 85)
  have ha := absolute_any V hV (w.alloc (.cells (lA (limb V)) 85))
  have HF : ((limb (absN V) 35 : Int) == 0) = fitN V := by
    unfold fitN
    by_cases h : limb (absN V) 35 = 0
    · rw [h]; rfl
    · rw [beq_eq_false_iff_ne.2 h, beq_eq_false_iff_ne]; omega
  have hc := fun W => index35 (limb (absN V)) W
  go_enter Tryz.func90, Tryz.ntmps90
  go_wp2_with (refine wpList_load_row rfl 85 _ rfl w.heap.size rfl 85 _ _ _ hq und38 rfl (info38' _) ?_)
  refine ha.mono ?_
  rintro e X ⟨rfl, hb2⟩
  have hb3 := hb.trans (hb2.mono hb.size)
  clear ha hq hb hb2
  go_wp2_with fail
  go_ret
  exact ⟨by simp [HF], hb3⟩
end Go.Proofs.YtjcdnaandbockaaGreat

namespace Go.Proofs.YtjcdnaandbockaaGreat
open Go.RowKit Go.Shelf
attribute [local go_sem] Oper.semAt_some litZ
set_option maxRecDepth 100000
set_option maxHeartbeats 1000000

/-- whatever lay there is as it was, but block b -/
structure Sole (b : Nat) (w w' : World) : Prop where
  os : w'.os = w.os
  tape : w'.tape = w.tape
  output : w'.output = w.output
  size : w.heap.size ≤ w'.heap.size
  block : ∀ k, k < w.heap.size → k ≠ b → w'.heap[k]? = w.heap[k]?
theorem Sole.refl (b : Nat) (w : World) : Sole b w w := ⟨rfl, rfl, rfl, Nat.le_refl _, fun _ _ _ => rfl⟩
theorem Sole.trans {b : Nat} {u v w : World} (h : Sole b u v) (h' : Sole b v w) : Sole b u w :=
  ⟨h'.os.trans h.os, h'.tape.trans h.tape, h'.output.trans h.output, Nat.le_trans h.size h'.size, fun k hk hne => (h'.block k (Nat.lt_of_lt_of_le hk h.size) hne).trans (h.block k hk hne)⟩
theorem Sole.of_below {b : Nat} {w w' : World} (h : Below w.heap.size w w') : Sole b w w' := ⟨h.os, h.tape, h.output, h.size, fun k hk _ => h.block k hk⟩
theorem Sole.set {b o : Nat} {w : World} (v : Value) : Sole b w (w.setCell ⟨b, o, none⟩ v) := ⟨rfl, rfl, rfl, by simp, fun k _ hne => heap_setCell_other _ _ _ _ hne⟩
theorem Sole.row {b : Nat} {w : World} (c : Array Value) : Sole b w (w.setRow b c) := ⟨rfl, rfl, rfl, by simp, fun k _ hne => Go.setRow_other w b k c hne⟩
theorem Sole.drewN {b : Nat} {a w : World} (h : Sole b a w) (n : Nat) : Sole b a (w.drewN n) := ⟨h.os, h.tape, h.output, h.size, h.block⟩
theorem Sole.drew {b : Nat} {a w : World} (h : Sole b a w) : Sole b a w.drew := ⟨h.os, h.tape, h.output, h.size, h.block⟩
theorem Sole.at_ {b c : Nat} {w w' : World} {o : Obj} (h : Sole b w w') (hc : w.heap[c]? = some o) (hne : c ≠ b) : w'.heap[c]? = some o := (h.block c (Array.getElem?_eq_some_iff.1 hc).1 hne).trans hc
theorem Sole.below {b B : Nat} {w w' : World} (h : Sole b w w') (hb : B ≤ b) (hs : B ≤ w.heap.size) : Below B w w' := ⟨h.os, h.tape, h.output, h.size, fun k hk => h.block k (by omega) (by omega)⟩
theorem sem_extern {P : Program} {o : Oper} {a : Act} {w : World} {g : FuncId} {xs : Array Operand} {ts : Array TypeId} {vs : Array Value} {v : Value} (hop : o.op = .call { callee := .value (.func g), args := xs, argTypes := ts }) (hvs : xs.map a.eval = vs)
    (eg : (callFunc g vs).run P w = .ok (.value v) w) : (o.semAt none a.eval).run P w = .ok (.value v) w := by
  simp [Oper.semAt, hop, execOp, resolve, invoke, eg, hvs, Deferred.ofValue, Act.eval]

theorem sem_extern3 {P : Program} {o : Oper} {a : Act} {w : World} {g : FuncId} {x y z : Operand} {ts : Array TypeId} {vx vy vz v : Value} (hop : o.op = .call { callee := .value (.func g), args := #[x, y, z], argTypes := ts }) (hx : a.eval x = vx) (hy : a.eval y = vy) (hz : a.eval z = vz)
    (eg : (callFunc g #[vx, vy, vz]).run P w = .ok (.value v) w) : (o.semAt none a.eval).run P w = .ok (.value v) w :=
  sem_extern hop (by simp [hx, hy, hz]) eg

/-- the words of a sum of which i are done -/
def sofar (V X i j : Nat) : Nat := if j < i then limb (V + X) j else limb V j
theorem sofar_zero (V X j : Nat) : sofar V X 0 j = limb V j := by simp [sofar]
theorem sofar_set (V X i j : Nat) : (if j = i then limb (V + X) i else sofar V X i j) = sofar V X (i + 1) j := by
  unfold sofar
  by_cases e : j = i
  · subst e; simp
  · rw [if_neg e]
    by_cases h : j < i
    · rw [if_pos h, if_pos (by omega)]
    · rw [if_neg h, if_neg (by omega)]
theorem sofar_at (V X i : Nat) : sofar V X i i = limb V i := by simp [sofar]

theorem add_any {w : World} {b off : Nat} {t : TypeId} {pre post : Array Value} {V : Nat} (h : WAt w b t pre post (limb V)) (hoff : off = pre.size) (X : Nat) :
    Calls Tryz.prog 89 #[.pointer (some ⟨b, off, none⟩), .agg (lA (limb X))] w fun e w' => e = .returned (.tuple #[]) ∧ WAt w' b t pre post (limb ((V + X) % big)) ∧ Sole b w w' := by
  subst hoff
  have hlt := h.lt
  have h0 : Sole b w (w.alloc (.cells (lA (limb X)) 85)) := .of_below ((Below.refl _ _).alloc (Nat.le_refl _) _)
  have h1 := heap_alloc_new w (.cells (lA (limb X)) 85)
  have h2 : WAt (w.alloc (.cells (lA (limb X)) 85)) b t pre post (limb V) := h.keep ((Below.refl _ _).alloc (Nat.le_refl _) _) hlt
  have HS := Lib.hid h0
  have HX := Lib.hid (wat0 h1)
  have HV := Lib.hid h2
  clear h h0 h1 h2
  go_enter Tryz.func89, Tryz.ntmps89
  go_wp2_with fail
  generalize w.alloc (.cells (lA (limb X)) 85) = w2 at *
  go_loopw [4, 6] (fun c i wr => ∃ k : Nat, k ≤ 36 ∧ i = .int .i64 k ∧ c = .int .u64 (carry V X k : Nat) ∧ Hid (WAt wr b t pre post (sofar V X k)) ∧ Hid (WAt wr w.heap.size 85 #[] #[] (limb X)) ∧ Hid (Sole b w wr)) (fun _ i _ => 36 - (intOf i).toNat)
  case atStart => exact ⟨0, by omega, rfl, by rw [carry_zero]; rfl, HV.out.congr (fun j _ => (sofar_zero V X j).symm), HX, HS⟩
  case round =>
    obtain ⟨k, hk, rfl, rfl, HW, HXr, HSr⟩ := hrel
    by_cases hlt2 : k < 36
    · have hltz : (k : Int) < 36 := by omega
      go_wp2_with fail
      refine (wpIn_wide (n := 0)).1 ?_
      refine region_det (by kernel_rfl) (I := fun listed a' w' => Hid (WAt w' b t pre post (if listed.getD 17 false = true then sofar V X (k + 1) else sofar V X k)) ∧ Hid (WAt w' w.heap.size 85 #[] #[] (limb X)) ∧ Hid (Sole b w w') ∧ Hid (listed.getD 11 false = true → listed.getD 6 false = true ∧ listed.getD 10 false = true) ∧ Hid (listed.getD 12 false = true → listed.getD 11 false = true) ∧ Hid (listed.getD 13 false = true → listed.getD 6 false = true) ∧ Hid (listed.getD 14 false = true → listed.getD 10 false = true) ∧ Hid (listed.getD 17 false = true → listed.getD 6 false = true) ∧ Hid (listed.getD 18 false = true → listed.getD 10 false = true) ∧ a' = ⟨#[Value.pointer (some (Addr.mk b pre.size none)), Value.agg (lA (limb X)), undef, Value.pointer (some (Addr.mk w.heap.size 0 none)), (if listed.getD 18 false = true then Value.int IntKind.u64 (carry V X (k + 1) : Nat) else Value.int IntKind.u64 ↑(carry V X k)), Value.int IntKind.i64 ↑k, Value.int IntKind.i64 ↑k, Value.bool true, Value.int IntKind.i64 ↑k, (if listed.getD 12 false = true then Value.tuple #[Value.int IntKind.u64 (limb (V + X) k : Nat), Value.int IntKind.u64 (carry V X (k + 1) : Nat)] else u9), (if listed.getD 0 false = true then Value.pointer (some ⟨b, pre.size, none⟩) else u10), (if listed.getD 1 false = true then Value.int IntKind.i64 ↑k else u11), (if listed.getD 2 false = true then Value.pointer (some ⟨b, pre.size, none⟩) else u12), (if listed.getD 3 false = true then Value.int IntKind.i64 ↑k else u13), (if listed.getD 4 false = true then Value.pointer (some ⟨b, pre.size, none⟩) else u14), (if listed.getD 5 false = true then Value.pointer (some ⟨b, pre.size + k, none⟩) else u15), (if listed.getD 6 false = true then Value.int IntKind.u64 (limb V k : Nat) else u16), (if listed.getD 7 false = true then Value.int IntKind.i64 ↑k else u17), (if listed.getD 8 false = true then Value.pointer (some ⟨w.heap.size, k, none⟩) else u18), (if listed.getD 9 false = true then Value.int IntKind.u64 (limb X k : Nat) else u19), (if listed.getD 10 false = true then Value.int IntKind.u64 (carry V X k : Nat) else u20), (if listed.getD 11 false = true then Value.tuple #[Value.int IntKind.u64 (limb (V + X) k : Nat), Value.int IntKind.u64 (carry V X (k + 1) : Nat)] else u21), (if listed.getD 13 false = true then Value.int IntKind.u64 (limb (V + X) k : Nat) else u22), (if listed.getD 14 false = true then Value.int IntKind.u64 (carry V X (k + 1) : Nat) else u23), (if listed.getD 15 false = true then Value.pointer (some ⟨b, pre.size, none⟩) else u24), (if listed.getD 16 false = true then Value.pointer (some ⟨b, pre.size + k, none⟩) else u25), u26], []⟩) (hup_check (by kernel_rfl)) ?h0 ?step ?fin
      case h0 => exact ⟨HW.out, HXr.out, HSr.out.drew, fun h => by simp at h, fun h => by simp at h, fun h => by simp at h, fun h => by simp at h, fun h => by simp at h, fun h => by simp at h, rfl⟩
      case step =>
        intro listed a' w' i hs hbi hdep hi ⟨IW, IX, IS, J11, J12, J13, J14, J17, J18, ha⟩
        obtain ⟨ls⟩ := listed
        match ls, hs with
        | [x0, x1, x2, x3, x4, x5, x6, x7, x8, x9, x10, x11, x12, x13, x14, x15, x16, x17, x18], _ =>
        subst ha
        have hi' : i = 0 ∨ i = 1 ∨ i = 2 ∨ i = 3 ∨ i = 4 ∨ i = 5 ∨ i = 6 ∨ i = 7 ∨ i = 8 ∨ i = 9 ∨ i = 10 ∨ i = 11 ∨ i = 12 ∨ i = 13 ∨ i = 14 ∨ i = 15 ∨ i = 16 ∨ i = 17 ∨ i = 18 := by simp at hi; omega
        rcases hi' with rfl | rfl | rfl | rfl | rfl | rfl | rfl | rfl | rfl | rfl | rfl | rfl | rfl | rfl | rfl | rfl | rfl | rfl | rfl
        · obtain rfl : x0 = false := by simpa using hbi
          refine wpOpIn_plain rfl rfl rfl ?_
          exact ⟨IW, IX, IS, J11, J12, J13, J14, J17, J18, rfl⟩
        · obtain rfl : x1 = false := by simpa using hbi
          refine wpOpIn_plain rfl rfl rfl ?_
          exact ⟨IW, IX, IS, J11, J12, J13, J14, J17, J18, rfl⟩
        · obtain rfl : x2 = false := by simpa using hbi
          refine wpOpIn_plain rfl rfl rfl ?_
          exact ⟨IW, IX, IS, J11, J12, J13, J14, J17, J18, rfl⟩
        · obtain rfl : x3 = false := by simpa using hbi
          refine wpOpIn_plain rfl rfl rfl ?_
          exact ⟨IW, IX, IS, J11, J12, J13, J14, J17, J18, rfl⟩
        · obtain rfl : x4 = false := by simpa using hbi
          obtain rfl : x2 = true := hdep _ rfl ⟨2, .data⟩ (by simp) rfl
          refine wpOpIn_plain (v := Value.pointer (some ⟨b, pre.size, none⟩)) (w' := w') rfl rfl (by simp [Oper.semAt, execOp, go_sem, *]) ?_
          exact ⟨IW, IX, IS, J11, J12, J13, J14, J17, J18, rfl⟩
        · obtain rfl : x5 = false := by simpa using hbi
          obtain rfl : x4 = true := hdep _ rfl ⟨4, .data⟩ (by simp) rfl
          obtain rfl : x3 = true := hdep _ rfl ⟨3, .data⟩ (by simp) rfl
          refine wpOpIn_plain (v := Value.pointer (some ⟨b, pre.size + k, none⟩)) (w' := w') rfl rfl (by simp [Oper.semAt, execOp, go_sem, *]) ?_
          exact ⟨IW, IX, IS, J11, J12, J13, J14, J17, J18, rfl⟩
        · obtain rfl : x6 = false := by simpa using hbi
          obtain rfl : x5 = true := hdep _ rfl ⟨5, .data⟩ (by simp) rfl
          obtain rfl : x17 = false := Bool.eq_false_iff.2 fun h => by have := J17.out h; cases this
          have iw : WAt w' b t pre post (sofar V X k) := IW.out
          have c0 := iw.cell k hlt2
          rw [sofar_at] at c0
          refine wpOpIn_plain (v := Value.int IntKind.u64 (limb V k : Nat)) (w' := w') rfl rfl (by simp [Oper.semAt, execOp, go_sem, *]) ?_
          exact ⟨IW, IX, IS, (fun h => ⟨rfl, (J11.out h).2⟩), J12, (fun _ => rfl), J14, (fun h => by cases h), J18, rfl⟩
        · obtain rfl : x7 = false := by simpa using hbi
          refine wpOpIn_plain rfl rfl rfl ?_
          exact ⟨IW, IX, IS, J11, J12, J13, J14, J17, J18, rfl⟩
        · obtain rfl : x8 = false := by simpa using hbi
          obtain rfl : x7 = true := hdep _ rfl ⟨7, .data⟩ (by simp) rfl
          refine wpOpIn_plain (v := Value.pointer (some ⟨w.heap.size, k, none⟩)) (w' := w') rfl rfl (by simp [Oper.semAt, execOp, go_sem, *]) ?_
          exact ⟨IW, IX, IS, J11, J12, J13, J14, J17, J18, rfl⟩
        · obtain rfl : x9 = false := by simpa using hbi
          obtain rfl : x8 = true := hdep _ rfl ⟨8, .data⟩ (by simp) rfl
          have c1 := IX.out.cell0 k hlt2
          refine wpOpIn_plain (v := Value.int IntKind.u64 (limb X k : Nat)) (w' := w') rfl rfl (by simp [Oper.semAt, execOp, go_sem, *]) ?_
          exact ⟨IW, IX, IS, J11, J12, J13, J14, J17, J18, rfl⟩
        · obtain rfl : x10 = false := by simpa using hbi
          obtain rfl : x18 = false := Bool.eq_false_iff.2 fun h => by have := J18.out h; cases this
          refine wpOpIn_plain rfl rfl rfl ?_
          exact ⟨IW, IX, IS, (fun h => ⟨(J11.out h).1, rfl⟩), J12, J13, (fun _ => rfl), J17, (fun h => by cases h), rfl⟩
        · obtain rfl : x11 = false := by simpa using hbi
          obtain rfl : x6 = true := hdep _ rfl ⟨6, .data⟩ (by simp) rfl
          obtain rfl : x9 = true := hdep _ rfl ⟨9, .data⟩ (by simp) rfl
          obtain rfl : x10 = true := hdep _ rfl ⟨10, .data⟩ (by simp) rfl
          refine wpOpIn_plain (v := Value.tuple #[Value.int IntKind.u64 (limb (V + X) k : Nat), Value.int IntKind.u64 (carry V X (k + 1) : Nat)]) (w' := w') rfl rfl (sem_extern3 rfl rfl rfl rfl (add_step V X k w')) ?_
          exact ⟨IW, IX, IS, (fun _ => ⟨rfl, rfl⟩), (fun _ => rfl), J13, J14, J17, J18, rfl⟩
        · obtain rfl : x12 = false := by simpa using hbi
          obtain rfl : x11 = true := hdep _ rfl ⟨11, .data⟩ (by simp) rfl
          refine wpOpIn_plain rfl rfl rfl ?_
          exact ⟨IW, IX, IS, J11, (fun _ => rfl), J13, J14, J17, J18, rfl⟩
        · obtain rfl : x13 = false := by simpa using hbi
          obtain rfl : x12 = true := hdep _ rfl ⟨12, .data⟩ (by simp) rfl
          refine wpOpIn_plain (v := Value.int IntKind.u64 (limb (V + X) k : Nat)) (w' := w') rfl rfl (by first | rfl | simp [Oper.semAt, execOp, go_sem]) ?_
          exact ⟨IW, IX, IS, J11, J12, (fun _ => (J11.out (J12.out rfl)).1), J14, J17, J18, rfl⟩
        · obtain rfl : x14 = false := by simpa using hbi
          obtain rfl : x12 = true := hdep _ rfl ⟨12, .data⟩ (by simp) rfl
          refine wpOpIn_plain (v := Value.int IntKind.u64 (carry V X (k + 1) : Nat)) (w' := w') rfl rfl (by first | rfl | simp [Oper.semAt, execOp, go_sem]) ?_
          exact ⟨IW, IX, IS, J11, J12, J13, (fun _ => (J11.out (J12.out rfl)).2), J17, J18, rfl⟩
        · obtain rfl : x15 = false := by simpa using hbi
          obtain rfl : x0 = true := hdep _ rfl ⟨0, .data⟩ (by simp) rfl
          refine wpOpIn_plain (v := Value.pointer (some ⟨b, pre.size, none⟩)) (w' := w') rfl rfl (by simp [Oper.semAt, execOp, go_sem, *]) ?_
          exact ⟨IW, IX, IS, J11, J12, J13, J14, J17, J18, rfl⟩
        · obtain rfl : x16 = false := by simpa using hbi
          obtain rfl : x15 = true := hdep _ rfl ⟨15, .data⟩ (by simp) rfl
          obtain rfl : x1 = true := hdep _ rfl ⟨1, .data⟩ (by simp) rfl
          refine wpOpIn_plain (v := Value.pointer (some ⟨b, pre.size + k, none⟩)) (w' := w') rfl rfl (by simp [Oper.semAt, execOp, go_sem, *]) ?_
          exact ⟨IW, IX, IS, J11, J12, J13, J14, J17, J18, rfl⟩
        · obtain rfl : x17 = false := by simpa using hbi
          obtain rfl : x16 = true := hdep _ rfl ⟨16, .data⟩ (by simp) rfl
          obtain rfl : x13 = true := hdep _ rfl ⟨13, .data⟩ (by simp) rfl
          have iw : WAt w' b t pre post (sofar V X k) := IW.out
          have c0 := iw.cell k hlt2
          have f0 := iw.open_ (pre.size + k)
          have l0 := iw.lt
          skip
          refine wpOpIn_skip (w' := w'.setCell ⟨b, pre.size + k, none⟩ (Value.int IntKind.u64 (limb (V + X) k : Nat))) rfl rfl (by simp [Oper.semAt, execOp, go_sem, *]) ?_
          exact ⟨((iw.set k (limb (V + X) k) hlt2).congr (fun j _ => sofar_set V X k j)), ((heap_setCell_other _ _ _ _ (show w.heap.size ≠ b by omega)).trans IX.out), (IS.out.trans (Sole.set _)), J11, J12, J13, J14, (fun _ => J13.out rfl), J18, rfl⟩
        · obtain rfl : x18 = false := by simpa using hbi
          obtain rfl : x14 = true := hdep _ rfl ⟨14, .data⟩ (by simp) rfl
          refine wpOpIn_plain rfl rfl rfl ?_
          exact ⟨IW, IX, IS, J11, J12, J13, J14, J17, (fun _ => J14.out rfl), rfl⟩
      case fin =>
      intro listed a' Z hs hall ⟨IW, IX, IS, J11, J12, J13, J14, J17, J18, ha⟩
      obtain ⟨ls⟩ := listed
      match ls, hs with
      | [x0, x1, x2, x3, x4, x5, x6, x7, x8, x9, x10, x11, x12, x13, x14, x15, x16, x17, x18], _ =>
      obtain rfl : x0 = true := hall 0 (by simp)
      obtain rfl : x1 = true := hall 1 (by simp)
      obtain rfl : x2 = true := hall 2 (by simp)
      obtain rfl : x3 = true := hall 3 (by simp)
      obtain rfl : x4 = true := hall 4 (by simp)
      obtain rfl : x5 = true := hall 5 (by simp)
      obtain rfl : x6 = true := hall 6 (by simp)
      obtain rfl : x7 = true := hall 7 (by simp)
      obtain rfl : x8 = true := hall 8 (by simp)
      obtain rfl : x9 = true := hall 9 (by simp)
      obtain rfl : x10 = true := hall 10 (by simp)
      obtain rfl : x11 = true := hall 11 (by simp)
      obtain rfl : x12 = true := hall 12 (by simp)
      obtain rfl : x13 = true := hall 13 (by simp)
      obtain rfl : x14 = true := hall 14 (by simp)
      obtain rfl : x15 = true := hall 15 (by simp)
      obtain rfl : x16 = true := hall 16 (by simp)
      obtain rfl : x17 = true := hall 17 (by simp)
      obtain rfl : x18 = true := hall 18 (by simp)
      subst ha
      have iw : Hid (WAt Z b t pre post (sofar V X (k + 1))) := IW
      clear IW J17 J18 J11 J12 J13 J14 hall hs
      dsimp only [Exit.then, Exit.inBlock]
      go_wp2_with fail
      go_roundw
      case rel => exact ⟨k + 1, by omega, by go_num, rfl, iw, IX, IS⟩
      case measure => simp [intOf]; omega
    · have hk36 : k = 36 := by omega
      subst hk36
      have HF : Hid (WAt wr b t pre post (limb ((V + X) % big))) := HW.out.congr (fun j hj => by unfold sofar; rw [if_pos hj, limb_mod _ _ hj])
      go_wp2_with fail
      refine bodyPost_end (results_none rfl _ _ _) rfl ?_
      exact ⟨rfl, HF.out, HSr.out⟩
end Go.Proofs.YtjcdnaandbockaaGreat

namespace Go.Proofs.YtjcdnaandbockaaGreat
open Go.RowKit Go.Shelf
attribute [local go_sem] Oper.semAt_some litZ
set_option maxRecDepth 100000
set_option maxHeartbeats 1000000

theorem wraps_u64 (n : Int) (h₀ : 0 ≤ n) (h₁ : n < 2 ^ 64) : IntKind.u64.wrap n = n := by rw [IntKind.wrap_u64]; omega
theorem b_frac (x : Nat) (h : x < 18446744073709551616) : bits .and .u64 x 4503599627370495 = ((x % 4503599627370496 : Nat) : Int) := by
  have h := bits_mask .u64 64 (by decide) wraps_u64 52 (by decide) (x : Int) (by omega) (by omega)
  have e : ((2 : Int) ^ 52 - 1) = 4503599627370495 := by decide
  have e2 : ((2 : Int) ^ 52) = 4503599627370496 := by decide
  rw [e, e2] at h
  rw [h]; omega
theorem b_low (x : Nat) (h : x < 18446744073709551616) : bits .and .u64 x 9223372036854775807 = ((x % 9223372036854775808 : Nat) : Int) := by
  have h := bits_mask .u64 64 (by decide) wraps_u64 63 (by decide) (x : Int) (by omega) (by omega)
  have e : ((2 : Int) ^ 63 - 1) = 9223372036854775807 := by decide
  have e2 : ((2 : Int) ^ 63) = 9223372036854775808 := by decide
  rw [e, e2] at h
  rw [h]; omega
theorem b_andNot (x : Nat) (h : x < 18446744073709551616) : bits .andNot .u64 x 9223372036854775808 = ((x % 9223372036854775808 : Nat) : Int) := by
  rw [← b_low x h]
  unfold bits
  have e : ~~~(BitVec.ofInt IntKind.u64.bits 9223372036854775808) = BitVec.ofInt IntKind.u64.bits 9223372036854775807 := by decide
  simp only [e]
theorem b_one (x : Nat) (h : x < 18446744073709551616) : bits .and .u64 x 1 = ((x % 2 : Nat) : Int) := by
  have h := bits_mask .u64 64 (by decide) wraps_u64 1 (by decide) (x : Int) (by omega) (by omega)
  have e : ((2 : Int) ^ 1 - 1) = 1 := by decide
  have e2 : ((2 : Int) ^ 1) = 2 := by decide
  rw [e, e2] at h
  rw [h]; omega
theorem b_sign (x : Nat) (h : x < 18446744073709551616) : bits .and .u64 x 9223372036854775808 = if 9223372036854775808 ≤ x then 9223372036854775808 else 0 := by
  have h1 := (bits_nat .u64 64 (by decide) wraps_u64 x 9223372036854775808 (by omega) (by decide)).1
  have e : x &&& 9223372036854775808 = if 9223372036854775808 ≤ x then 9223372036854775808 else 0 := by
    rw [show (9223372036854775808 : Nat) = 2 ^ 63 by decide]
    have ht : x.testBit 63 = decide (2 ^ 63 ≤ x) := by
      rw [Nat.testBit_eq_decide_div_mod_eq]
      have : (x / 2 ^ 63 % 2 = 1) ↔ 2 ^ 63 ≤ x := by omega
      simp only [this]
    apply Nat.eq_of_testBit_eq
    intro i
    rw [Nat.testBit_and, Nat.testBit_two_pow]
    by_cases hi : 63 = i
    · subst hi
      rw [ht]
      by_cases hx : 2 ^ 63 ≤ x
      · rw [decide_eq_true hx, if_pos hx]; decide
      · rw [decide_eq_false hx, if_neg hx]; decide
    · rw [decide_eq_false hi, Bool.and_false]
      split
      · rw [Nat.testBit_two_pow, decide_eq_false hi]
      · simp
  rw [e] at h1
  refine Eq.trans ?_ (h1.trans ?_)
  · rfl
  · split <;> rfl
theorem b_hid (x : Nat) (h : x < 4503599627370496) : bits .or .u64 x 4503599627370496 = ((x + 4503599627370496 : Nat) : Int) := by
  have h1 := (bits_nat .u64 64 (by decide) wraps_u64 x 4503599627370496 (by omega) (by decide)).2
  have e : x ||| 4503599627370496 = x + 4503599627370496 := by
    have := Nat.two_pow_add_eq_or_of_lt (i := 52) (b := x) (by omega) 1
    rw [Nat.or_comm]
    simpa [Nat.add_comm] using this.symm
  rw [e] at h1
  exact h1
theorem b_orsign (x : Nat) (h : x < 9223372036854775808) : bits .or .u64 x 9223372036854775808 = ((x + 9223372036854775808 : Nat) : Int) := by
  have h1 := (bits_nat .u64 64 (by decide) wraps_u64 x 9223372036854775808 (by omega) (by decide)).2
  have e : x ||| 9223372036854775808 = x + 9223372036854775808 := by
    have := Nat.two_pow_add_eq_or_of_lt (i := 63) (b := x) (by omega) 1
    rw [Nat.or_comm]
    simpa [Nat.add_comm] using this.symm
  rw [e] at h1
  exact h1
theorem b_or (x y : Nat) (hx : x < 18446744073709551616) (hy : y < 18446744073709551616) : bits .or .u64 x y = ((x ||| y : Nat) : Int) := (bits_nat .u64 64 (by decide) wraps_u64 x y (by omega) (by omega)).2
theorem b_not (x : Nat) (h : x < 18446744073709551616) : bits .xor .u64 18446744073709551615 x = ((18446744073709551615 - x : Nat) : Int) := by
  have h1 := bits_xor_u64_nat 18446744073709551615 x (by decide) h
  have e : 18446744073709551615 ^^^ x = 18446744073709551615 - x := by
    have h2 : (BitVec.ofNat 64 x ^^^ BitVec.allOnes 64).toNat = 18446744073709551615 - x := by
      rw [BitVec.xor_allOnes, BitVec.toNat_not, BitVec.toNat_ofNat]; omega
    rw [BitVec.toNat_xor, BitVec.toNat_ofNat, BitVec.toNat_allOnes, Nat.mod_eq_of_lt (by omega)] at h2
    rw [Nat.xor_comm, ← h2]
  rw [e] at h1
  exact h1
end Go.Proofs.YtjcdnaandbockaaGreat

namespace Go.Proofs.YtjcdnaandbockaaGreat
open Go.RowKit Go.Shelf
attribute [local go_sem] Oper.semAt_some litZ
set_option maxRecDepth 100000
set_option maxHeartbeats 1000000

def nanB (x : Nat) : Bool := decide (9218868437227405312 < x % 9223372036854775808)
def oneN (x : Nat) : Nat := if nanB x = true then 9221120237041090560 else x
/-- greater for greater real numbers -/
def levelN (x : Nat) : Nat := if 9223372036854775808 ≤ oneN x then 18446744073709551615 - oneN x else oneN x + 9223372036854775808
def cmpN (x y : Nat) : Int := if x < y then -1 else if y < x then 1 else 0
theorem oneN_lt {x : Nat} (h : x < 18446744073709551616) : oneN x < 18446744073709551616 := by unfold oneN; split <;> omega
theorem levelN_lt {x : Nat} (h : x < 18446744073709551616) : levelN x < 18446744073709551616 := by have := oneN_lt h; unfold levelN; split <;> omega

theorem isNaN_any (x : Nat) (hx : x < 18446744073709551616) (w : World) : Calls Tryz.prog 71 #[.int .u64 x] w fun e w' => e = .returned (.bool (nanB x)) ∧ w = w' := by
  have hb := b_andNot x hx
  have HN : Hid (decide ((9218868437227405312 : Int) < (x % 9223372036854775808 : Nat)) = nanB x) := by
    show _ = _; unfold nanB; rw [decide_eq_decide]; omega
  go_enter Tryz.func71, Tryz.ntmps71
  go_wp2_with fail
  go_ret
  exact ⟨by rw [← HN.out]; simp, rfl⟩
theorem oneNaN_any (x : Nat) (hx : x < 18446744073709551616) (w : World) : Calls Tryz.prog 64 #[.int .u64 x] w fun e w' => e = .returned (.int .u64 (oneN x : Nat)) ∧ w = w' := by
  have hn := isNaN_any x hx w
  cases h : nanB x with
  | true =>
    have HO : Hid (oneN x = 9221120237041090560) := by show _ = _; unfold oneN; rw [if_pos h]
    rw [h] at hn
    rw [HO.out]
    go_enter Tryz.func64, Tryz.ntmps64
    go_wp2_with (refine hn.mono ?_; rintro e w' ⟨rfl, rfl⟩)
    go_ret
    exact ⟨rfl, rfl⟩
  | false =>
    have HO : Hid (oneN x = x) := by show _ = _; unfold oneN; rw [if_neg (by rw [h]; decide)]
    rw [h] at hn
    rw [HO.out]
    go_enter Tryz.func64, Tryz.ntmps64
    go_wp2_with (refine hn.mono ?_; rintro e w' ⟨rfl, rfl⟩)
    go_ret
    exact ⟨rfl, rfl⟩
theorem level_any (x : Nat) (hx : x < 18446744073709551616) (w : World) : Calls Tryz.prog 39 #[.int .u64 x] w fun e w' => e = .returned (.int .u64 (levelN x : Nat)) ∧ w = w' := by
  have hn := oneNaN_any x hx w
  have ho := oneN_lt hx
  obtain ⟨o, hoe⟩ : ∃ o, o = oneN x := ⟨_, rfl⟩
  have HL : Hid (levelN x = if 9223372036854775808 ≤ o then 18446744073709551615 - o else o + 9223372036854775808) := by show _ = _; unfold levelN; rw [hoe]
  rw [← hoe] at hn ho
  have hs := b_sign o ho
  rw [HL.out]
  clear hoe
  by_cases h : 9223372036854775808 ≤ o
  · rw [if_pos h] at hs
    rw [if_pos h]
    have hb : bits .xor .u64 IntKind.u64.max o = ((18446744073709551615 - o : Nat) : Int) := b_not o ho
    clear HL h
    go_enter Tryz.func39, Tryz.ntmps39
    go_wp2_with (refine hn.mono ?_; rintro e w' ⟨rfl, rfl⟩)
    go_ret
    exact ⟨by simp [hb], rfl⟩
  · rw [if_neg h] at hs
    rw [if_neg h]
    have hb := b_orsign o (by omega)
    clear HL h
    go_enter Tryz.func39, Tryz.ntmps39
    go_wp2_with (refine hn.mono ?_; rintro e w' ⟨rfl, rfl⟩)
    go_ret
    exact ⟨by simp [hb], rfl⟩
theorem cmpNaN_any (x : Int) (w : World) : Calls Tryz.prog 63 #[.int .u64 x] w fun e w' => e = .returned (.bool false) ∧ w = w' := by
  go_enter Tryz.func63, Tryz.ntmps63
  go_wp2_with fail
  go_ret
  exact ⟨by simp, rfl⟩
theorem cmp_any (x y : Nat) (w : World) : Calls Tryz.prog 38 #[.int .u64 x, .int .u64 y] w fun e w' => e = .returned (.int .i64 (cmpN x y)) ∧ w = w' := by
  have h1 := cmpNaN_any x w
  have h2 := cmpNaN_any y w
  by_cases ha : x < y
  · have HC : Hid (cmpN x y = -1) := by show _ = _; unfold cmpN; rw [if_pos ha]
    have hi : (x : Int) < y := by omega
    rw [HC.out]
    go_enter Tryz.func38, Tryz.ntmps38
    go_wp2_with (first | (with_reducible refine h1.mono ?_; rintro e w' ⟨rfl, rfl⟩) | (with_reducible refine h2.mono ?_; rintro e w' ⟨rfl, rfl⟩))
    go_ret
    exact ⟨rfl, rfl⟩
  · have hi : ¬ (x : Int) < y := by omega
    by_cases hb : y < x
    · have HC : Hid (cmpN x y = 1) := by show _ = _; unfold cmpN; rw [if_neg ha, if_pos hb]
      have hj : (y : Int) < x := by omega
      rw [HC.out]
      go_enter Tryz.func38, Tryz.ntmps38
      go_wp2_with (first | (with_reducible refine h1.mono ?_; rintro e w' ⟨rfl, rfl⟩) | (with_reducible refine h2.mono ?_; rintro e w' ⟨rfl, rfl⟩))
      go_ret
      exact ⟨rfl, rfl⟩
    · have HC : Hid (cmpN x y = 0) := by show _ = _; unfold cmpN; rw [if_neg ha, if_neg hb]
      have hj : ¬ (y : Int) < x := by omega
      rw [HC.out]
      go_enter Tryz.func38, Tryz.ntmps38
      go_wp2_with (first | (with_reducible refine h1.mono ?_; rintro e w' ⟨rfl, rfl⟩) | (with_reducible refine h2.mono ?_; rintro e w' ⟨rfl, rfl⟩))
      go_ret
      exact ⟨rfl, rfl⟩
theorem Compare_any (x y : Nat) (hx : x < 18446744073709551616) (hy : y < 18446744073709551616) (w : World) : Calls Tryz.prog 10 #[.int .u64 x, .int .u64 y] w fun e w' => e = .returned (.int .i64 (cmpN (levelN x) (levelN y))) ∧ w = w' := by
  have h1 := level_any x hx w
  have h2 := level_any y hy w
  have h3 := cmp_any (levelN x) (levelN y) w
  generalize cmpN (levelN x) (levelN y) = c at *
  generalize levelN x = a at *
  generalize levelN y = b at *
  go_enter Tryz.func10, Tryz.ntmps10
  go_wp2_with (first | (with_reducible refine h1.mono ?_; rintro e w' ⟨rfl, rfl⟩) | (with_reducible refine h2.mono ?_; rintro e w' ⟨rfl, rfl⟩) | (with_reducible refine h3.mono ?_; rintro e w' ⟨rfl, rfl⟩))
  go_ret
  exact ⟨rfl, rfl⟩
end Go.Proofs.YtjcdnaandbockaaGreat
