import Derived.Test.YtjcdnaandbockaaGp
import Derived.WalkLawsBesides
namespace Go.Proofs.Ytjcdnaandbockaa
open Go.RowKit Go.Shelf
set_option maxRecDepth 100000
set_option maxHeartbeats 1000000

theorem if_iff {α : Type} {p q : Prop} [Decidable p] [Decidable q] (a b : α) (h : p ↔ q) : (if p then a else b) = if q then a else b := by
  by_cases hp : p
  · rw [if_pos hp, if_pos (h.1 hp)]
  · rw [if_neg hp, if_neg (fun hq => hp (h.2 hq))]
theorem d_binade : Ieee.double.binade = 4503599627370496 := by decide
theorem d_inf : Ieee.double.infRung = 9218868437227405312 := by decide
theorem d_sign : Ieee.double.signWeight = 9223372036854775808 := by decide
theorem d_least : Ieee.double.leastPlace = -1074 := by decide
theorem d_frac : Ieee.double.fractionBits = 52 := rfl

/-- rounding to even -/
def rnd (V d : Nat) : Nat := V / 2 ^ d + if 2 ^ d < 2 * (V % 2 ^ d) ∨ (2 ^ d = 2 * (V % 2 ^ d) ∧ V / 2 ^ d % 2 = 1) then 1 else 0

theorem log2_of {M : Nat} (h : M ≠ 0) : M.log2 + 1 = blen M := by unfold blen; rw [if_neg h]
theorem pow_blen {M : Nat} (h : M ≠ 0) : 2 ^ (blen M - 1) ≤ M := by
  have := @blen_le M (blen M - 1)
  have h2 := log2_of h
  have : ¬ M < 2 ^ (blen M - 1) := by rw [← this]; omega
  omega
theorem blen_shift {M : Nat} (k : Nat) (h : M ≠ 0) : blen (M * 2 ^ k) = blen M + k := by
  have hp := Nat.two_pow_pos k
  apply Nat.le_antisymm
  · rw [blen_le, Nat.pow_add]; exact Nat.mul_lt_mul_of_pos_right (lt_blen M) hp
  · have h1 : 2 ^ (blen M - 1 + k) ≤ M * 2 ^ k := by rw [Nat.pow_add]; exact Nat.mul_le_mul_right _ (pow_blen h)
    have h2 : ¬ blen (M * 2 ^ k) ≤ blen M - 1 + k := by rw [blen_le]; omega
    have h3 := log2_of h
    omega

theorem near_rnd (V : Nat) : nearN V = min ((blen V - 53) * 4503599627370496 + rnd V (blen V - 53)) 9218868437227405312 := by
  unfold nearN
  by_cases h : blen V ≤ 53
  · rw [if_pos h, show blen V - 53 = 0 by omega]
    have h1 : V < 2 ^ 53 := blen_le.1 h
    have h2 : rnd V 0 = V := by
      unfold rnd
      simp [Nat.mod_one]
    rw [h2]
    unfold limb
    simp
    omega
  · rw [if_neg h]
    have hf := fromN_lt53 (show 53 < blen V by omega)
    obtain ⟨d, hd⟩ : ∃ d, d + 1 = blen V - 53 := ⟨blen V - 53 - 1, by omega⟩
    have e : num0 V + (if upN V = true then 1 else 0) = (blen V - 53) * 4503599627370496 + rnd V (blen V - 53) := by
      unfold upN num0 halfN rnd
      rw [← hd] at hf ⊢
      rw [Nat.add_sub_cancel]
      have h53 : V / 2 ^ (d + 1) < 9007199254740992 := by
        have h1 := lt_blen V
        rw [show blen V = (d + 1) + 53 by omega, Nat.pow_add] at h1
        exact (div_lt' (Nat.two_pow_pos _)).2 h1
      have hF : fromN V (d + 1) = V / 2 ^ (d + 1) := by unfold fromN; exact Nat.mod_eq_of_lt (by omega)
      rw [hF]
      have h2 : V / 2 ^ (d + 1) = V / 2 ^ d / 2 := by rw [Nat.pow_succ, Nat.div_div_eq_div_mul]
      have h3 : V / 2 ^ d < 18014398509481984 := by omega
      have hG : fromN V d = V / 2 ^ d := by unfold fromN; exact Nat.mod_eq_of_lt (by omega)
      rw [hG]
      have hm : V % 2 ^ (d + 1) = V % 2 ^ d + 2 ^ d * (V / 2 ^ d % 2) := by rw [Nat.pow_succ, Nat.mod_mul]
      have hl : V % 2 ^ d < 2 ^ d := Nat.mod_lt _ (Nat.two_pow_pos _)
      have hp : 2 ^ (d + 1) = 2 * 2 ^ d := by rw [Nat.pow_succ, Nat.mul_comm]
      rw [h2, hm, hp]
      clear h2 hm hp hF hG hf h53 hd
      generalize V / 2 ^ d = Q at *
      generalize V % 2 ^ d = L at *
      generalize 2 ^ d = P at *
      rw [Nat.add_assoc]
      congr 1
      have hq : Q % 2 = 0 ∨ Q % 2 = 1 := by omega
      congr 1
      apply if_iff
      rw [Bool.and_eq_true, Bool.or_eq_true, decide_eq_true_iff, decide_eq_true_iff, decide_eq_true_iff]
      have e2 : ((d + 1) * 4503599627370496 + Q / 2) % 2 = Q / 2 % 2 := by omega
      rw [e2]
      rcases hq with hq | hq <;> rw [hq] <;> simp <;> omega
    rw [e]
    unfold minN
    split <;> omega

theorem cut_even (neg : Bool) (n drop : Nat) (h : drop ≤ n.log2 + 2) : Ieee.Toward.even.cut neg n drop = rnd n drop := by
  unfold Ieee.Toward.cut rnd
  simp only [Nat.min_eq_left h, Nat.one_shiftLeft]
  congr 1
  generalize 2 ^ drop = P at *
  generalize n % P = R at *
  generalize n / P % 2 = Q at *
  by_cases h1 : P < 2 * R
  · rw [if_pos (.inl h1), decide_eq_true h1]; rfl
  · by_cases h2 : P = 2 * R ∧ Q = 1
    · rw [if_pos (.inr h2), decide_eq_false h1, beq_iff_eq.2 h2.1, beq_iff_eq.2 h2.2]; rfl
    · rw [if_neg (by rintro (h | h); exact h1 h; exact h2 h), decide_eq_false h1]
      by_cases h3 : P = 2 * R
      · rw [beq_iff_eq.2 h3, beq_eq_false_iff_ne.2 (fun h4 => h2 ⟨h3, h4⟩)]; rfl
      · rw [beq_eq_false_iff_ne.2 h3]; rfl
theorem rnd_scale (V d k : Nat) : rnd (V * 2 ^ k) (d + k) = rnd V d := by
  have hp := Nat.two_pow_pos k
  unfold rnd
  rw [Nat.pow_add, Nat.mul_div_mul_right _ _ hp, Nat.mul_mod_mul_right]
  congr 1
  apply if_iff
  rw [show 2 * (V % 2 ^ d * 2 ^ k) = 2 * (V % 2 ^ d) * 2 ^ k by rw [Nat.mul_assoc], Nat.mul_lt_mul_right hp]
  constructor
  · rintro (h | ⟨h, h'⟩)
    · exact .inl h
    · exact .inr ⟨Nat.eq_of_mul_eq_mul_right hp h, h'⟩
  · rintro (h | ⟨h, h'⟩)
    · exact .inl h
    · exact .inr ⟨congrArg (· * 2 ^ k) h, h'⟩

/-- the model's rounding is the program's -/
theorem nearest_eq (neg : Bool) (M V k e : Nat) (p : Int) (hp : p = -1074 + k - e) (h : M * 2 ^ k = V * 2 ^ e) : Ieee.double.nearest neg M p = Ieee.double.word neg (nearN V) := by
  unfold Ieee.Format.nearest
  have hpk := Nat.two_pow_pos k
  have hpe := Nat.two_pow_pos e
  by_cases hM : M = 0
  · rw [if_pos hM]
    have hV : V = 0 := by
      rw [hM, Nat.zero_mul] at h
      rcases Nat.mul_eq_zero.1 h.symm with h | h
      · exact h
      · omega
    subst hV
    rfl
  · rw [if_neg hM]
    have hV : V ≠ 0 := by
      intro hV
      rw [hV, Nat.zero_mul] at h
      rcases Nat.mul_eq_zero.1 h with h | h <;> omega
    have hb : blen M + k = blen V + e := by rw [← blen_shift k hM, ← blen_shift e hV, h]
    have hl := log2_of hM
    rw [near_rnd V, d_least, d_frac, d_binade, d_inf]
    obtain ⟨d, hd⟩ : ∃ d, d = blen V - 53 := ⟨_, rfl⟩
    rw [← hd]
    have elast : max (p + (M.log2 : Int) - (52 : Nat)) (-1074) = -1074 + d := by omega
    simp only [elast]
    have e1 : (-1074 + (d : Int) - -1074).toNat = d := by omega
    rw [e1]
    congr 2
    congr 1
    by_cases hc : e + d ≤ k
    · have e2 : (p - (-1074 + (d : Int))).toNat = k - e - d := by omega
      have e3 : (-1074 + (d : Int) - p).toNat = 0 := by omega
      rw [e2, e3, cut_even _ _ _ (by omega), Nat.shiftLeft_eq]
      have e4 : M * 2 ^ (k - e - d) * 2 ^ d = V := by
        have : M * 2 ^ (k - e - d) * 2 ^ d * 2 ^ e = V * 2 ^ e := by
          rw [Nat.mul_assoc, Nat.mul_assoc, ← Nat.pow_add, ← Nat.pow_add, show k - e - d + (d + e) = k by omega, h]
        exact Nat.eq_of_mul_eq_mul_right hpe this
      have := rnd_scale (M * 2 ^ (k - e - d)) 0 d
      rw [e4, Nat.zero_add] at this
      rw [this]
    · have e2 : (p - (-1074 + (d : Int))).toNat = 0 := by omega
      have e3 : (-1074 + (d : Int) - p).toNat = e + d - k := by omega
      rw [e2, e3, Nat.shiftLeft_eq, Nat.pow_zero, Nat.mul_one, cut_even _ _ _ (by omega)]
      have := rnd_scale M (e + d - k) k
      rw [h, show e + d - k + k = d + e by omega, rnd_scale] at this
      exact this.symm
theorem word_eq (neg : Bool) (x : Nat) : Ieee.double.word neg x = if neg then 9223372036854775808 + x else x := by unfold Ieee.Format.word; rw [d_sign]

def signB (x : Nat) : Bool := decide (9223372036854775808 ≤ x)
theorem signB_eq {x : Nat} (hx : x < 18446744073709551616) : (x / 9223372036854775808 % 2 == 1) = signB x := by
  unfold signB
  by_cases h : 9223372036854775808 ≤ x
  · rw [decide_eq_true h, beq_iff_eq]; omega
  · rw [decide_eq_false h, beq_eq_false_iff_ne]; omega
theorem read_nan {x : Nat} (h : nanB x = true) : ∃ s f, Ieee.double.read x = .nan s f := by
  unfold nanB at h
  have h := of_decide_eq_true h
  unfold Ieee.Format.read
  rw [d_sign, d_binade, d_inf]
  simp only
  rw [if_neg (by omega), if_neg (by omega), if_neg (by omega)]
  exact ⟨_, _, rfl⟩
theorem read_inf {x : Nat} (hx : x < 18446744073709551616) (h : x % 9223372036854775808 = 9218868437227405312) : Ieee.double.read x = .infinity (signB x) := by
  unfold Ieee.Format.read
  rw [d_sign, d_binade, d_inf]
  simp only
  rw [if_neg (by omega), if_neg (by omega), if_pos h, signB_eq hx]
theorem read_num {x : Nat} (hx : x < 18446744073709551616) (h : expN x < 2047) : Ieee.double.read x = .number (signB x) (digN x) (-1074 + (shN x : Nat)) := by
  unfold expN at h
  unfold Ieee.Format.read
  rw [d_sign, d_binade, d_inf, d_least, signB_eq hx]
  simp only
  by_cases h1 : x % 9223372036854775808 < 4503599627370496
  · rw [if_pos h1]
    have e : expN x = 0 := by unfold expN; omega
    unfold digN shN
    rw [e]
    simp
    omega
  · rw [if_neg h1, if_pos (by omega)]
    have e : 0 < expN x := by unfold expN; omega
    unfold digN shN
    rw [if_pos e, if_pos e]
    unfold expN
    congr 1
    omega
theorem kinds {x : Nat} : nanB x = true ∨ x % 9223372036854775808 = 9218868437227405312 ∨ (nanB x = false ∧ expN x < 2047) := by
  unfold nanB expN
  by_cases h : 9218868437227405312 < x % 9223372036854775808
  · exact .inl (decide_eq_true h)
  · rw [decide_eq_false h]
    by_cases h2 : x % 9223372036854775808 = 9218868437227405312
    · exact .inr (.inl h2)
    · exact .inr (.inr ⟨rfl, by omega⟩)
/-- the absolute value of a finite number times 2^1074 -/
def magN (x : Nat) : Nat := digN x * 2 ^ shN x
theorem exI_mag (x : Nat) : exI x = if signB x = true then -(magN x : Int) else (magN x : Int) := by
  unfold exI signB magN
  by_cases h : 9223372036854775808 ≤ x
  · simp [h]
  · simp [h]
theorem signed_eq (s : Bool) (m a : Nat) : Ieee.signed s m a = if s = true then -((m * 2 ^ a : Nat) : Int) else ((m * 2 ^ a : Nat) : Int) := by
  unfold Ieee.signed
  rw [Nat.shiftLeft_eq]
theorem sum_num {x y : Nat} (hx : x < 18446744073709551616) (hy : y < 18446744073709551616) (h1 : expN x < 2047) (h2 : expN y < 2047) :
    Ieee.double.add x y = some (Ieee.double.word (if exI x + exI y = 0 then signB x && signB y else decide (exI x + exI y < 0)) (nearN (exI x + exI y).natAbs)) := by
  unfold Ieee.Format.add
  rw [read_num hx h1, read_num hy h2]
  obtain ⟨b, hb⟩ : ∃ b, b = min (shN x) (shN y) := ⟨_, rfl⟩
  have e0 : min (-1074 + (shN x : Int)) (-1074 + (shN y : Int)) = -1074 + b := by omega
  have e1 : (-1074 + (shN x : Int) - (-1074 + (b : Int))).toNat = shN x - b := by omega
  have e2 : (-1074 + (shN y : Int) - (-1074 + (b : Int))).toNat = shN y - b := by omega
  simp only [Ieee.Datum.sum, e0, e1, e2, Option.map_some, Ieee.Format.write, signed_eq]
  have hp := Nat.two_pow_pos b
  have k1 : digN x * 2 ^ (shN x - b) * 2 ^ b = magN x := by unfold magN; rw [Nat.mul_assoc, ← Nat.pow_add, show shN x - b + b = shN x by omega]
  have k2 : digN y * 2 ^ (shN y - b) * 2 ^ b = magN y := by unfold magN; rw [Nat.mul_assoc, ← Nat.pow_add, show shN y - b + b = shN y by omega]
  rw [exI_mag, exI_mag, ← k1, ← k2]
  generalize digN x * 2 ^ (shN x - b) = A at *
  generalize digN y * 2 ^ (shN y - b) = B at *
  obtain ⟨T, hT⟩ : ∃ T : Int, T = (if signB x = true then -(A : Int) else (A : Int)) + (if signB y = true then -(B : Int) else (B : Int)) := ⟨_, rfl⟩
  have e3 : (if signB x = true then -((A * 2 ^ b : Nat) : Int) else ((A * 2 ^ b : Nat) : Int)) + (if signB y = true then -((B * 2 ^ b : Nat) : Int) else ((B * 2 ^ b : Nat) : Int)) = T * (2 ^ b : Nat) := by
    rw [hT, Int.add_mul]
    congr 1 <;> split <;> simp [Int.neg_mul]
  rw [e3, ← hT]
  have hz : (T * ((2 ^ b : Nat) : Int) = 0) ↔ T = 0 := by rw [Int.mul_eq_zero]; omega
  have hn : (T * ((2 ^ b : Nat) : Int) < 0) ↔ T < 0 := by
    constructor
    · intro h
      apply Int.lt_of_not_ge
      intro h2
      have := Int.mul_nonneg h2 (show (0 : Int) ≤ ((2 ^ b : Nat) : Int) by omega)
      omega
    · intro h
      exact Int.mul_neg_of_neg_of_pos h (by omega)
  have ha : (T * ((2 ^ b : Nat) : Int)).natAbs = T.natAbs * 2 ^ b := by rw [Int.natAbs_mul]; rfl
  rw [nearest_eq _ T.natAbs (T * ((2 ^ b : Nat) : Int)).natAbs b 0 _ (by omega) (by rw [ha]; simp)]
  simp only [hz, hn]
theorem mag_mono {x y : Nat} (h : x % 9223372036854775808 ≤ y % 9223372036854775808) : magN x ≤ magN y := by
  unfold magN digN shN expN
  have e1 : x % 4503599627370496 = x % 9223372036854775808 % 4503599627370496 := by omega
  have e2 : y % 4503599627370496 = y % 9223372036854775808 % 4503599627370496 := by omega
  rw [e1, e2]
  generalize x % 9223372036854775808 = r at *
  generalize y % 9223372036854775808 = s at *
  by_cases h1 : 0 < r / 4503599627370496
  · have h2 : 0 < s / 4503599627370496 := by omega
    simp only [if_pos h1, if_pos h2]
    by_cases h3 : r / 4503599627370496 = s / 4503599627370496
    · rw [h3]
      exact Nat.mul_le_mul_right _ (by omega)
    · have h4 : r / 4503599627370496 - 1 + 1 ≤ s / 4503599627370496 - 1 := by omega
      have h5 : 2 ^ (r / 4503599627370496 - 1 + 1) ≤ 2 ^ (s / 4503599627370496 - 1) := Nat.pow_le_pow_right (by decide) h4
      rw [Nat.pow_succ] at h5
      generalize 2 ^ (r / 4503599627370496 - 1) = P at *
      have h6 : (r % 4503599627370496 + 4503599627370496) * P ≤ 4503599627370496 * (P * 2) := by
        rw [Nat.mul_comm P 2, ← Nat.mul_assoc]
        exact Nat.mul_le_mul_right _ (by omega)
      refine Nat.le_trans h6 ?_
      exact Nat.mul_le_mul (by omega) h5
  · simp only [if_neg h1, Nat.pow_zero, Nat.mul_one]
    split
    · exact Nat.le_trans (by omega) (Nat.le_mul_of_pos_right _ (Nat.two_pow_pos _))
    · simp; omega
/-- a number of at most 53 digits, and zeros behind them -/
def Short (V : Nat) : Prop := V % 2 ^ (blen V - 53) = 0
theorem short_of {m s : Nat} (h : m < 9007199254740992) : Short (m * 2 ^ s) := by
  unfold Short
  by_cases hm : m = 0
  · subst hm; simp
  · rw [blen_shift s hm]
    have h1 : blen m ≤ 53 := blen_le.2 (by simpa using h)
    have h2 : blen m + s - 53 ≤ s := by omega
    have e : s = (blen m + s - 53) + (s - (blen m + s - 53)) := by omega
    have : m * 2 ^ s = 2 ^ (blen m + s - 53) * (m * 2 ^ (s - (blen m + s - 53))) := by
      rw [Nat.mul_left_comm, ← Nat.pow_add, ← e]
    rw [this, Nat.mul_mod_right]
theorem short_mag (x : Nat) : Short (magN x) := short_of (digN_lt x)
theorem near_short {V : Nat} (h : Short V) : nearN V = min ((blen V - 53) * 4503599627370496 + V / 2 ^ (blen V - 53)) 9218868437227405312 := by
  rw [near_rnd]
  unfold rnd
  unfold Short at h
  have := Nat.two_pow_pos (blen V - 53)
  rw [h, if_neg (by omega)]
  rfl
theorem mag_near {V : Nat} (h : Short V) (hn : nearN V < 9218868437227405312) : magN (nearN V) = V := by
  have h1 := near_short h
  unfold Short at h
  have h2 := Nat.mod_add_div V (2 ^ (blen V - 53))
  rw [h, Nat.zero_add] at h2
  have h3 : V / 2 ^ (blen V - 53) < 9007199254740992 := by
    have := lt_blen V
    refine (div_lt' (Nat.two_pow_pos _)).2 (Nat.lt_of_lt_of_le this ?_)
    rw [show (9007199254740992 : Nat) = 2 ^ 53 by decide, ← Nat.pow_add]
    exact Nat.pow_le_pow_right (by decide) (by omega)
  by_cases hb : blen V ≤ 53
  · rw [show blen V - 53 = 0 by omega] at *
    simp only [Nat.pow_zero, Nat.div_one, Nat.zero_mul, Nat.zero_add] at *
    have e : nearN V = V := by omega
    rw [e]
    unfold magN digN shN expN
    by_cases h4 : V < 4503599627370496
    · have : ¬ 0 < V % 9223372036854775808 / 4503599627370496 := by omega
      rw [if_neg this, if_neg this]
      simp; omega
    · have : 0 < V % 9223372036854775808 / 4503599627370496 := by omega
      rw [if_pos this, if_pos this]
      have : V % 9223372036854775808 / 4503599627370496 - 1 = 0 := by omega
      rw [this]; omega
  · have h5 : 4503599627370496 ≤ V / 2 ^ (blen V - 53) := by
      rw [Nat.le_div_iff_mul_le (Nat.two_pow_pos _), show (4503599627370496 : Nat) = 2 ^ 52 by decide, ← Nat.pow_add]
      have : ¬ blen V ≤ 52 + (blen V - 53) := by omega
      rw [blen_le] at this
      omega
    generalize blen V - 53 = d at *
    generalize hq : V / 2 ^ d = Q at *
    have e : nearN V = d * 4503599627370496 + Q := by omega
    rw [e] at hn ⊢
    have e1 : expN (d * 4503599627370496 + Q) = d + 1 := by unfold expN; omega
    unfold magN digN shN
    rw [e1, if_pos (by omega), if_pos (by omega), Nat.add_sub_cancel]
    have e2 : (d * 4503599627370496 + Q) % 4503599627370496 + 4503599627370496 = Q := by omega
    rw [e2, Nat.mul_comm]
    exact h2
theorem near_le (V : Nat) : nearN V ≤ 9218868437227405312 := by rw [near_rnd]; omega
theorem near_double {V : Nat} (h : Short V) (hn : nearN V = 9218868437227405312) : nearN (V * 2) = 9218868437227405312 := by
  have h0 : V ≠ 0 := by intro h0; subst h0; revert hn; decide
  have h1 := near_short h
  have hb := blen_shift 1 h0
  have hb2 : ¬ blen V ≤ 53 := by
    intro hb
    rw [show blen V - 53 = 0 by omega] at h1
    simp at h1
    have : V < 2 ^ 53 := blen_le.1 hb
    omega
  rw [Nat.pow_one] at hb
  have h2 : Short (V * 2) := by
    unfold Short at h ⊢
    rw [hb, show blen V + 1 - 53 = blen V - 53 + 1 by omega, Nat.pow_succ, Nat.mul_mod_mul_right, h]
  rw [near_short h2, hb, show blen V + 1 - 53 = blen V - 53 + 1 by omega, Nat.pow_succ, Nat.mul_div_mul_right _ _ (by decide)]
  omega
theorem digits_two : digN 4611686018427387904 = 4503599627370496 ∧ shN 4611686018427387904 = 1023 ∧ signB 4611686018427387904 = false ∧ expN 4611686018427387904 < 2047 := by decide
theorem mul_two {x : Nat} (hx : x < 18446744073709551616) (h : expN x < 2047) : Ieee.double.mul x 4611686018427387904 = some (Ieee.double.word (signB x) (nearN (magN x * 2))) := by
  unfold Ieee.Format.mul
  obtain ⟨h1, h2, h3, h4⟩ := digits_two
  rw [read_num hx h, read_num (by decide) h4, h1, h2, h3]
  simp only [Ieee.Datum.product, Option.map_some, Ieee.Format.write, Bool.xor_false]
  rw [nearest_eq _ _ (magN x * 2) (shN x) 51]
  · omega
  · unfold magN
    rw [show (4503599627370496 : Nat) = 2 * 2 ^ 51 by decide, ← Nat.mul_assoc, Nat.mul_right_comm, Nat.mul_right_comm (digN x)]
theorem mul_inf {x : Nat} (hx : x < 18446744073709551616) (h : x % 9223372036854775808 = 9218868437227405312) : Ieee.double.mul x 4611686018427387904 = some x := by
  unfold Ieee.Format.mul
  obtain ⟨h1, h2, h3, h4⟩ := digits_two
  rw [read_inf hx h, read_num (by decide) h4, h1, h2, h3]
  simp only [Ieee.Datum.product, Bool.xor_false]
  rw [if_neg (by decide), Option.map_some]
  show some (Ieee.double.word (signB x) Ieee.double.infRung) = some x
  rw [word_eq, d_inf]
  unfold signB
  by_cases h5 : 9223372036854775808 ≤ x
  · simp [h5]; omega
  · simp [h5]; omega
/-- the number of an integer -/
theorem float_int (n : Int) : Ieee.double.write (.number (n < 0) n.natAbs 0) = Ieee.double.word (decide (n < 0)) (nearN (n.natAbs * 2 ^ 1074)) := by
  show Ieee.double.nearest _ _ _ = _
  exact nearest_eq _ _ _ 1074 0 _ rfl (by rw [Nat.pow_zero, Nat.mul_one])
theorem order_sc {x y : Nat} (hx : x < 18446744073709551616) (hy : y < 18446744073709551616) (h1 : expN x < 2047) (h2 : expN y < 2047) :
    ∃ S T q : Int, 0 < q ∧ Ieee.double.order x y = some (compare S T) ∧ exI x = S * q ∧ exI y = T * q := by
  unfold Ieee.Format.order
  rw [read_num hx h1, read_num hy h2]
  obtain ⟨b, hb⟩ : ∃ b, b = min (shN x) (shN y) := ⟨_, rfl⟩
  have e0 : min (-1074 + (shN x : Int)) (-1074 + (shN y : Int)) = -1074 + b := by omega
  have e1 : (-1074 + (shN x : Int) - (-1074 + (b : Int))).toNat = shN x - b := by omega
  have e2 : (-1074 + (shN y : Int) - (-1074 + (b : Int))).toNat = shN y - b := by omega
  simp only [Ieee.Datum.order, e0, e1, e2, signed_eq]
  have hp := Nat.two_pow_pos b
  have k1 : digN x * 2 ^ (shN x - b) * 2 ^ b = magN x := by unfold magN; rw [Nat.mul_assoc, ← Nat.pow_add, show shN x - b + b = shN x by omega]
  have k2 : digN y * 2 ^ (shN y - b) * 2 ^ b = magN y := by unfold magN; rw [Nat.mul_assoc, ← Nat.pow_add, show shN y - b + b = shN y by omega]
  rw [exI_mag, exI_mag, ← k1, ← k2]
  generalize digN x * 2 ^ (shN x - b) = A at *
  generalize digN y * 2 ^ (shN y - b) = B at *
  have e3 : (if signB x = true then -((A * 2 ^ b : Nat) : Int) else ((A * 2 ^ b : Nat) : Int)) = (if signB x = true then -(A : Int) else (A : Int)) * ((2 ^ b : Nat) : Int) := by
    split <;> simp [Int.neg_mul]
  have e4 : (if signB y = true then -((B * 2 ^ b : Nat) : Int) else ((B * 2 ^ b : Nat) : Int)) = (if signB y = true then -(B : Int) else (B : Int)) * ((2 ^ b : Nat) : Int) := by
    split <;> simp [Int.neg_mul]
  rw [e3, e4]
  exact ⟨_, _, _, by omega, rfl, rfl, rfl⟩
theorem cmp_lt {S T : Int} (h : compare S T = .lt) : S < T := by
  unfold compare instOrdInt at h
  simp only [compareOfLessAndEq] at h
  by_cases h5 : S < T
  · exact h5
  · rw [if_neg h5] at h; split at h <;> cases h
theorem cmp_gt {S T : Int} (h : compare S T = .gt) : T < S := by
  unfold compare instOrdInt at h
  simp only [compareOfLessAndEq] at h
  by_cases h5 : S < T
  · rw [if_pos h5] at h; cases h
  · rw [if_neg h5] at h
    by_cases h6 : S = T
    · rw [if_pos h6] at h; cases h
    · omega
theorem cmp_eq {S T : Int} : compare S T = .eq ↔ S = T := by
  unfold compare instOrdInt
  simp only [compareOfLessAndEq]
  by_cases h5 : S < T
  · rw [if_pos h5]
    constructor
    · intro h; cases h
    · intro h; omega
  · rw [if_neg h5]
    by_cases h6 : S = T
    · rw [if_pos h6]; exact ⟨fun _ => h6, fun _ => rfl⟩
    · rw [if_neg h6]
      constructor
      · intro h; cases h
      · intro h; exact absurd h h6
theorem order_num {x y : Nat} (hx : x < 18446744073709551616) (hy : y < 18446744073709551616) (h1 : expN x < 2047) (h2 : expN y < 2047) :
    (Ieee.double.order x y = some .lt → exI x < exI y) ∧ (Ieee.double.order x y = some .gt → exI y < exI x) ∧ (Ieee.double.order x y = some .eq ↔ exI x = exI y) := by
  obtain ⟨S, T, q, hq, ho, e1, e2⟩ := order_sc hx hy h1 h2
  rw [ho, e1, e2]
  refine ⟨fun h => Int.mul_lt_mul_of_pos_right (cmp_lt (Option.some.inj h)) hq, fun h => Int.mul_lt_mul_of_pos_right (cmp_gt (Option.some.inj h)) hq, ?_⟩
  constructor
  · intro h
    rw [cmp_eq.1 (Option.some.inj h)]
  · intro h
    rw [cmp_eq.2 (Int.eq_of_mul_eq_mul_right (by omega) h)]
theorem exI_level {x y : Nat} (hx : x < 18446744073709551616) (hy : y < 18446744073709551616) (n1 : nanB x = false) (n2 : nanB y = false) (h : exI x < exI y) : levelN x < levelN y := by
  have o1 : oneN x = x := by unfold oneN; rw [n1]; rfl
  have o2 : oneN y = y := by unfold oneN; rw [n2]; rfl
  unfold levelN
  rw [o1, o2]
  rw [exI_mag, exI_mag] at h
  unfold signB at h
  by_cases h1 : 9223372036854775808 ≤ x
  · rw [if_pos h1]
    rw [if_pos (decide_eq_true h1)] at h
    by_cases h2 : 9223372036854775808 ≤ y
    · rw [if_pos h2]
      rw [if_pos (decide_eq_true h2)] at h
      have := @mag_mono x y
      omega
    · rw [if_neg h2]; omega
  · rw [if_neg h1]
    rw [decide_eq_false h1, if_neg (by decide)] at h
    by_cases h2 : 9223372036854775808 ≤ y
    · rw [if_pos (decide_eq_true h2)] at h
      omega
    · rw [if_neg h2]
      rw [decide_eq_false h2, if_neg (by decide)] at h
      have := @mag_mono y x
      omega
theorem order_level {x y : Nat} (hx : x < 18446744073709551616) (hy : y < 18446744073709551616) :
    (Ieee.double.order x y = some .lt → levelN x < levelN y) ∧ (Ieee.double.order x y = some .gt → levelN y < levelN x) := by
  rcases @kinds x with n1 | i1 | ⟨n1, f1⟩
  · obtain ⟨s, f, e⟩ := read_nan n1
    unfold Ieee.Format.order
    rw [e]
    constructor <;> intro h <;> cases h
  all_goals rcases @kinds y with n2 | i2 | ⟨n2, f2⟩
  any_goals
    obtain ⟨s, f, e⟩ := read_nan n2
    unfold Ieee.Format.order
    rw [e]
    constructor <;> intro h <;> (cases hr : Ieee.double.read x <;> rw [hr] at h <;> cases h)
  · have m1 : nanB x = false := by unfold nanB; exact decide_eq_false (by omega)
    have m2 : nanB y = false := by unfold nanB; exact decide_eq_false (by omega)
    unfold Ieee.Format.order
    rw [read_inf hx i1, read_inf hy i2]
    unfold levelN oneN
    rw [m1, m2]
    simp only [Ieee.Datum.order]
    unfold signB
    by_cases h1 : 9223372036854775808 ≤ x <;> by_cases h2 : 9223372036854775808 ≤ y <;> simp [h1, h2, compare, compareOfLessAndEq] <;> omega
  · have m1 : nanB x = false := by unfold nanB; exact decide_eq_false (by omega)
    unfold Ieee.Format.order
    rw [read_inf hx i1, read_num hy f2]
    unfold levelN oneN
    rw [m1, n2]
    unfold expN at f2
    simp only [Ieee.Datum.order]
    unfold signB
    by_cases h1 : 9223372036854775808 ≤ x <;> by_cases h2 : 9223372036854775808 ≤ y <;> simp [h1, h2] <;> omega
  · have m2 : nanB y = false := by unfold nanB; exact decide_eq_false (by omega)
    unfold Ieee.Format.order
    rw [read_num hx f1, read_inf hy i2]
    unfold levelN oneN
    rw [n1, m2]
    unfold expN at f1
    simp only [Ieee.Datum.order]
    unfold signB
    by_cases h1 : 9223372036854775808 ≤ x <;> by_cases h2 : 9223372036854775808 ≤ y <;> simp [h1, h2] <;> omega
  · obtain ⟨h1, h2, _⟩ := order_num hx hy f1 f2
    exact ⟨fun h => exI_level hx hy n1 n2 (h1 h), fun h => exI_level hy hx n2 n1 (h2 h)⟩
theorem order_self {x : Nat} (hx : x < 18446744073709551616) : (Ieee.double.order x x != some .eq) = nanB x := by
  rcases @kinds x with n1 | i1 | ⟨n1, f1⟩
  · obtain ⟨s, f, e⟩ := read_nan n1
    unfold Ieee.Format.order
    rw [e, n1]; rfl
  · have m1 : nanB x = false := by unfold nanB; exact decide_eq_false (by omega)
    unfold Ieee.Format.order
    rw [read_inf hx i1, m1]
    simp only [Ieee.Datum.order]
    cases signB x <;> rfl
  · rw [n1, (order_num hx hx f1 f1).2.2.2 rfl]; rfl
def infB (x : Nat) : Bool := decide (x % 9223372036854775808 = 9218868437227405312)
theorem order_max {r : Nat} (hr : r < 9223372036854775808) : (Ieee.double.order r 9218868437227405311 == some .gt) = decide (r = 9218868437227405312) := by
  have hx : r < 18446744073709551616 := by omega
  have em : r % 9223372036854775808 = r := Nat.mod_eq_of_lt hr
  have f2 : expN 9218868437227405311 < 2047 := by decide
  rcases @kinds r with n1 | i1 | ⟨n1, f1⟩
  · obtain ⟨s, f, e⟩ := read_nan n1
    unfold Ieee.Format.order
    rw [e]
    unfold nanB at n1
    have n1 := of_decide_eq_true n1
    rw [decide_eq_false (by omega)]; rfl
  · unfold Ieee.Format.order
    rw [read_inf hx i1, read_num (by decide) f2]
    have : signB r = false := by unfold signB; exact decide_eq_false (by omega)
    rw [this, decide_eq_true (by omega)]
    rfl
  · have h := (@order_level r 9218868437227405311 hx (by decide)).2
    unfold expN at f1
    rw [decide_eq_false (by omega), beq_eq_false_iff_ne]
    intro h9
    have h := h h9
    have o1 : oneN r = r := by unfold oneN; rw [n1]; rfl
    have o2 : levelN 9218868437227405311 = 18442240474082181119 := by decide
    rw [o2] at h
    unfold levelN at h
    rw [o1, if_neg (by omega)] at h
    omega
theorem mag_zero {x : Nat} : magN x = 0 ↔ x % 9223372036854775808 = 0 := by
  constructor
  · intro h
    unfold magN at h
    have hp := Nat.two_pow_pos (shN x)
    rcases Nat.mul_eq_zero.1 h with h | h
    · unfold digN at h
      by_cases h1 : 0 < expN x
      · rw [if_pos h1] at h; omega
      · rw [if_neg h1] at h
        unfold expN at h1
        omega
    · omega
  · intro h
    have : digN x = 0 := by
      unfold digN expN
      rw [h, if_neg (by decide)]
      omega
    unfold magN
    rw [this, Nat.zero_mul]
theorem order_zero {x : Nat} (hx : x < 18446744073709551616) (h : expN x < 2047) : (Ieee.double.order x 0 == some .eq) = decide (x % 9223372036854775808 = 0) := by
  have h0 := (order_num (y := 0) hx (by decide) h (by decide)).2.2
  have e0 : exI 0 = 0 := by decide
  rw [e0] at h0
  have h1 : exI x = 0 ↔ x % 9223372036854775808 = 0 := by
    rw [← mag_zero, exI_mag]
    split <;> omega
  by_cases h2 : x % 9223372036854775808 = 0
  · rw [decide_eq_true h2, beq_iff_eq]; exact h0.2 (h1.2 h2)
  · rw [decide_eq_false h2, beq_eq_false_iff_ne]; exact fun h9 => h2 (h1.1 (h0.1 h9))
theorem near_mag {x : Nat} (h : expN x < 2047) : nearN (magN x) = x % 9223372036854775808 := by
  have hs := near_short (short_mag x)
  unfold expN at h
  by_cases h1 : 0 < expN x
  · have hd : 4503599627370496 ≤ digN x := by unfold digN; rw [if_pos h1]; omega
    have hb : blen (digN x) = 53 := by
      apply Nat.le_antisymm
      · exact blen_le.2 (by simpa using digN_lt x)
      · have : ¬ blen (digN x) ≤ 52 := by rw [blen_le]; simp; omega
        omega
    have hbl : blen (magN x) = 53 + shN x := by unfold magN; rw [blen_shift _ (by omega), hb]
    rw [hs, hbl, show 53 + shN x - 53 = shN x by omega]
    have : magN x / 2 ^ shN x = digN x := by unfold magN; rw [Nat.mul_div_cancel _ (Nat.two_pow_pos _)]
    rw [this]
    unfold digN shN
    rw [if_pos h1, if_pos h1]
    unfold expN at h1 ⊢
    have e1 : x % 4503599627370496 = x % 9223372036854775808 % 4503599627370496 := (Nat.mod_mod_of_dvd x (by decide)).symm
    have e2 := Nat.div_add_mod (x % 9223372036854775808) 4503599627370496
    have e3 : x % 9223372036854775808 % 4503599627370496 < 4503599627370496 := Nat.mod_lt _ (by decide)
    rw [e1]
    clear hs hd hb hbl this e1
    generalize x % 9223372036854775808 = r at *
    generalize r % 4503599627370496 = f at *
    generalize r / 4503599627370496 = q at *
    omega
  · unfold expN at h1
    have hr : x % 9223372036854775808 < 4503599627370496 := by
      clear hs
      generalize x % 9223372036854775808 = r at *
      omega
    have e1 : x % 4503599627370496 = x % 9223372036854775808 % 4503599627370496 := (Nat.mod_mod_of_dvd x (by decide)).symm
    rw [Nat.mod_eq_of_lt hr] at e1
    have e : magN x = x % 9223372036854775808 := by
      unfold magN digN shN expN
      rw [if_neg h1, if_neg h1, e1, Nat.pow_zero, Nat.mul_one]
    have hb : blen (magN x) ≤ 53 := blen_le.2 (by rw [e]; exact Nat.lt_of_lt_of_le hr (by decide))
    rw [hs, show blen (magN x) - 53 = 0 by clear hs e h1 hr e1; omega, e, Nat.zero_mul, Nat.zero_add, Nat.pow_zero, Nat.div_one]
    exact Nat.min_eq_left (by clear hs hb e h1 e1; omega)
/-- what a finite number's sum knows -/
theorem facts_num {x : Nat} (h : expN x < 2047) (hx : x < 18446744073709551616) : (factsN x).V = exactN x ∧ (factsN x).saw = 0 ∧ (factsN x).zero = if x = 9223372036854775808 then 1 else 2 := by
  unfold expN at h
  unfold factsN
  have n1 : nanB x = false := by unfold nanB; exact decide_eq_false (by omega)
  rw [n1, if_neg (by decide), if_neg (by omega), if_neg (by omega)]
  by_cases h1 : x = 9223372036854775808
  · subst h1
    rw [if_pos rfl, if_pos rfl]
    refine ⟨?_, rfl, rfl⟩
    have : exactN 9223372036854775808 = 0 := by
      unfold exactN
      rw [if_pos (Nat.le_refl _)]
      have : digN 9223372036854775808 = 0 := by decide
      rw [this, Nat.zero_mul]
      unfold opp
      rw [Nat.sub_zero, Nat.mod_self]
    exact this.symm
  · rw [if_neg h1, if_neg h1]
    exact ⟨rfl, rfl, rfl⟩
theorem facts_inf {x : Nat} (hx : x < 18446744073709551616) (h : x % 9223372036854775808 = 9218868437227405312) : factsN x = ⟨0, if signB x = true then 4 else 2, 2⟩ := by
  unfold factsN signB
  have n1 : nanB x = false := by unfold nanB; exact decide_eq_false (by omega)
  rw [n1, if_neg (by decide)]
  by_cases h1 : 9223372036854775808 ≤ x
  · rw [if_neg (by omega), if_pos (by omega), if_pos (decide_eq_true h1)]
  · rw [if_pos (by omega), decide_eq_false h1, if_neg (by decide)]
theorem facts_nan {x : Nat} (h : nanB x = true) : factsN x = ⟨0, 1, 2⟩ := by
  unfold factsN
  rw [if_pos h]
theorem neg_iv {V : Nat} (h : V < big) : negN V = decide (iv V < 0) := by
  have hb := big_top
  have hp := top_pos
  cases hn : negN V with
  | true =>
    have := (neg_iff h).1 hn
    unfold iv
    rw [if_pos this, eq_comm, decide_eq_true_iff]
    omega
  | false =>
    have : ¬ 9223372036854775808 * top ≤ V := fun h9 => by rw [(neg_iff h).2 h9] at hn; cases hn
    unfold iv
    rw [if_neg this, eq_comm, decide_eq_false_iff_not]
    omega
/-- the value of what is a number -/
theorem value_num {V z : Nat} (hV : V < big) (hz : z ≠ 1) : valueN ⟨V, 0, z⟩ = Ieee.double.word (decide (iv V < 0)) (nearN (iv V).natAbs) := by
  unfold valueN
  rw [if_neg (by simp), if_neg (by simp), if_neg (by simp), if_neg hz, word_eq, ← abs_iv hV, neg_iv hV]
  unfold absN
  rw [neg_iv hV]
  by_cases h : iv V < 0
  · rw [decide_eq_true h]; simp; omega
  · rw [decide_eq_false h]; simp
theorem joinF_mk (a b c d e f : Nat) : joinF ⟨a, b, c⟩ ⟨d, e, f⟩ = ⟨(a + d) % big, b ||| e, max c f⟩ := rfl
theorem exact_ok {x : Nat} (h : expN x < 2047) : exactN x < big := by
  unfold exactN
  split
  · exact opp_lt _
  · exact mag_lt h
theorem exI_lo {x : Nat} (h : expN x < 2047) : (exI x).natAbs < mid := exI_abs x h
theorem two_mid : mid + mid < 9223372036854775808 * top := by
  have h1 := mid_top
  have h2 := mid_pos
  have h3 := top_pos
  omega
theorem facts_mk {x : Nat} (h : expN x < 2047) (hx : x < 18446744073709551616) : factsN x = ⟨exactN x, 0, if x = 9223372036854775808 then 1 else 2⟩ := by
  obtain ⟨a, b, c⟩ := facts_num h hx
  generalize factsN x = f at *
  obtain ⟨p, q, r⟩ := f
  simp only at a b c
  rw [a, b, c]
theorem digN_zero {x : Nat} (h : magN x = 0) : x % 9223372036854775808 = 0 := mag_zero.1 h
theorem value_two (a c : Nat) : valueN ⟨a, 2, c⟩ = 9218868437227405312 := by unfold valueN; simp
theorem value_four (a c : Nat) : valueN ⟨a, 4, c⟩ = 18442240474082181120 := by unfold valueN; simp
/-- the sum of two numbers is the machine's -/
theorem add_value {x y : Nat} (hx : x < 18446744073709551616) (hy : y < 18446744073709551616) :
    (Ieee.double.add x y = none ∧ valueN (joinF (factsN x) (factsN y)) = 9221120237041090560) ∨
    (Ieee.double.add x y = some (valueN (joinF (factsN x) (factsN y))) ∧ nanB (valueN (joinF (factsN x) (factsN y))) = false) := by
  rcases @kinds x with n1 | i1 | ⟨n1, f1⟩
  · left
    obtain ⟨s, f, e⟩ := read_nan n1
    rw [facts_nan n1]
    unfold Ieee.Format.add
    rw [e]
    refine ⟨rfl, ?_⟩
    unfold valueN joinF
    rw [if_pos (.inl (by simp [Nat.or_mod_two_eq_one]))]
  all_goals rcases @kinds y with n2 | i2 | ⟨n2, f2⟩
  any_goals
    left
    obtain ⟨s, f, e⟩ := read_nan n2
    rw [facts_nan n2]
    unfold Ieee.Format.add
    rw [e]
    constructor
    · cases hr : Ieee.double.read x <;> rfl
    · unfold valueN joinF
      rw [if_pos (.inl (by simp [Nat.or_mod_two_eq_one]))]
  · rw [facts_inf hx i1, facts_inf hy i2]
    unfold Ieee.Format.add
    rw [read_inf hx i1, read_inf hy i2]
    rw [joinF_mk]
    unfold valueN
    cases h1 : signB x <;> cases h2 : signB y
    · right; exact ⟨rfl, rfl⟩
    · left; exact ⟨rfl, rfl⟩
    · left; exact ⟨rfl, rfl⟩
    · right; exact ⟨rfl, rfl⟩
  · right
    obtain ⟨_, s2, _⟩ := facts_num f2 hy
    rw [facts_inf hx i1]
    unfold Ieee.Format.add
    rw [read_inf hx i1, read_num hy f2]
    generalize factsN y = g at *
    obtain ⟨a, b, c⟩ := g
    obtain rfl : b = 0 := s2
    rw [joinF_mk]
    generalize max 2 c = c'
    generalize (0 + a) % big = a'
    cases h1 : signB x
    · rw [show (if false = true then 4 else 2) ||| 0 = 2 from rfl, value_two]; exact ⟨rfl, rfl⟩
    · rw [show (if true = true then 4 else 2) ||| 0 = 4 from rfl, value_four]; exact ⟨rfl, rfl⟩
  · right
    obtain ⟨_, s2, _⟩ := facts_num f1 hx
    rw [facts_inf hy i2]
    unfold Ieee.Format.add
    rw [read_num hx f1, read_inf hy i2]
    generalize factsN x = g at *
    obtain ⟨a, b, c⟩ := g
    obtain rfl : b = 0 := s2
    rw [joinF_mk]
    generalize max c 2 = c'
    generalize (a + 0) % big = a'
    cases h1 : signB y
    · rw [show 0 ||| (if false = true then 4 else 2) = 2 from rfl, value_two]; exact ⟨rfl, rfl⟩
    · rw [show 0 ||| (if true = true then 4 else 2) = 4 from rfl, value_four]; exact ⟨rfl, rfl⟩
  · right
    rw [sum_num hx hy f1 f2, facts_mk f1 hx, facts_mk f2 hy, joinF_mk]
    have b1 := exact_ok f1
    have b2 := exact_ok f2
    have a1 := exI_lo f1
    have a2 := exI_lo f2
    have tm := two_mid
    have hiv : iv ((exactN x + exactN y) % big) = exI x + exI y := by
      rw [iv_add b1 b2 (by rw [exact_iv x f1, exact_iv y f2]; omega) (by rw [exact_iv x f1, exact_iv y f2]; omega), exact_iv x f1, exact_iv y f2]
    by_cases hz : x = 9223372036854775808 ∧ y = 9223372036854775808
    · obtain ⟨rfl, rfl⟩ := hz
      have e1 : exI 9223372036854775808 = 0 := by decide
      rw [e1]
      unfold valueN
      exact ⟨rfl, rfl⟩
    · have hz2 : max (if x = 9223372036854775808 then 1 else 2) (if y = 9223372036854775808 then 1 else 2) ≠ 1 := by
        split <;> split <;> omega
      rw [Nat.or_self, value_num (Nat.mod_lt _ big_pos) hz2, hiv]
      have e2 : (if exI x + exI y = 0 then signB x && signB y else decide (exI x + exI y < 0)) = decide (exI x + exI y < 0) := by
        split
        · rename_i h0
          rw [h0]
          cases h1 : signB x <;> cases h2 : signB y <;> simp
          rw [exI_mag, exI_mag, if_pos h1, if_pos h2] at h0
          have g1 := digN_zero (x := x) (by omega)
          have g2 := digN_zero (x := y) (by omega)
          unfold signB at h1 h2
          have h1 := of_decide_eq_true h1
          have h2 := of_decide_eq_true h2
          omega
        · rfl
      rw [e2]
      refine ⟨rfl, ?_⟩
      rw [word_eq]
      have := near_le (exI x + exI y).natAbs
      unfold nanB
      apply decide_eq_false
      split <;> omega
/-- the sum of one number is the number -/
theorem one_value {x : Nat} (hx : x < 18446744073709551616) (h : nanB x = false) : valueN (factsN x) = x := by
  rcases @kinds x with n1 | i1 | ⟨n1, f1⟩
  · rw [h] at n1; cases n1
  · rw [facts_inf hx i1]
    unfold valueN signB
    by_cases h1 : 9223372036854775808 ≤ x
    · simp [h1]; omega
    · simp [h1]; omega
  · rw [facts_mk f1 hx]
    by_cases h1 : x = 9223372036854775808
    · subst h1; rfl
    · rw [if_neg h1, value_num (exact_ok f1) (by decide), exact_iv x f1, word_eq]
      have e : (exI x).natAbs = magN x := by rw [exI_mag]; split <;> omega
      rw [e, near_mag f1]
      rw [exI_mag]
      unfold signB
      by_cases h2 : 9223372036854775808 ≤ x
      · have : magN x ≠ 0 := fun h0 => by have := digN_zero h0; omega
        rw [decide_eq_true h2, if_pos (c := true = true) rfl, decide_eq_true (by omega)]
        simp; omega
      · have h3 : (if decide (9223372036854775808 ≤ x) = true then -(magN x : Int) else (magN x : Int)) = magN x := by rw [decide_eq_false h2]; rfl
        rw [h3, decide_eq_false (by omega)]
        simp; omega
@[irreducible] def place : Nat := 2 ^ 1074
theorem place_eq : place = 2 ^ 1074 := by unfold place; rfl
theorem place_pos : 0 < place := by rw [place_eq]; exact Nat.two_pow_pos 1074
/-- the number of an integer -/
def fltN (n : Int) : Nat := Ieee.double.word (decide (n < 0)) (nearN (n.natAbs * place))
theorem flt_eq (n : Int) : Ieee.double.write (.number (n < 0) n.natAbs 0) = fltN n := by
  unfold fltN
  rw [place_eq, ← float_int n]
theorem mag_mod (r : Nat) : magN (9223372036854775808 + r) = magN r := by
  have e1 : (9223372036854775808 + r) % 9223372036854775808 = r % 9223372036854775808 := Nat.add_mod_left _ _
  have e2 : (9223372036854775808 + r) % 4503599627370496 = r % 4503599627370496 := by
    rw [show (9223372036854775808 : Nat) = 4503599627370496 * 2048 by decide, Nat.mul_add_mod]
  unfold magN digN shN expN
  rw [e1, e2]
theorem exp_mod (r : Nat) : expN (9223372036854775808 + r) = expN r := by
  unfold expN
  rw [Nat.add_mod_left]
theorem word_mag (s : Bool) (r : Nat) : magN (Ieee.double.word s r) = magN r ∧ expN (Ieee.double.word s r) = expN r := by
  rw [word_eq]
  cases s
  · exact ⟨rfl, rfl⟩
  · exact ⟨mag_mod r, exp_mod r⟩
theorem word_sign (s : Bool) (r : Nat) (hr : r < 9223372036854775808) : signB (Ieee.double.word s r) = s ∧ Ieee.double.word s r < 18446744073709551616 ∧ Ieee.double.word s r % 9223372036854775808 = r := by
  rw [word_eq]
  unfold signB
  cases s
  · refine ⟨decide_eq_false ?_, ?_, ?_⟩
    · show ¬ 9223372036854775808 ≤ r; omega
    · show r < _; omega
    · show r % _ = r; omega
  · refine ⟨decide_eq_true ?_, ?_, ?_⟩
    · show 9223372036854775808 ≤ 9223372036854775808 + r; omega
    · show 9223372036854775808 + r < _; omega
    · show (9223372036854775808 + r) % _ = r; omega
theorem near_exp {V : Nat} (h : nearN V < 9218868437227405312) : expN (nearN V) < 2047 := by unfold expN; omega
theorem blen_mul_le (M k : Nat) (h : M < 9007199254740992) : blen (M * 2 ^ k) ≤ 53 + k := by
  by_cases h0 : M = 0
  · subst h0
    rw [Nat.zero_mul]
    exact Nat.zero_le _
  · rw [blen_shift k h0]
    have : blen M ≤ 53 := blen_le.2 h
    omega
theorem flt_near {n : Int} (h : n.natAbs < 9007199254740992) : Short (n.natAbs * place) ∧ nearN (n.natAbs * place) < 9218868437227405312 := by
  rw [place_eq]
  have hs : Short (n.natAbs * 2 ^ 1074) := short_of (m := n.natAbs) (s := 1074) h
  refine ⟨hs, ?_⟩
  rw [near_short hs]
  have h1 := blen_mul_le n.natAbs 1074 h
  have h3 : n.natAbs * 2 ^ 1074 / 2 ^ (blen (n.natAbs * 2 ^ 1074) - 53) < 9007199254740992 := by
    have := lt_blen (n.natAbs * 2 ^ 1074)
    refine (div_lt' (Nat.two_pow_pos _)).2 (Nat.lt_of_lt_of_le this ?_)
    rw [show (9007199254740992 : Nat) = 2 ^ 53 by decide, ← Nat.pow_add]
    exact Nat.pow_le_pow_right (by decide) (by omega)
  omega
theorem flt_facts {n : Int} (h : n.natAbs < 9007199254740992) : fltN n < 18446744073709551616 ∧ expN (fltN n) < 2047 ∧ exI (fltN n) = n * place ∧ fltN n ≠ 9223372036854775808 := by
  obtain ⟨hs, hn⟩ := flt_near h
  have hm := mag_near hs hn
  obtain ⟨w1, w2⟩ := word_mag (decide (n < 0)) (nearN (n.natAbs * place))
  obtain ⟨s1, s2, s3⟩ := word_sign (decide (n < 0)) (nearN (n.natAbs * place)) (by omega)
  refine ⟨s2, by unfold fltN; rw [w2]; exact near_exp hn, ?_, ?_⟩
  · rw [exI_mag]
    unfold fltN
    rw [s1, w1, hm]
    by_cases h0 : n < 0
    · rw [decide_eq_true h0, if_pos rfl, Int.natCast_mul, ← Int.neg_mul]
      congr 1
      omega
    · rw [decide_eq_false h0, if_neg (by decide), Int.natCast_mul]
      congr 1
      omega
  · intro h9
    have h9' : Ieee.double.word (decide (n < 0)) (nearN (n.natAbs * place)) = 9223372036854775808 := h9
    rw [h9'] at s3 s1
    have h8 : nearN (n.natAbs * place) = 0 := by omega
    rw [h8] at hm
    have h7 : magN 0 = 0 := by decide
    rw [h7] at hm
    have hp := place_pos
    have : n.natAbs = 0 := by
      rcases Nat.mul_eq_zero.1 hm.symm with h | h
      · exact h
      · omega
    have : n = 0 := by omega
    subst this
    revert s1; decide
theorem iv_join {f g : Facts} {m n : Nat} (hf : f.Ok) (hg : g.Ok) (h1 : Lim f m) (h2 : Lim g n) (hmn : m + n ≤ 1000) : iv (joinF f g).V = iv f.V + iv g.V := by
  have h3 := small_top hmn
  have hp := top_pos
  have ht2 : top < 9223372036854775808 * top := by
    have : 2 * top ≤ 9223372036854775808 * top := Nat.mul_le_mul_right _ (by decide)
    omega
  unfold Lim at *
  rw [Nat.add_mul] at *
  show iv ((f.V + g.V) % big) = _
  obtain ⟨T, hT⟩ : ∃ T, T = 9223372036854775808 * top := ⟨_, rfl⟩
  rw [iv_add hf.V hg.V (by rw [← hT] at ht2 ⊢; omega) (by rw [← hT] at ht2 ⊢; omega)]
/-- a sum of integers -/
structure IntF (f : Facts) (t : Int) (n : Nat) : Prop where
  ok : f.Ok
  lim : Lim f n
  saw : f.saw = 0
  zero : f.zero ≠ 1
  val : iv f.V = t * place
theorem IntF.add {f : Facts} {t n : Int} {k : Nat} (h : IntF f t k) (hn : n.natAbs < 9007199254740992) (hk : k ≤ 500) (hl : Lim (factsN (fltN n)) 1) : IntF (joinF f (factsN (fltN n))) (t + n) (k + 1) := by
  obtain ⟨h1, h2, h3, h4⟩ := flt_facts hn
  have hg := factsN_ok h1
  have hv := iv_join h.ok hg h.lim hl (by omega)
  have hm := facts_mk h2 h1
  rw [if_neg h4] at hm
  have hlim : Lim (joinF f (factsN (fltN n))) (k + 1) := by
    unfold Lim at *
    rw [hv, Nat.add_mul]
    have := h.lim
    unfold Lim at this
    omega
  refine ⟨joinF_ok h.ok hg, hlim, ?_, ?_, ?_⟩
  · show f.saw ||| (factsN (fltN n)).saw = 0
    rw [hm, h.saw]
    exact Nat.or_self 0
  · show max f.zero (factsN (fltN n)).zero ≠ 1
    rw [hm]
    show max f.zero 2 ≠ 1
    omega
  · rw [hv, h.val, hm]
    show t * place + iv (exactN (fltN n)) = _
    rw [exact_iv _ h2, h3, Int.add_mul]
theorem IntF.value {f : Facts} {t : Int} {k : Nat} (h : IntF f t k) : valueN f = fltN t := by
  obtain ⟨V, s, z⟩ := f
  obtain rfl : s = 0 := h.saw
  have hz : z ≠ 1 := h.zero
  have hv : iv V = t * place := h.val
  rw [value_num h.ok.V hz, hv]
  unfold fltN
  have hp := place_pos
  have e1 : (t * (place : Int)).natAbs = t.natAbs * place := by rw [Int.natAbs_mul]; rfl
  have e2 : (t * (place : Int) < 0) ↔ t < 0 := by
    constructor
    · intro h
      apply Int.lt_of_not_ge
      intro h2
      have := Int.mul_nonneg h2 (show (0 : Int) ≤ (place : Int) by omega)
      omega
    · intro h
      exact Int.mul_neg_of_neg_of_pos h (by omega)
  rw [e1, decide_eq_decide.2 e2]
/-- the number with the other sign -/
def flipN (x : Nat) : Nat := if 9223372036854775808 ≤ x then x - 9223372036854775808 else x + 9223372036854775808
theorem flip_facts {x : Nat} (hx : x < 18446744073709551616) (h : expN x < 2047) : flipN x < 18446744073709551616 ∧ expN (flipN x) < 2047 ∧ exI (flipN x) = - exI x := by
  have e : flipN x % 9223372036854775808 = x % 9223372036854775808 := by unfold flipN; split <;> omega
  have e2 : flipN x % 4503599627370496 = x % 4503599627370496 := by
    have a1 := Nat.mod_mod_of_dvd (flipN x) (show 4503599627370496 ∣ 9223372036854775808 by decide)
    have a2 := Nat.mod_mod_of_dvd x (show 4503599627370496 ∣ 9223372036854775808 by decide)
    rw [← a1, ← a2, e]
  have e3 : expN (flipN x) = expN x := by unfold expN; rw [e]
  have e4 : magN (flipN x) = magN x := by unfold magN digN shN; rw [e2, e3]
  refine ⟨by unfold flipN; split <;> omega, by rw [e3]; exact h, ?_⟩
  rw [exI_mag, exI_mag, e4]
  have : signB (flipN x) = !signB x := by
    unfold signB flipN
    by_cases h1 : 9223372036854775808 ≤ x
    · rw [if_pos h1, decide_eq_true h1, decide_eq_false (by omega)]; rfl
    · rw [if_neg h1, decide_eq_false h1, decide_eq_true (by omega)]; rfl
  rw [this]
  cases signB x <;> simp
theorem iv_inj {V W : Nat} (hV : V < big) (hW : W < big) (h : iv V = iv W) : V = W := by
  have hb := big_top
  unfold iv at h
  split at h <;> split at h <;> omega
/-- a number and its opposite add nothing -/
theorem enc_same {f : Facts} {x k : Nat} (hf : f.Ok) (hlim : Lim f k) (hk : k ≤ 500) (hx : x < 18446744073709551616) (h : expN x < 2047) (l1 : Lim (factsN x) 1) (l2 : Lim (factsN (flipN x)) 1) :
    (encN (joinF (joinF f (factsN x)) (factsN (flipN x)))).drop 1 = (encN f).drop 1 := by
  obtain ⟨g1, g2, g3⟩ := flip_facts hx h
  have hg := factsN_ok hx
  have hg2 := factsN_ok g1
  have hv := iv_join hf hg hlim l1 (by omega)
  have hlim2 : Lim (joinF f (factsN x)) (k + 1) := by
    unfold Lim at *
    rw [hv, Nat.add_mul]
    omega
  have hv2 := iv_join (joinF_ok hf hg) hg2 hlim2 l2 (by omega)
  have m1 := (facts_num h hx).1
  have m2 := (facts_num g2 g1).1
  rw [hv, m1, m2, exact_iv _ h, exact_iv _ g2, g3] at hv2
  have hV : (joinF (joinF f (factsN x)) (factsN (flipN x))).V = f.V := iv_inj (joinF_ok (joinF_ok hf hg) hg2).V hf.V (by omega)
  unfold encN
  rw [hV]
  rfl
/-- a number doubled k times -/
def dblN (x k : Nat) : Nat := Ieee.double.word (signB x) (nearN (magN x * 2 ^ k))
theorem dbl_short (x k : Nat) : Short (magN x * 2 ^ k) := by
  unfold magN
  rw [Nat.mul_assoc, ← Nat.pow_add]
  exact short_of (digN_lt x)
theorem dbl_lt (x k : Nat) : dblN x k < 18446744073709551616 := (word_sign _ _ (by have := near_le (magN x * 2 ^ k); omega)).2.1
theorem dbl_zero {x : Nat} (hx : x < 18446744073709551616) (h : expN x < 2047) : dblN x 0 = x := by
  unfold dblN
  rw [Nat.pow_zero, Nat.mul_one, near_mag h, word_eq]
  unfold signB
  by_cases h2 : 9223372036854775808 ≤ x
  · rw [decide_eq_true h2, if_pos rfl]; omega
  · rw [decide_eq_false h2, if_neg (by decide)]; omega
/-- doubling a number is the machine's -/
theorem dbl_mul (x k : Nat) : Ieee.double.mul (dblN x k) 4611686018427387904 = some (dblN x (k + 1)) := by
  have hle := near_le (magN x * 2 ^ k)
  obtain ⟨s1, s2, s3⟩ := word_sign (signB x) (nearN (magN x * 2 ^ k)) (by omega)
  obtain ⟨w1, w2⟩ := word_mag (signB x) (nearN (magN x * 2 ^ k))
  have e : magN x * 2 ^ (k + 1) = magN x * 2 ^ k * 2 := by rw [Nat.pow_succ, Nat.mul_assoc]
  unfold dblN
  by_cases hn : nearN (magN x * 2 ^ k) < 9218868437227405312
  · rw [mul_two s2 (by rw [w2]; exact near_exp hn), s1, w1, mag_near (dbl_short x k) hn, e]
  · rw [mul_inf s2 (by rw [s3]; omega)]
    have h9 : nearN (magN x * 2 ^ k) = 9218868437227405312 := by omega
    rw [e, near_double (dbl_short x k) h9, h9]
/-- what a sum that was doubled k times knows -/
structure DblF (f : Facts) (x k : Nat) : Prop where
  ok : f.Ok
  saw : f.saw = 0
  zero : f.zero ≠ 1
  val : iv f.V = if signB x = true then -((magN x * 2 ^ k : Nat) : Int) else ((magN x * 2 ^ k : Nat) : Int)
  fit : magN x * 2 ^ k < top
theorem DblF.value {f : Facts} {x k : Nat} (h : DblF f x k) (h0 : magN x ≠ 0) : valueN f = dblN x k := by
  obtain ⟨V, s, z⟩ := f
  obtain rfl : s = 0 := h.saw
  have hv := h.val
  rw [value_num h.ok.V h.zero, hv]
  unfold dblN
  have hp : 0 < magN x * 2 ^ k := Nat.mul_pos (Nat.pos_of_ne_zero h0) (Nat.two_pow_pos k)
  generalize magN x * 2 ^ k = M at *
  cases hs : signB x
  · rw [if_neg (by decide), decide_eq_false (by omega)]
    congr 1
  · rw [if_pos rfl, decide_eq_true (by omega)]
    congr 2
    omega
theorem DblF.abs {f : Facts} {x k : Nat} (h : DblF f x k) : absN f.V < top := by
  rw [abs_iv h.ok.V, h.val]
  have := h.fit
  split <;> omega
theorem DblF.lt {f : Facts} {x k : Nat} (h : DblF f x k) (h0 : magN x ≠ 0) : k < 2240 := by
  have h1 := h.fit
  rw [top_eq] at h1
  apply Nat.lt_of_not_le
  intro h2
  have h3 := pow2_le 2240 k h2
  have h4 : 2 ^ k ≤ magN x * 2 ^ k := Nat.le_mul_of_pos_left _ (Nat.pos_of_ne_zero h0)
  exact absurd (Nat.lt_of_le_of_lt (Nat.le_trans h3 h4) h1) (Nat.lt_irrefl _)
theorem DblF.double {f : Facts} {x k : Nat} (h : DblF f x k) : iv ((f.V + f.V) % big) = if signB x = true then -((magN x * 2 ^ (k + 1) : Nat) : Int) else ((magN x * 2 ^ (k + 1) : Nat) : Int) := by
  have hf := h.fit
  have ht := top_pos
  have e : magN x * 2 ^ (k + 1) = magN x * 2 ^ k * 2 := by rw [Nat.pow_succ, Nat.mul_assoc]
  have hv := h.val
  have ht2 : 2 * top ≤ 9223372036854775808 * top := Nat.mul_le_mul_right _ (by decide)
  rw [e]
  generalize magN x * 2 ^ k = M at *
  obtain ⟨T, hT⟩ : ∃ T, T = 9223372036854775808 * top := ⟨_, rfl⟩
  rw [iv_add h.ok.V h.ok.V (by rw [← hT] at ht2 ⊢; rw [hv]; split <;> omega) (by rw [← hT] at ht2 ⊢; rw [hv]; split <;> omega), hv]
  split <;> omega
theorem DblF.next {f : Facts} {x k : Nat} (h : DblF f x k) (hz : f.zero = 2) (hf : fitN ((f.V + f.V) % big) = true) : DblF (joinF f f) x (k + 1) ∧ (joinF f f).zero = 2 := by
  have hd := h.double
  have hV : (f.V + f.V) % big < big := Nat.mod_lt _ big_pos
  refine ⟨⟨joinF_ok h.ok h.ok, ?_, ?_, hd, ?_⟩, ?_⟩
  · show f.saw ||| f.saw = 0
    rw [h.saw]; exact Nat.or_self 0
  · show max f.zero f.zero ≠ 1
    rw [hz]; decide
  · have := (fit_iff hV).1 hf
    rw [abs_iv hV, hd] at this
    split at this <;> omega
  · show max f.zero f.zero = 2
    rw [hz]; rfl
theorem mul_pow_le (a b c : Nat) (h : a + b ≤ c) : 2 ^ a * 2 ^ b ≤ 2 ^ c := by
  rw [← Nat.pow_add]
  exact pow2_le (a + b) c h
theorem mid_far : mid * 2 ^ 101 ≤ top := by
  unfold mid top
  exact mul_pow_le 2098 101 2240 (by decide)
theorem DblF.far {f : Facts} {x k : Nat} (h : DblF f x k) (hx : expN x < 2047) (hf : fitN ((f.V + f.V) % big) ≠ true) : 100 < k := by
  have hd := h.double
  have hV : (f.V + f.V) % big < big := Nat.mod_lt _ big_pos
  have h1 : ¬ absN ((f.V + f.V) % big) < top := fun h9 => hf ((fit_iff hV).2 h9)
  rw [abs_iv hV, hd] at h1
  have h2 : ¬ magN x * 2 ^ (k + 1) < top := by split at h1 <;> omega
  apply Nat.lt_of_not_le
  intro hk
  apply h2
  have h3 : magN x < mid := by
    have := exI_abs x hx
    rw [exI_mag] at this
    split at this <;> omega
  have h4 : 2 ^ (k + 1) ≤ 2 ^ 101 := pow2_le (k + 1) 101 (by omega)
  have h5 : magN x * 2 ^ (k + 1) < mid * 2 ^ (k + 1) := Nat.mul_lt_mul_of_pos_right h3 (Nat.two_pow_pos _)
  exact Nat.lt_of_lt_of_le h5 (Nat.le_trans (Nat.mul_le_mul_left _ h4) mid_far)
theorem dbl_start {x : Nat} (hx : x < 18446744073709551616) (h : expN x < 2047) (h0 : magN x ≠ 0) : DblF (factsN x) x 0 ∧ (factsN x).zero = 2 := by
  have hm := facts_mk h hx
  have hne : x ≠ 9223372036854775808 := by
    intro h9; subst h9; exact h0 (by decide)
  rw [if_neg hne] at hm
  refine ⟨⟨factsN_ok hx, by rw [hm], by rw [hm]; show (2 : Nat) ≠ 1; decide, ?_, ?_⟩, by rw [hm]⟩
  · rw [hm]
    show iv (exactN x) = _
    rw [exact_iv x h, exI_mag, Nat.pow_zero, Nat.mul_one]
  · rw [Nat.pow_zero, Nat.mul_one]
    have h3 : magN x < mid := by
      have := exI_abs x h
      rw [exI_mag] at this
      split at this <;> omega
    have := mid_top
    omega
end Go.Proofs.Ytjcdnaandbockaa

namespace Go.Proofs.Ytjcdnaandbockaa
open Go.RowKit Go.Shelf
attribute [local go_sem] Oper.semAt_some
set_option maxRecDepth 100000
set_option maxHeartbeats 1000000

theorem f64_format : FloatKind.f64.format = Ieee.double := rfl
theorem run_frombits (x : Nat) (w : World) : (callFunc 24 #[.int .u64 (x : Int)]).run Try.prog w = .ok (.value (.float .f64 x)) w := by
  rw [run_callFunc_extern Try.func24 (by kernel_rfl) (by kernel_rfl) (by kernel_rfl) (e := Extern.MathFloatBits.float64frombits) (by kernel_rfl)]
  rfl
theorem run_bits (x : Nat) (w : World) : (callFunc 27 #[.float .f64 x]).run Try.prog w = .ok (.value (.int .u64 (x : Int))) w := by
  rw [run_callFunc_extern Try.func27 (by kernel_rfl) (by kernel_rfl) (by kernel_rfl) (e := Extern.MathFloatBits.float64bits) (by kernel_rfl)]
  rfl
attribute [local go_sem] run_frombits run_bits
/-- math.IsNaN -/
theorem fnan_any (x : Nat) (hx : x < 18446744073709551616) (w : World) : Calls Try.prog 26 #[.float .f64 x] w fun e w' => e = .returned (.bool (nanB x)) ∧ w = w' := by
  have h := Lib.hid (order_self hx)
  go_enter Try.func26, Try.ntmps26
  go_wp2_with fail
  go_ret
  exact ⟨by rw [f64_format, h.out]; rfl, rfl⟩
/-- math.Abs -/
theorem fabs_any (x : Nat) (hx : x < 18446744073709551616) (w : World) : Calls Try.prog 50 #[.float .f64 x] w fun e w' => e = .returned (.float .f64 (x % 9223372036854775808)) ∧ w = w' := by
  have h := b_andNot x hx
  generalize x % 9223372036854775808 = y at *
  go_enter Try.func50, Try.ntmps50
  go_wp2_with fail
  go_ret
  exact ⟨rfl, rfl⟩
/-- math.IsInf -/
theorem finf_any (x : Nat) (hx : x < 18446744073709551616) (w : World) : Calls Try.prog 30 #[.float .f64 x, .int .i64 0] w fun e w' => e = .returned (.bool (infB x)) ∧ w = w' := by
  have h := Lib.hid (order_max (r := x % 9223372036854775808) (Nat.mod_lt _ (by decide)))
  have ha := fabs_any x hx
  go_enter Try.func30, Try.ntmps30
  go_wp2_with fail
  refine (ha _).mono ?_
  rintro e w' ⟨rfl, rfl⟩
  go_wp2_with fail
  go_ret
  exact ⟨by rw [f64_format, h.out]; rfl, rfl⟩
/-- the bits of a NaN that the machine chooses -/
def nanW (x y : Nat) (w : World) : Nat := (Question.nanBits .f64 x y).cut (w.tape w.drawn (Question.nanBits .f64 x y))
theorem nan_cut (x y t : Nat) : (Question.nanBits .f64 x y).cut t = t % 2 * 9223372036854775808 + 9218868437227405312 + 1 + t / 2 % 4503599627370495 := by
  simp [Question.cut]
theorem nan_fact (t : Nat) : nanB (t % 2 * 9223372036854775808 + 9218868437227405312 + 1 + t / 2 % 4503599627370495) = true ∧ t % 2 * 9223372036854775808 + 9218868437227405312 + 1 + t / 2 % 4503599627370495 < 18446744073709551616 := by
  have h1 : t / 2 % 4503599627370495 < 4503599627370495 := Nat.mod_lt _ (by decide)
  have h2 : t % 2 < 2 := Nat.mod_lt _ (by decide)
  unfold nanB
  rw [decide_eq_true_iff]
  generalize t / 2 % 4503599627370495 = p at *
  generalize t % 2 = q at *
  have hq : q = 0 ∨ q = 1 := by omega
  rcases hq with rfl | rfl <;> omega
theorem nanW_facts (x y : Nat) (w : World) : nanB (nanW x y w) = true ∧ nanW x y w < 18446744073709551616 := by
  unfold nanW
  rw [nan_cut]
  exact nan_fact _
theorem run_fadd {x y r : Nat} (h : Ieee.double.add x y = some r) (w : World) : (binOp .add 58 (.float .f64 x) (.float .f64 y)).run Try.prog w = .ok (.float .f64 r) w :=
  run_float_arith w .add 58 .f64 x y r h
theorem run_fadd_nan {x y : Nat} (h : Ieee.double.add x y = none) (w : World) : (binOp .add 58 (.float .f64 x) (.float .f64 y)).run Try.prog w = .ok (.float .f64 (nanW x y w)) w.drew := by
  have h : FloatKind.f64.format.add x y = none := h
  simp [binOp, Op.floatArith, h, Question.forced, nanW]
theorem run_fmul {x y r : Nat} (h : Ieee.double.mul x y = some r) (w : World) : (binOp .mul 58 (.float .f64 x) (.float .f64 y)).run Try.prog w = .ok (.float .f64 r) w :=
  run_float_arith w .mul 58 .f64 x y r h
end Go.Proofs.Ytjcdnaandbockaa
