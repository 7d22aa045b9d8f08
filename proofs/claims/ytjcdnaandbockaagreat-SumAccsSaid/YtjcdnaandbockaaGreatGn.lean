import Derived.Test.YtjcdnaandbockaaGreatGd
namespace Go.Proofs.YtjcdnaandbockaaGreat
open Go.RowKit Go.Shelf
attribute [local go_sem] Oper.semAt_some
set_option maxRecDepth 100000
set_option maxHeartbeats 1000000

theorem wordsN_lt {l : List Nat} (h : ∀ x ∈ l, x < 256) : wordsN l < 2 ^ (8 * l.length) := valB_lt _ (rev_lt h) _
theorem wordsN_byte {l : List Nat} (h : ∀ x ∈ l, x < 256) (i : Nat) : wordsN l / 2 ^ (8 * i) % 256 = if i < l.length then rev l i else 0 := by
  split
  · rename_i hi
    exact valB_byte _ (rev_lt h) _ _ hi
  · rename_i hi
    have h1 := wordsN_lt h
    have h2 : 2 ^ (8 * l.length) ≤ 2 ^ (8 * i) := pow2_le (8 * l.length) (8 * i) (by omega)
    rw [Nat.div_eq_of_lt (Nat.lt_of_lt_of_le h1 h2)]
theorem bit_byte (V i : Nat) : V / 2 ^ (8 * (i / 8)) % 256 / 2 ^ (i % 8) % 2 = V / 2 ^ i % 2 := by
  have e : i = 8 * (i / 8) + i % 8 := by omega
  have h8 : i % 8 < 8 := Nat.mod_lt _ (by decide)
  conv => rhs; rw [e, Nat.pow_add, ← Nat.div_div_eq_div_mul]
  generalize V / 2 ^ (8 * (i / 8)) = Q
  generalize i % 8 = r at *
  clear e
  have h : r = 0 ∨ r = 1 ∨ r = 2 ∨ r = 3 ∨ r = 4 ∨ r = 5 ∨ r = 6 ∨ r = 7 := by omega
  rcases h with rfl | rfl | rfl | rfl | rfl | rfl | rfl | rfl <;> simp <;> omega
/-- the reference's byte of a number -/
theorem at_any {w : World} {a : Option Addr} {l : List Nat} (h : Bs w a l) (hl : l.length ≤ 1000) (cap i : Nat) (hi : i ≤ 1000000) :
    Calls Tryz.prog 97 #[.slice a l.length cap, .int .i64 i] w fun e w' => e = .returned (.int .i64 ((wordsN l / 2 ^ (8 * i) % 256 : Nat) : Int)) ∧ w = w' := by
  rw [wordsN_byte h.small]
  by_cases hlt : i < l.length
  · rw [if_pos hlt]
    obtain ⟨b, off, rfl, hc⟩ := h.at_ (ne_nil_of_lt hlt)
    have c0 := hc (l.length - 1 - i) (by omega)
    have hx : l[l.length - 1 - i]'(by omega) = rev l i := by unfold rev; rw [List.getD_eq_getElem?_getD, List.getElem?_eq_getElem (by omega)]; rfl
    rw [hx] at c0
    have hr := rev_lt h.small i
    generalize rev l i = x at *
    obtain ⟨j, hj⟩ : ∃ j, j = l.length - 1 - i := ⟨_, rfl⟩
    rw [← hj] at c0
    have hj2 : l.length = j + 1 + i := by omega
    clear hx hc h
    generalize l.length = n at *
    subst hj2
    clear hj
    have e2 : (j : Int) + 1 + i - 1 - i = j := by omega
    have e3 : ((j : Int) + 1 + i - 1 - i).toNat = j := by omega
    go_enter Tryz.func97, Tryz.ntmps97
    go_wp2_with fail
    go_ret
    exact ⟨rfl, rfl⟩
  · rw [if_neg hlt]
    go_enter Tryz.func97, Tryz.ntmps97
    go_wp2_with fail
    go_ret
    exact ⟨rfl, rfl⟩
theorem run_quo8' (k : Nat) (w : World) (h : k ≤ 1000000) : (binOp .quo 3 (.int .i64 k) (.int .i64 8)).run Tryz.prog w = .ok (.int .i64 ((k / 8 : Nat) : Int)) w := by
  simp [go_sem]
  rw [IntKind.wrap_i64]; omega
/-- the reference's bit of a number -/
theorem bit_any {w : World} {a : Option Addr} {l : List Nat} (h : Bs w a l) (hl : l.length ≤ 1000) (cap i : Nat) (hi : i ≤ 1000000) :
    Calls Tryz.prog 82 #[.slice a l.length cap, .int .i64 i] w fun e w' => e = .returned (.int .i64 ((wordsN l / 2 ^ i % 2 : Nat) : Int)) ∧ w = w' := by
  have ha := at_any h hl cap (i / 8) (by omega)
  have hlt : wordsN l / 2 ^ (8 * (i / 8)) % 256 < 256 := Nat.mod_lt _ (by decide)
  have hb := Lib.hid (bit_byte (wordsN l) i)
  generalize wordsN l / 2 ^ (8 * (i / 8)) % 256 = x at *
  have h8 : i % 8 < 8 := Nat.mod_lt _ (by decide)
  generalize hr : i % 8 = r at *
  have e1 : (i : Int) / 8 = ((i / 8 : Nat) : Int) := by omega
  generalize hq : i / 8 = q at *
  have h1 : (i : Int) % 8 = r := by omega
  obtain ⟨y, hy⟩ : ∃ y, y = wordsN l / 2 ^ i % 2 := ⟨_, rfl⟩
  rw [← hy] at hb ⊢
  clear hy h
  go_enter Tryz.func82, Tryz.ntmps82
  go_wp2_with fail
  refine ha.mono ?_
  rintro e w' ⟨rfl, rfl⟩
  clear ha
  have h : r = 0 ∨ r = 1 ∨ r = 2 ∨ r = 3 ∨ r = 4 ∨ r = 5 ∨ r = 6 ∨ r = 7 := by omega
  rcases h with rfl | rfl | rfl | rfl | rfl | rfl | rfl | rfl
  all_goals
    go_wp2_with fail
    go_ret
    refine ⟨?_, rfl⟩
    have hb' := hb.out
    simp only [Nat.reducePow, Nat.pow_zero, Nat.div_one] at hb'
    show Ending.returned (Value.int .i64 _) = Ending.returned (Value.int .i64 _)
    congr 2
    omega
end Go.Proofs.YtjcdnaandbockaaGreat

namespace Go.Proofs.YtjcdnaandbockaaGreat
open Go.RowKit Go.Shelf
attribute [local go_sem] Oper.semAt_some
set_option maxRecDepth 100000
set_option maxHeartbeats 1000000

theorem blen_div {V : Nat} (s : Nat) (h : V / 2 ^ s ≠ 0) : blen V = s + blen (V / 2 ^ s) := by
  have hp := Nat.two_pow_pos s
  apply Nat.le_antisymm
  · rw [blen_le, Nat.pow_add, ← div_lt' hp]
    exact lt_blen _
  · have h1 : ¬ blen V ≤ s := by
      rw [blen_le]; intro h2
      exact h (Nat.div_eq_of_lt h2)
    have h2 : blen (V / 2 ^ s) ≤ blen V - s := by
      rw [blen_le, div_lt' hp, ← Nat.pow_add, show s + (blen V - s) = blen V by omega]
      exact lt_blen V
    omega
theorem blen_half {x : Nat} (h : x ≠ 0) : blen x = blen (x / 2) + 1 := by
  by_cases h1 : x / 2 = 0
  · have : x = 1 := by omega
    subst this; rfl
  · have := @blen_div x 1 (by simpa using h1)
    rw [Nat.pow_one] at this
    omega
theorem blen_words {l : List Nat} (h : ∀ x ∈ l, x < 256) (hne : l ≠ []) (h0 : l.getD 0 0 ≠ 0) : blen (wordsN l) = 8 * (l.length - 1) + blen (l.getD 0 0) := by
  have hl : 0 < l.length := List.length_pos_iff.2 hne
  have h1 := wordsN_byte h (l.length - 1)
  rw [if_pos (by omega)] at h1
  have h2 : rev l (l.length - 1) = l.getD 0 0 := by unfold rev; rw [show l.length - 1 - (l.length - 1) = 0 by omega]
  have h3 : wordsN l / 2 ^ (8 * (l.length - 1)) < 256 := by
    refine (div_lt' (Nat.two_pow_pos _)).2 ?_
    have := wordsN_lt h
    rwa [show 8 * l.length = 8 * (l.length - 1 + 1) by omega, pow8] at this
  rw [h2, Nat.mod_eq_of_lt h3] at h1
  rw [blen_div (8 * (l.length - 1)) (by rw [h1]; exact h0), h1]
/-- the reference's number of bits -/
theorem bits_any {w : World} {a : Option Addr} {l : List Nat} (h : Bs w a l) (hl : l.length ≤ 1000) (h0 : l = [] ∨ l.getD 0 0 ≠ 0) (cap : Nat) :
    Calls Tryz.prog 81 #[.slice a l.length cap] w fun e w' => e = .returned (.int .i64 ((blen (wordsN l) : Nat) : Int)) ∧ w = w' := by
  by_cases hne : l = []
  · subst hne
    go_enter Tryz.func81, Tryz.ntmps81
    go_wp2_with fail
    go_ret
    exact ⟨rfl, rfl⟩
  · have h0 : l.getD 0 0 ≠ 0 := by rcases h0 with h0 | h0; exact absurd h0 hne; exact h0
    have hbl := Lib.hid (blen_words h.small hne h0)
    obtain ⟨b, off, rfl, hc⟩ := h.at_ hne
    have hl0 : 0 < l.length := List.length_pos_iff.2 hne
    have c0 := hc 0 hl0
    have hx : l[0] = l.getD 0 0 := by rw [List.getD_eq_getElem?_getD, List.getElem?_eq_getElem hl0]; rfl
    have hs := h.small _ (List.getElem_mem hl0)
    rw [hx, Nat.add_zero] at c0
    rw [hx] at hs
    have hb8 : blen (l.getD 0 0) ≤ 8 := blen_le.2 hs
    have hB9 := Lib.hid (show blen (wordsN l) ≤ 9000 by rw [hbl.out]; omega)
    clear hb8
    clear hc hx h hne
    generalize l.getD 0 0 = x0 at *
    generalize blen (wordsN l) = B at *
    generalize l.length = n at *
    have hn0 : ((n : Int) == 0) = false := by rw [beq_eq_false_iff_ne]; omega
    go_enter Tryz.func81, Tryz.ntmps81
    go_wp2_with fail
    go_loopw [3, 4] (fun m x wr => ∃ N X : Nat, m = .int .i64 N ∧ x = .int .u8 X ∧ X < 256 ∧ N ≤ 10000 ∧ Hid (N + blen X = B) ∧ wr = w) (fun _ x _ => (intOf x).toNat)
    case atStart => exact ⟨8 * (n - 1), x0, by go_num, rfl, hs, by omega, hbl.out.symm, rfl⟩
    case round =>
      obtain ⟨N, X, rfl, rfl, hX, hN, hB, rfl⟩ := hrel
      by_cases hX0 : X = 0
      · subst hX0
        have hB2 : N = B := by have := hB.out; rw [show blen 0 = 0 by decide] at this; omega
        subst hB2
        go_wp2_with fail
        go_ret
        exact ⟨rfl, rfl⟩
      · have hB2 := Lib.hid (show (N + 1) + blen (X / 2) = B by have := hB.out; rw [blen_half hX0] at this; omega)
        have hNB : N + 1 ≤ 10000 := by
          have := hB2.out; have := hB9.out; omega
        go_wp2_with fail
        go_round
        case rel => exact ⟨N + 1, X / 2, by go_num, by go_num, by omega, by omega, hB2, trivial⟩
        case measure => simp [intOf]; omega
theorem run_shl52 (D : Nat) (h : D < 2048) (w : World) : (binOp .shl 22 (.int .u64 D) (.int .u64 52)).run Tryz.prog w = .ok (.int .u64 ((D * 4503599627370496 : Nat) : Int)) w := by
  simp [go_sem]
  rw [IntKind.wrap_u64]; omega
theorem div_step (V j : Nat) : 2 * (V / 2 ^ (j + 1)) + V / 2 ^ j % 2 = V / 2 ^ j := by
  rw [Nat.pow_succ, ← Nat.div_div_eq_div_mul]
  omega
theorem mod_step (V k : Nat) : (V % 2 ^ (k + 1) ≠ 0) ↔ (V % 2 ^ k ≠ 0 ∨ V / 2 ^ k % 2 = 1) := by
  rw [Nat.pow_succ, Nat.mod_mul]
  have hp := Nat.two_pow_pos k
  have h2 : V / 2 ^ k % 2 < 2 := Nat.mod_lt _ (by decide)
  generalize V / 2 ^ k % 2 = q at *
  generalize V % 2 ^ k = r at *
  generalize 2 ^ k = p at *
  have hq : q = 0 ∨ q = 1 := by omega
  rcases hq with rfl | rfl
  · simp
  · simp; omega
end Go.Proofs.YtjcdnaandbockaaGreat

namespace Go.Proofs.YtjcdnaandbockaaGreat
open Go.RowKit Go.Shelf
attribute [local go_sem] Oper.semAt_some
set_option maxRecDepth 100000
set_option maxHeartbeats 1000000

/-- the reference's rounding is the program's -/
theorem rounded_any {w : World} {a : Option Addr} {l : List Nat} (h : Bs w a l) (hl : l.length ≤ 280) (h0 : l = [] ∨ l.getD 0 0 ≠ 0) (cap : Nat) :
    Calls Tryz.prog 57 #[.slice a l.length cap] w fun e w' => e = .returned (.int .u64 (nearN (wordsN l) : Nat)) ∧ w = w' := by
  have hb := bits_any h (by omega) h0 cap
  have hB : blen (wordsN l) ≤ 2240 := by
    have h1 := wordsN_lt h.small
    exact blen_le.2 (lt_pw (8 * l.length) 2240 h1 (by omega))
  have hbit : ∀ i : Nat, i ≤ 10000 → Calls Tryz.prog 82 #[.slice a l.length cap, .int .i64 i] w fun e w' => e = .returned (.int .i64 ((wordsN l / 2 ^ i % 2 : Nat) : Int)) ∧ w = w' := fun i hi => bit_any h (by omega) cap i (by omega)
  have HBIT := Lib.hid hbit
  clear hbit h h0
  obtain ⟨d, hd⟩ : ∃ d, d = blen (wordsN l) - 53 := ⟨_, rfl⟩
  have hmax : max (0 : Int) ((blen (wordsN l) : Int) - 53) = (d : Int) := by omega
  have HR : Hid (nearN (wordsN l) = minN (d * 4503599627370496 + wordsN l / 2 ^ d + if (decide (d ≠ 0) && decide (wordsN l / 2 ^ (d - 1) % 2 = 1) && (decide (wordsN l / 2 ^ d % 2 = 1) || decide (wordsN l % 2 ^ (d - 1) ≠ 0))) = true then 1 else 0)) := by
    show _ = _
    unfold nearN
    by_cases h1 : blen (wordsN l) ≤ 53
    · have e : d = 0 := by omega
      subst e
      have h2 : wordsN l < 2 ^ 53 := blen_le.1 h1
      rw [if_pos h1]
      unfold limb minN
      simp
      split <;> omega
    · rw [if_neg h1]
      have e : d ≠ 0 := by omega
      have hf : wordsN l / 2 ^ d < 9007199254740992 := by
        have h3 := lt_blen (wordsN l)
        rw [show blen (wordsN l) = d + 53 by omega, Nat.pow_add] at h3
        exact (div_lt' (Nat.two_pow_pos _)).2 h3
      have hf2 : wordsN l / 2 ^ (d - 1) < 18014398509481984 := by
        have h3 := lt_blen (wordsN l)
        rw [show blen (wordsN l) = (d - 1) + 54 by omega, Nat.pow_add] at h3
        exact (div_lt' (Nat.two_pow_pos _)).2 h3
      unfold upN num0 halfN fromN
      rw [← hd, Nat.mod_eq_of_lt (by omega : wordsN l / 2 ^ d < 18446744073709551616), Nat.mod_eq_of_lt (by omega : wordsN l / 2 ^ (d - 1) < 18446744073709551616), decide_eq_true e]
      have e2 : (d * 4503599627370496 + wordsN l / 2 ^ d) % 2 = wordsN l / 2 ^ d % 2 := by omega
      rw [e2]
      simp
  have hfd : wordsN l / 2 ^ d < 9007199254740992 := by
    have h3 := lt_blen (wordsN l)
    by_cases h1 : blen (wordsN l) ≤ 53
    · have h2 : wordsN l < 2 ^ 53 := blen_le.1 h1
      exact Nat.lt_of_le_of_lt (Nat.div_le_self _ _) h2
    · rw [show blen (wordsN l) = d + 53 by omega, Nat.pow_add] at h3
      exact (div_lt' (Nat.two_pow_pos _)).2 h3
  have HF : Hid (∀ j, d ≤ j → wordsN l / 2 ^ j < 9007199254740992) := fun j hj => by
    refine Nat.lt_of_le_of_lt ?_ hfd
    exact Nat.div_le_div_left (pow2_le d j hj) (Nat.two_pow_pos _)
  have HL : Hid (d ≠ 0 → 4503599627370496 ≤ wordsN l / 2 ^ d) := fun h => by
    have h3 : ¬ blen (wordsN l) ≤ 52 + d := by omega
    rw [blen_le, Nat.pow_add] at h3
    rw [Nat.le_div_iff_mul_le (Nat.two_pow_pos _)]
    exact Nat.le_of_not_lt h3
  have hdB : d ≤ blen (wordsN l) := by omega
  have hV0 : wordsN l / 2 ^ blen (wordsN l) = 0 := Nat.div_eq_of_lt (lt_blen _)
  have HV0 := Lib.hid hV0
  have hd9 : d ≤ 2240 := by omega
  clear hfd hV0 hd
  generalize blen (wordsN l) = B at *
  generalize wordsN l = V at *
  generalize nearN V = N at *
  go_enter Tryz.func57, Tryz.ntmps57
  go_wp2_with fail
  refine hb.mono ?_
  rintro e w' ⟨rfl, rfl⟩
  go_wp2_with fail
  refine hb.mono ?_
  rintro e w' ⟨rfl, rfl⟩
  clear hb
  go_wp2_with fail
  clear hmax
  go_loopw [4, 5] (fun m i wr => ∃ (j M : Nat) (z : Int), d ≤ j ∧ j ≤ B ∧ i = .int .i64 z ∧ Hid (z + 1 = j) ∧ m = .int .u64 M ∧ Hid (M = V / 2 ^ j) ∧ wr = w) (fun _ i _ => (intOf i + 1).toNat)
  case atStart => exact ⟨B, 0, (B : Int) - 1, hdB, Nat.le_refl _, by go_num, by show _ = _; omega, rfl, HV0.out.symm, rfl⟩
  case round =>
    obtain ⟨j, M, z, hdj, hjB, rfl, hz, rfl, hM, rfl⟩ := hrel
    have hM9 : M < 9007199254740992 := by have := HF.out j hdj; rw [hM.out]; exact this
    by_cases hj : d = j
    · have hzd : ¬ (d : Int) ≤ z := by have := hz.out; omega
      subst hj
      clear hz
      by_cases hd0 : d = 0
      · subst hd0
        have HR2 : Hid (N = minN M) := by
          show _ = _
          rw [HR.out, hM.out]
          simp
        clear HR
        go_wp2_with fail
        go_ret
        refine ⟨?_, rfl⟩
        rw [HR2.out]
        unfold minN
        show Ending.returned (Value.int .u64 _) = Ending.returned (Value.int .u64 _)
        congr 2
        repeat' split
        all_goals omega
      · obtain ⟨d, rfl⟩ : ∃ d', d = d' + 1 := ⟨d - 1, by omega⟩
        clear hd0
        have hML : 4503599627370496 ≤ M := by rw [hM.out]; exact HL.out (by omega)
        have hbit := HBIT.out d (by omega)
        have h2 : V / 2 ^ d % 2 < 2 := Nat.mod_lt _ (by decide)
        have HR2 : Hid (N = minN ((d + 1) * 4503599627370496 + M + if (decide (V / 2 ^ d % 2 = 1) && (decide (M % 2 = 1) || decide (V % 2 ^ d ≠ 0))) = true then 1 else 0)) := by
          show _ = _
          rw [HR.out, hM.out, Nat.add_sub_cancel]
          simp
        clear HR
        have e1 : (d : Int) + 1 - 1 = d := by omega
        have hgt : (0 : Int) < (d : Int) + 1 := by omega
        by_cases hq : V / 2 ^ d % 2 = 1
        · rw [hq] at hbit
          rw [hq] at HR2
          have HR3 : Hid (N = minN ((d + 1) * 4503599627370496 + M + if (decide (M % 2 = 1) || decide (V % 2 ^ d ≠ 0)) = true then 1 else 0)) := by
            show _ = _
            rw [HR2.out]
            simp
          clear HR2 hq h2
          go_wp2_with fail
          refine hbit.mono ?_
          rintro e w' ⟨rfl, rfl⟩
          clear hbit
          have hmod : ((M : Int) % 2 == 1) = decide (M % 2 = 1) := by
            by_cases h : M % 2 = 1
            · rw [decide_eq_true h, beq_iff_eq]; omega
            · rw [decide_eq_false h, beq_eq_false_iff_ne]; omega
          go_wp2_with fail
          go_loopw [6, 7] (fun b i wr' => ∃ k : Nat, k ≤ d ∧ i = .int .i64 k ∧ b = .bool (decide (M % 2 = 1) || decide (V % 2 ^ k ≠ 0)) ∧ wr' = wr) (fun _ i _ => d - (intOf i).toNat)
          case atStart => exact ⟨0, Nat.zero_le _, rfl, by simp [Nat.mod_one], rfl⟩
          case round =>
            obtain ⟨k, hk, rfl, rfl, rfl⟩ := hrel
            by_cases hkd : k < d
            · have HS := Lib.hid (mod_step V k)
              have hbk := HBIT.out k (by omega)
              have h2 : V / 2 ^ k % 2 < 2 := Nat.mod_lt _ (by decide)
              have hki : (k : Int) < (d : Int) + 1 - 1 := by omega
              cases hmo : (decide (M % 2 = 1) || decide (V % 2 ^ k ≠ 0)) with
              | true =>
                have HN : Hid ((decide (M % 2 = 1) || decide (V % 2 ^ (k + 1) ≠ 0)) = true) := by
                  show _ = _
                  rw [Bool.or_eq_true, decide_eq_true_iff, decide_eq_true_iff] at hmo ⊢
                  rcases hmo with h | h
                  · exact .inl h
                  · exact .inr (HS.out.2 (.inl h))
                clear hmo HS hbk h2
                go_wp2_with fail
                go_round
                case rel => exact ⟨k + 1, by omega, by go_num, by rw [HN.out], trivial⟩
                case measure => simp [intOf]; omega
              | false =>
                have HN : Hid ((decide (M % 2 = 1) || decide (V % 2 ^ (k + 1) ≠ 0)) = decide (V / 2 ^ k % 2 = 1)) := by
                  show _ = _
                  rw [Bool.or_eq_false_iff, decide_eq_false_iff_not, decide_eq_false_iff_not] at hmo
                  rw [decide_eq_false hmo.1, Bool.false_or, decide_eq_decide, HS.out]
                  constructor
                  · rintro (h | h)
                    · exact absurd h hmo.2
                    · exact h
                  · exact .inr
                clear hmo HS
                obtain ⟨q, hq⟩ : ∃ q, q = V / 2 ^ k % 2 := ⟨_, rfl⟩
                rw [← hq] at h2 hbk HN
                clear hq
                have hq2 : q = 0 ∨ q = 1 := by omega
                go_wp2_with fail
                refine hbk.mono ?_
                rintro e w' ⟨rfl, rfl⟩
                clear hbk
                rcases hq2 with rfl | rfl
                all_goals
                  go_wp2_with fail
                  go_round
                  case rel => exact ⟨k + 1, by omega, by go_num, by rw [HN.out]; rfl, trivial⟩
                  case measure => simp [intOf]; omega
            · obtain rfl : k = d := by omega
              have hki : ¬ (k : Int) < (k : Int) + 1 - 1 := by omega
              clear hk hkd
              cases hmo : (decide (M % 2 = 1) || decide (V % 2 ^ k ≠ 0)) with
              | true =>
                rw [hmo] at HR3
                have HR3 : Hid (N = minN ((k + 1) * 4503599627370496 + M + 1)) := by show _ = _; rw [HR3.out, if_pos rfl]
                clear hmo hmod
                by_cases h46 : 2046 ≤ k + 1
                · have hN2 : Hid (N = 9218868437227405312) := by
                    show _ = _
                    rw [HR3.out]
                    unfold minN
                    split <;> omega
                  have h46i : (2046 : Int) ≤ (k : Int) + 1 := by omega
                  go_wp2_with fail
                  go_ret
                  exact ⟨by rw [hN2.out]; rfl, rfl⟩
                · have h46i : ¬ (2046 : Int) ≤ (k : Int) + 1 := by omega
                  go_wp2_with fail
                  go_ret
                  refine ⟨?_, rfl⟩
                  rw [HR3.out]
                  unfold minN
                  show Ending.returned (Value.int .u64 _) = Ending.returned (Value.int .u64 _)
                  congr 2
                  repeat' split
                  all_goals first | omega | exact absurd trivial ‹¬True›
              | false =>
                rw [hmo] at HR3
                have HR3 : Hid (N = minN ((k + 1) * 4503599627370496 + M)) := by show _ = _; rw [HR3.out, if_neg Bool.false_ne_true, Nat.add_zero]
                clear hmo hmod
                by_cases h46 : 2046 ≤ k + 1
                · have hN2 : Hid (N = 9218868437227405312) := by
                    show _ = _
                    rw [HR3.out]
                    unfold minN
                    split <;> omega
                  have h46i : (2046 : Int) ≤ (k : Int) + 1 := by omega
                  go_wp2_with fail
                  go_ret
                  exact ⟨by rw [hN2.out]; rfl, rfl⟩
                · have h46i : ¬ (2046 : Int) ≤ (k : Int) + 1 := by omega
                  go_wp2_with fail
                  go_ret
                  refine ⟨?_, rfl⟩
                  rw [HR3.out]
                  unfold minN
                  show Ending.returned (Value.int .u64 _) = Ending.returned (Value.int .u64 _)
                  congr 2
                  repeat' split
                  all_goals omega
        · have h0 : V / 2 ^ d % 2 = 0 := by omega
          rw [h0] at hbit
          rw [h0] at HR2
          have HR3 : Hid (N = minN ((d + 1) * 4503599627370496 + M)) := by
            show _ = _
            rw [HR2.out]
            simp
          clear HR2 hq h0 h2
          go_wp2_with fail
          refine hbit.mono ?_
          rintro e w' ⟨rfl, rfl⟩
          clear hbit
          by_cases h46 : 2046 ≤ d + 1
          · have hN2 : Hid (N = 9218868437227405312) := by
              show _ = _
              rw [HR3.out]
              unfold minN
              split <;> omega
            have h46i : (2046 : Int) ≤ (d : Int) + 1 := by omega
            go_wp2_with fail
            go_ret
            exact ⟨by rw [hN2.out]; rfl, rfl⟩
          · have h46i : ¬ (2046 : Int) ≤ (d : Int) + 1 := by omega
            go_wp2_with fail
            go_ret
            refine ⟨?_, rfl⟩
            rw [HR3.out]
            unfold minN
            show Ending.returned (Value.int .u64 _) = Ending.returned (Value.int .u64 _)
            congr 2
            repeat' split
            all_goals omega
    · obtain ⟨j', rfl⟩ : ∃ j', j = j' + 1 := ⟨j - 1, by omega⟩
      obtain rfl : z = (j' : Int) := by have := hz.out; omega
      have hbit := HBIT.out j' (by omega)
      have h2 : V / 2 ^ j' % 2 < 2 := Nat.mod_lt _ (by decide)
      have HS := Lib.hid (div_step V j')
      have hle : (d : Int) ≤ j' := by omega
      obtain ⟨q, hq⟩ : ∃ q, q = V / 2 ^ j' % 2 := ⟨_, rfl⟩
      rw [← hq] at h2 hbit HS
      have HM2 : Hid (2 * M + q = V / 2 ^ j') := by show _ = _; rw [hM.out]; exact HS.out
      clear hz hM HS hq
      go_wp2_with fail
      refine hbit.mono ?_
      rintro e w' ⟨rfl, rfl⟩
      clear hbit
      go_wp2_with fail
      go_round
      case rel => exact ⟨j', 2 * M + q, (j' : Int) - 1, by omega, by omega, by go_num, by show _ = _; omega, by go_num, HM2, trivial⟩
      case measure => simp [intOf]
end Go.Proofs.YtjcdnaandbockaaGreat

namespace Go.Proofs.YtjcdnaandbockaaGreat
open Go.RowKit Go.Shelf
attribute [local go_sem] Oper.semAt_some
set_option maxRecDepth 100000
set_option maxHeartbeats 1000000

/-- a sum of the reference in memory -/
structure RAt (w : World) (b : Nat) (m : Bool) (a : Option Addr) (l : List Nat) (cap : Nat) (nan plus below : Bool) (z : Nat) : Prop where
  row : w.heap[b]? = some (.cells #[.bool m, .slice a l.length cap, .bool nan, .bool plus, .bool below, .int .i64 z] 48 (0, 0))
  bs : Bs w a l
theorem RAt.keep {w w' : World} {b : Nat} {m : Bool} {a : Option Addr} {l : List Nat} {cap : Nat} {nan plus below : Bool} {z : Nat} (h : RAt w b m a l cap nan plus below z) (hb : Below w.heap.size w w') : RAt w' b m a l cap nan plus below z :=
  ⟨(hb.block b (Array.getElem?_eq_some_iff.1 h.row).1).trans h.row, h.bs.keep hb⟩
/-- the reference's value -/
def rvalN (m nan plus below : Bool) (z : Nat) (l : List Nat) : Nat :=
  if (nan || (plus && below)) = true then 9221120237041090560 else if plus = true then 9218868437227405312 else if below = true then 18442240474082181120
  else if (m || decide (z = 1)) = true then nearN (wordsN l) + 9223372036854775808 else nearN (wordsN l)
theorem b_zor (x : Nat) (h : x < 18446744073709551616) : bits .or .u64 0 x = (x : Int) := by
  have h2 := b_or 0 x (by decide) h
  rw [Nat.zero_or] at h2
  exact h2
theorem b_sor (x : Nat) (h : x < 9223372036854775808) : bits .or .u64 9223372036854775808 x = ((x + 9223372036854775808 : Nat) : Int) := by
  have h1 := b_orsign x h
  have h2 := b_or x 9223372036854775808 (by omega) (by decide)
  have h3 := b_or 9223372036854775808 x (by decide) (by omega)
  have h2' : bits .or .u64 x 9223372036854775808 = ((x ||| 9223372036854775808 : Nat) : Int) := h2
  rw [h2'] at h1
  have h3' : bits .or .u64 9223372036854775808 x = ((9223372036854775808 ||| x : Nat) : Int) := h3
  rw [h3', Nat.or_comm, h1]
theorem rvalue_any {w : World} {b : Nat} {m : Bool} {a : Option Addr} {l : List Nat} {cap : Nat} {nan plus below : Bool} {z : Nat} (h : RAt w b m a l cap nan plus below z) (hl : l.length ≤ 280) (h0 : l = [] ∨ l.getD 0 0 ≠ 0) :
    Calls Tryz.prog 31 #[.pointer (some ⟨b, 0, none⟩)] w fun e w' => e = .returned (.int .u64 (rvalN m nan plus below z l : Nat)) ∧ w = w' := by
  have hr := rounded_any h.bs hl h0 cap
  have hN := nearN_le (wordsN l)
  have HV : Hid (rvalN m nan plus below z l = if (nan || (plus && below)) = true then 9221120237041090560 else if plus = true then 9218868437227405312 else if below = true then 18442240474082181120
    else if (m || decide (z = 1)) = true then nearN (wordsN l) + 9223372036854775808 else nearN (wordsN l)) := rfl
  have hz := b_zor (nearN (wordsN l)) (by omega)
  have hs := b_sor (nearN (wordsN l)) (by omega)
  have c0 := cell_of_row w b 0 _ _ _ h.row
  have c1 := cell_of_row w b 1 _ _ _ h.row
  have c2 := cell_of_row w b 2 _ _ _ h.row
  have c3 := cell_of_row w b 3 _ _ _ h.row
  have c4 := cell_of_row w b 4 _ _ _ h.row
  have c5 := cell_of_row w b 5 _ _ _ h.row
  simp at c0 c1 c2 c3 c4 c5
  obtain ⟨R, hR⟩ : ∃ R, R = rvalN m nan plus below z l := ⟨_, rfl⟩
  rw [← hR] at HV ⊢
  generalize nearN (wordsN l) = N at *
  clear h hR h0
  have HN := Lib.hid hr
  clear hr
  have hz1 : ((z : Int) == 1) = decide (z = 1) := by
    by_cases h : z = 1
    · rw [decide_eq_true h, beq_iff_eq]; omega
    · rw [decide_eq_false h, beq_eq_false_iff_ne]; omega
  generalize decide (z = 1) = z1 at *
  cases nan with
  | true =>
    have HR : Hid (R = 9221120237041090560) := by show _ = _; rw [HV.out]; simp
    clear HV
    cases m <;> cases z1
    all_goals
      go_enter Tryz.func31, Tryz.ntmps31
      go_wp2_with fail
      go_ret
      exact ⟨by rw [HR.out]; rfl, rfl⟩
  | false =>
    cases plus with
    | true =>
      cases below with
      | true =>
        have HR : Hid (R = 9221120237041090560) := by show _ = _; rw [HV.out]; simp
        clear HV
        cases m <;> cases z1
        all_goals
          go_enter Tryz.func31, Tryz.ntmps31
          go_wp2_with fail
          go_ret
          exact ⟨by rw [HR.out]; rfl, rfl⟩
      | false =>
        have HR : Hid (R = 9218868437227405312) := by show _ = _; rw [HV.out]; simp
        clear HV
        cases m <;> cases z1
        all_goals
          go_enter Tryz.func31, Tryz.ntmps31
          go_wp2_with fail
          go_ret
          exact ⟨by rw [HR.out]; rfl, rfl⟩
    | false =>
      cases below with
      | true =>
        have HR : Hid (R = 18442240474082181120) := by show _ = _; rw [HV.out]; simp
        clear HV
        cases m <;> cases z1
        all_goals
          go_enter Tryz.func31, Tryz.ntmps31
          go_wp2_with fail
          go_ret
          exact ⟨by rw [HR.out]; rfl, rfl⟩
      | false =>
        cases hm : (m || z1) with
        | true =>
          rw [hm] at HV
          have HR : Hid (R = N + 9223372036854775808) := by show _ = _; rw [HV.out]; simp
          clear HV hz
          cases m <;> cases z1 <;> cases hm
          all_goals
            go_enter Tryz.func31, Tryz.ntmps31
            go_wp2_with fail
            refine HN.out.mono ?_
            rintro e w' ⟨rfl, rfl⟩
            go_wp2_with fail
            go_ret
            exact ⟨by rw [HR.out]; rfl, rfl⟩
        | false =>
          rw [hm] at HV
          have HR : Hid (R = N) := by show _ = _; rw [HV.out]; simp
          clear HV hs
          cases m <;> cases z1 <;> cases hm
          go_enter Tryz.func31, Tryz.ntmps31
          go_wp2_with fail
          refine HN.out.mono ?_
          rintro e w' ⟨rfl, rfl⟩
          go_wp2_with fail
          go_ret
          exact ⟨by rw [HR.out]; rfl, rfl⟩
end Go.Proofs.YtjcdnaandbockaaGreat
