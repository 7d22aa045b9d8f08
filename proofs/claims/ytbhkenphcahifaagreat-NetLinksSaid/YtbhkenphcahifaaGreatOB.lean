import Derived.Test.YtbhkenphcahifaaGreatNZ
namespace Go.Proofs.YtbhkenphcahifaaGreat
open Go.RowKit Go.Shelf
attribute [local go_sem] Oper.semAt_some
set_option maxRecDepth 100000
set_option maxHeartbeats 4000000

/-- the number of coordinates -/
def numK (l a : List Int) : Nat → Int
  | 0 => 0
  | k + 1 => numK l a k * l.getD k 0 + a.getD k 0
def numI (l a : List Int) : Int := numK l a l.length
theorem numK_bound {l a : List Int} (hb : ∀ i, i < l.length → 2 ≤ l.getD i 0 ∧ l.getD i 0 ≤ 16) (ha : ∀ i, i < l.length → 0 ≤ a.getD i 0 ∧ a.getD i 0 < l.getD i 0) : ∀ k, k ≤ l.length → 0 ≤ numK l a k ∧ numK l a k + 1 ≤ 16 ^ k := by
  intro k
  induction k with
  | zero => intro _; exact ⟨Int.le_refl _, by show (0 : Int) + 1 ≤ 16 ^ 0; decide⟩
  | succ k ih =>
    intro hk
    obtain ⟨i1, i2⟩ := ih (by omega)
    obtain ⟨b1, b2⟩ := hb k (by omega)
    obtain ⟨a1, a2⟩ := ha k (by omega)
    show 0 ≤ numK l a k * l.getD k 0 + a.getD k 0 ∧ numK l a k * l.getD k 0 + a.getD k 0 + 1 ≤ 16 ^ (k + 1)
    rw [Int.pow_succ]
    generalize numK l a k = x at *
    generalize l.getD k 0 = s at *
    generalize a.getD k 0 = c at *
    generalize (16 : Int) ^ k = P at *
    have h1 : 0 ≤ x * s := Int.mul_nonneg i1 (by omega)
    have h2 : (x + 1) * s ≤ P * 16 := Int.mul_le_mul i2 b2 (by omega) (by omega)
    rw [Int.add_mul] at h2
    omega
theorem number_any {w : World} {sa ta : Option Addr} {l a : List Int} (h : Ints w sa l) (ht : Ints w ta a) (hn : a.length = l.length) (h4 : l.length ≤ 4) (hb : ∀ i, i < l.length → 2 ≤ l.getD i 0 ∧ l.getD i 0 ≤ 16) (ha : ∀ i, i < l.length → 0 ≤ a.getD i 0 ∧ a.getD i 0 < l.getD i 0) (sc tc : Nat) (m : Int) :
    Calls Tryz.prog 152 #[.agg #[.slice sa l.length sc, .int .i64 m], .slice ta a.length tc] w fun e w' => e = .returned (.int .i64 (numI l a)) ∧ Below w.heap.size w w' := by
  have HL := Lib.hid h
  have HA := Lib.hid ht
  obtain ⟨N, hN⟩ : ∃ N, N = l.length := ⟨_, rfl⟩
  have HN := Lib.hid hN
  have HN2 : Hid (N = a.length) := by show _ = _; rw [hN, hn]
  have HBD := Lib.hid (numK_bound hb ha)
  have HBB := Lib.hid hb
  have HAA := Lib.hid ha
  obtain ⟨R, hR⟩ : ∃ R, R = numI l a := ⟨_, rfl⟩
  have HR : Hid (R = numK l a N) := by show _ = _; rw [hR, hN]; rfl
  rw [hn, ← hN, ← hR]
  rw [← hN] at h4
  have HB := Lib.hid ((Below.refl w.heap.size w).alloc (Nat.le_refl _) (.cells #[.slice sa N sc, .int .i64 m] 138))
  have c0 := cellR 0 (heap_alloc_new w (.cells #[.slice sa N sc, .int .i64 m] 138)) rfl
  have c1 := cellR 1 (heap_alloc_new w (.cells #[.slice sa N sc, .int .i64 m] 138)) rfl
  clear h ht hn hb ha hN hR
  go_enter Tryz.func152, Tryz.ntmps152
  go_wp2_with fail
  generalize w.alloc (.cells #[.slice sa N sc, .int .i64 m] 138) = X at *
  go_loop [5, 11] (fun p i => ∃ (k : Nat), k ≤ N ∧ i = .int .i64 k ∧ p = .int .i64 (numK l a k)) (fun _ i => N - (intOf i).toNat)
  case atStart => exact ⟨0, Nat.zero_le _, rfl, rfl⟩
  case round =>
    obtain ⟨k, hk, rfl, rfl⟩ := hrel
    by_cases hlt : k < N
    · have k1 : k < l.length := by rw [← HN.out]; exact hlt
      have k2 : k < a.length := by rw [← HN2.out]; exact hlt
      obtain ⟨g, o, rfl, hc⟩ := (HL.out.keep HB.out).at_ (ne_nil_of_lt k1)
      obtain ⟨g2, o2, rfl, hc2⟩ := (HA.out.keep HB.out).at_ (ne_nil_of_lt k2)
      have e0 := hc k k1
      have e1 := hc2 k k2
      have el : l.getD k 0 = l[k] := by simp [List.getD, k1]
      have ea : a.getD k 0 = a[k] := by simp [List.getD, k2]
      have HS : Hid (numK l a (k + 1) = numK l a k * l[k] + a[k]) := by show _ = _; rw [← el, ← ea]; rfl
      obtain ⟨y, hy⟩ : ∃ y, y = numK l a (k + 1) := ⟨_, rfl⟩
      have HY := Lib.hid hy
      obtain ⟨i1, i2⟩ := HBD.out k (by omega)
      obtain ⟨j1, j2⟩ := HBD.out (k + 1) (by rw [← HN.out]; omega)
      obtain ⟨b1, b2⟩ := HBB.out k k1
      obtain ⟨a1, a2⟩ := HAA.out k k1
      rw [el] at b1 b2 a2
      rw [ea] at a1 a2
      have p1 := lim16 (show k ≤ 4 by omega)
      rw [HS.out] at j1 j2
      rw [← hy] at HS
      clear hy
      generalize numK l a k = x at *
      generalize l[k] = s at *
      generalize a[k] = c at *
      have m1 : 0 ≤ x * s := Int.mul_nonneg i1 (by omega)
      have m2 : x * s ≤ 65536 * 16 := Int.mul_le_mul (by omega) b2 (by omega) (by decide)
      have hw1 : wrap64 (x * s) = x * s := by generalize x * s = z at *; unfold wrap64; omega
      have hw2 : wrap64 (x * s + c) = x * s + c := by generalize x * s = z at *; unfold wrap64; omega
      clear hc hc2 k1 k2 el ea j1 j2 m1 m2 p1 i1 i2 b1 b2 a1 a2
      go_wp2_with fail
      go_round
      case rel => exact ⟨k + 1, by omega, by go_num, by rw [← HY.out, HS.out, hw2]⟩
      case measure => simp [intOf]; omega
    · have hkN : k = N := by omega
      subst hkN
      go_wp2_with fail
      go_ret
      exact ⟨by rw [HR.out]; rfl, HB.out⟩
end Go.Proofs.YtbhkenphcahifaaGreat
