import Derived.Test.YtbhkenphcahifaaGreatNQ
import Derived.Test.YtbhkenphcahifaaGreatNX
namespace Go.Proofs.YtbhkenphcahifaaGreat
open Go.RowKit Go.Shelf
attribute [local go_sem] Oper.semAt_some
set_option maxRecDepth 100000
set_option maxHeartbeats 4000000

theorem rDigit_any {w : World} {g o : Nat} (k i : Nat) (b : Int) (hk : 1 ≤ k) (hk2 : k ≤ 16) (hi : i ≤ 5) (ht : Two w g o k b) (sc : Nat) (kind hosts x : Int) (hx : 0 ≤ x) (hx2 : x ≤ 1000000) :
    Calls Tryz.prog 124 #[.agg #[.int .i64 kind, .slice (some ⟨g, o, none⟩) 2 sc, .int .i64 hosts], .int .i64 x, .int .i64 i] w fun e w' => e = .returned (.int .i64 (digI k i x)) ∧ Below w.heap.size w w' := by
  have HB := Lib.hid ((Below.refl w.heap.size w).alloc (Nat.le_refl _) (.cells #[.int .i64 kind, .slice (some ⟨g, o, none⟩) 2 sc, .int .i64 hosts] 34))
  have Q0 := Lib.hid (heap_alloc_new w (.cells #[.int .i64 kind, .slice (some ⟨g, o, none⟩) 2 sc, .int .i64 hosts] 34))
  have c0 := cellR 0 Q0.out rfl
  have c1 := cellR 1 Q0.out rfl
  have c2 := cellR 2 Q0.out rfl
  obtain ⟨e0, e1⟩ := ht.keep HB.out
  have W3 := same_of (fun W => rpower_any k i hk2 hi W)
  have hD : digI k i x = x / ((k ^ i : Nat) : Int) % (k : Int) := rfl
  have hp : (1 : Int) ≤ ((k ^ i : Nat) : Int) := by have := pow_pos' (i := i) hk; omega
  have hdiv : wrap64 (x.tdiv ((k ^ i : Nat) : Int)) = x / ((k ^ i : Nat) : Int) := by
    rw [Int.tdiv_eq_ediv_of_nonneg hx]
    have h1 := Int.ediv_nonneg hx (show 0 ≤ ((k ^ i : Nat) : Int) by omega)
    have h2 := Int.ediv_le_self ((k ^ i : Nat) : Int) hx
    unfold wrap64; omega
  have hmod : (x / ((k ^ i : Nat) : Int)).tmod (k : Int) = x / ((k ^ i : Nat) : Int) % (k : Int) := Int.tmod_eq_emod_of_nonneg (Int.ediv_nonneg hx (by omega))
  rw [hD]
  generalize ((k ^ i : Nat) : Int) = P at *
  have hP0 : P ≠ 0 := by omega
  have hk0 : (k : Int) ≠ 0 := by omega
  clear hD hk hk2 hi hp hx hx2 ht Q0
  go_enter Tryz.func124, Tryz.ntmps124
  go_wp2_with fail
  generalize w.alloc (.cells #[.int .i64 kind, .slice (some ⟨g, o, none⟩) 2 sc, .int .i64 hosts] 34) = X at *
  go_quiet (first | (go_at_call 63; refine Calls.quiet_of_same (W3.out _)))
  go_wp2_with fail
  go_ret
  exact ⟨by first | (show Ending.returned (.int .i64 _) = _; rw [hdiv, hmod]) | rfl, below_drewN HB.out _⟩
theorem rPort_any {w : World} {g o : Nat} (a h : Int) (ha : 1 ≤ a) (ha2 : a ≤ 16) (hh : 1 ≤ h) (hh2 : h ≤ 4) (ht : Two w g o a h) (sc : Nat) (kind hosts gr m : Int) (hg0 : 0 ≤ gr) (hg1 : gr ≤ 1000) (hm0 : 0 ≤ m) (hm1 : m ≤ 1000) :
    Calls Tryz.prog 119 #[.agg #[.int .i64 kind, .slice (some ⟨g, o, none⟩) 2 sc, .int .i64 hosts], .int .i64 gr, .int .i64 m] w fun e w' => e = .returned (.int .i64 (gr * a + m / h)) ∧ Below w.heap.size w w' := by
  have HB := Lib.hid ((Below.refl w.heap.size w).alloc (Nat.le_refl _) (.cells #[.int .i64 kind, .slice (some ⟨g, o, none⟩) 2 sc, .int .i64 hosts] 34))
  have Q0 := Lib.hid (heap_alloc_new w (.cells #[.int .i64 kind, .slice (some ⟨g, o, none⟩) 2 sc, .int .i64 hosts] 34))
  have c0 := cellR 0 Q0.out rfl
  have c1 := cellR 1 Q0.out rfl
  have c2 := cellR 2 Q0.out rfl
  obtain ⟨e0, e1⟩ := ht.keep HB.out
  have hdiv : wrap64 (m.tdiv h) = m / h := by
    rw [Int.tdiv_eq_ediv_of_nonneg hm0]
    have h1 := Int.ediv_nonneg hm0 (show 0 ≤ h by omega)
    have h2 := Int.ediv_le_self h hm0
    unfold wrap64; omega
  have hq0 := Int.ediv_nonneg hm0 (show 0 ≤ h by omega)
  have hq1 := Int.ediv_le_self h hm0
  have hga : 0 ≤ gr * a ∧ gr * a ≤ 16000 := by
    have h1 := Int.mul_le_mul hg1 ha2 (by omega) (by decide)
    have h2 := Int.mul_nonneg hg0 (show 0 ≤ a by omega)
    omega
  have hmul : wrap64 (gr * a) = gr * a := by generalize gr * a = z at *; unfold wrap64; omega
  have hadd : wrap64 (gr * a + m / h) = gr * a + m / h := by generalize gr * a = z at *; generalize m / h = y at *; unfold wrap64; omega
  have hh0 : h ≠ 0 := by omega
  clear ha ha2 hh hh2 hg0 hg1 hm0 hm1 hq0 hq1 hga ht Q0
  go_enter Tryz.func119, Tryz.ntmps119
  go_wp2_with fail
  generalize w.alloc (.cells #[.int .i64 kind, .slice (some ⟨g, o, none⟩) 2 sc, .int .i64 hosts] 34) = X at *
  go_quiet (fail)
  go_wp2_with fail
  go_ret
  exact ⟨by first | (show Ending.returned (.int .i64 _) = _; rw [hdiv, hmul, hadd]) | (show Ending.returned (.int .i64 _) = _; rw [hadd]) | rfl, below_drewN HB.out _⟩
theorem rWith_any {w : World} {g o : Nat} (k i : Nat) (b : Int) (hk : 1 ≤ k) (hk2 : k ≤ 16) (hi : i ≤ 5) (ht : Two w g o k b) (sc : Nat) (kind hosts x d : Int) (hx : 0 ≤ x) (hx2 : x ≤ 1000) (hd : 0 ≤ d) (hd2 : d ≤ 16) :
    Calls Tryz.prog 118 #[.agg #[.int .i64 kind, .slice (some ⟨g, o, none⟩) 2 sc, .int .i64 hosts], .int .i64 x, .int .i64 i, .int .i64 d] w fun e w' => e = .returned (.int .i64 (wthI k i x d)) ∧ Below w.heap.size w w' := by
  have HB := Lib.hid ((Below.refl w.heap.size w).alloc (Nat.le_refl _) (.cells #[.int .i64 kind, .slice (some ⟨g, o, none⟩) 2 sc, .int .i64 hosts] 34))
  have Q0 := Lib.hid (heap_alloc_new w (.cells #[.int .i64 kind, .slice (some ⟨g, o, none⟩) 2 sc, .int .i64 hosts] 34))
  have c0 := cellR 0 Q0.out rfl
  have c1 := cellR 1 Q0.out rfl
  have c2 := cellR 2 Q0.out rfl
  obtain ⟨e0, e1⟩ := ht.keep HB.out
  have HT2 : Hid (∀ W, Below w.heap.size w W → Two W g o k b) := fun W hb => ht.keep hb
  have HDG : Hid (∀ W, Below w.heap.size w W → Calls Tryz.prog 124 #[.agg #[.int .i64 kind, .slice (some ⟨g, o, none⟩) 2 sc, .int .i64 hosts], .int .i64 x, .int .i64 i] W fun e w' => e = .returned (.int .i64 (digI k i x)) ∧ Below W.heap.size W w') := fun W hb => rDigit_any k i b hk hk2 hi (ht.keep hb) sc kind hosts x hx (by omega)
  have HP := Lib.hid (fun W => rpower_any k i hk2 hi W)
  obtain ⟨g1, g2⟩ := dig_bound (k := k) (i := i) (x := x) hk
  have hp := pow_small hk2 hi
  have HW : wthI k i x d = x + (d - digI k i x) * ((k ^ i : Nat) : Int) := rfl
  have hm1 : -17000000 ≤ (d - digI k i x) * ((k ^ i : Nat) : Int) := (wth_mul hk hk2 hi hd (by omega)).1
  have hm2 : (d - digI k i x) * ((k ^ i : Nat) : Int) ≤ 17000000 := by
    have h := Int.mul_le_mul_of_nonneg_right (show d - digI k i x ≤ (16 : Int) by omega) (show (0 : Int) ≤ ((k ^ i : Nat) : Int) by omega)
    omega
  have ES := Lib.hid (fun W => i64_sub d (digI k i x) (by omega) (by omega) W)
  have EM := Lib.hid (fun W => i64_mul (d - digI k i x) ((k ^ i : Nat) : Int) (by omega) (by omega) W)
  have EA := Lib.hid (fun W => i64_add x ((d - digI k i x) * ((k ^ i : Nat) : Int)) (by omega) (by omega) W)
  rw [HW]
  generalize ((k ^ i : Nat) : Int) = p at *
  generalize digI k i x = dg at *
  generalize (d - dg) * p = m at *
  clear HW hm1 hm2 hp g1 g2 hk hk2 hi hx hx2 hd hd2
  go_enter Tryz.func118, Tryz.ntmps118
  go_wp2_with fail
  generalize w.alloc (.cells #[.int .i64 kind, .slice (some ⟨g, o, none⟩) 2 sc, .int .i64 hosts] 34) = X at *
  have C1 := Lib.hid c1
  have E0 := Lib.hid e0
  clear c0 c1 c2 e0 e1 ht
  refine (wpIn_wide (n := 0)).1 ?_
  refine region_det (by kernel_rfl) (I := fun listed a' w' => Hid (Below X.heap.size X w') ∧ a' = ⟨#[Value.agg #[.int .i64 kind, .slice (some ⟨g, o, none⟩) 2 sc, .int .i64 hosts], Value.int IntKind.i64 (x), Value.int IntKind.i64 (i), Value.int IntKind.i64 (d), Value.pointer (some ⟨w.heap.size, 0, none⟩), undef, undef, undef, (if listed.getD 15 false = true then Value.int IntKind.i64 (x + m) else Value.int IntKind.i64 (0)), (if listed.getD 0 false = true then Value.int IntKind.i64 (x) else undef), (if listed.getD 1 false = true then Value.int IntKind.i64 (d) else undef), (if listed.getD 2 false = true then Value.agg #[.int .i64 kind, .slice (some ⟨g, o, none⟩) 2 sc, .int .i64 hosts] else undef), (if listed.getD 3 false = true then Value.int IntKind.i64 (x) else undef), (if listed.getD 4 false = true then Value.int IntKind.i64 (i) else undef), (if listed.getD 5 false = true then Value.int IntKind.i64 (dg) else undef), (if listed.getD 6 false = true then Value.int IntKind.i64 (d - dg) else undef), (if listed.getD 7 false = true then Value.pointer (some ⟨w.heap.size, 1, none⟩) else undef), (if listed.getD 8 false = true then Value.slice (some ⟨g, o, none⟩) 2 sc else undef), (if listed.getD 9 false = true then Value.pointer (some ⟨g, o, none⟩) else undef), (if listed.getD 10 false = true then Value.int IntKind.i64 ((k : Int)) else undef), (if listed.getD 11 false = true then Value.int IntKind.i64 (i) else undef), (if listed.getD 12 false = true then Value.int IntKind.i64 (p) else undef), (if listed.getD 13 false = true then Value.int IntKind.i64 (m) else undef), (if listed.getD 14 false = true then Value.int IntKind.i64 (x + m) else undef)], []⟩) (hup_check (by kernel_rfl)) ?h0 ?step ?fin
  case h0 => exact ⟨(Below.refl _ _).drew, rfl⟩
  case step =>
    intro listed a' w' i hs hbi hdep hi ⟨IB, ha⟩
    obtain ⟨ls⟩ := listed
    match ls, hs with
    | [x0, x1, x2, x3, x4, x5, x6, x7, x8, x9, x10, x11, x12, x13, x14, x15], _ =>
    subst ha
    have hi' : i = 0 ∨ i = 1 ∨ i = 2 ∨ i = 3 ∨ i = 4 ∨ i = 5 ∨ i = 6 ∨ i = 7 ∨ i = 8 ∨ i = 9 ∨ i = 10 ∨ i = 11 ∨ i = 12 ∨ i = 13 ∨ i = 14 ∨ i = 15 := by simp at hi; omega
    rcases hi' with rfl | rfl | rfl | rfl | rfl | rfl | rfl | rfl | rfl | rfl | rfl | rfl | rfl | rfl | rfl | rfl
    · obtain rfl : x0 = false := by simpa using hbi
      refine wpOpIn_plain rfl rfl rfl ?_
      exact ⟨IB, rfl⟩
    · obtain rfl : x1 = false := by simpa using hbi
      refine wpOpIn_plain rfl rfl rfl ?_
      exact ⟨IB, rfl⟩
    · obtain rfl : x2 = false := by simpa using hbi
      refine wpOpIn_load_row rfl rfl 34 _ rfl w.heap.size rfl 34 _ _ _ (heapB IB.out Q0.out) Tryz.underlying34 rfl info30 ?_
      exact ⟨IB, rfl⟩
    · obtain rfl : x3 = false := by simpa using hbi
      refine wpOpIn_plain rfl rfl rfl ?_
      exact ⟨IB, rfl⟩
    · obtain rfl : x4 = false := by simpa using hbi
      refine wpOpIn_plain rfl rfl rfl ?_
      exact ⟨IB, rfl⟩
    · obtain rfl : x5 = false := by simpa using hbi
      obtain rfl : x2 = true := hdep _ rfl ⟨2, .data⟩ (by simp) rfl
      obtain rfl : x3 = true := hdep _ rfl ⟨3, .data⟩ (by simp) rfl
      obtain rfl : x4 = true := hdep _ rfl ⟨4, .data⟩ (by simp) rfl
      refine wpOpIn_call (args := #[Value.agg #[.int .i64 kind, .slice (some ⟨g, o, none⟩) 2 sc, .int .i64 hosts], Value.int IntKind.i64 (x), Value.int IntKind.i64 (i)]) rfl rfl (sem_call3 rfl rfl rfl rfl (enters_of Tryz.func124 (by kernel_rfl) rfl)) (HDG.out w' (HB.out.trans (IB.out.mono HB.out.size))) ?_
      rintro e V ⟨rfl, hb⟩
      exact ⟨_, rfl, (IB.out.trans (hb.mono IB.out.size)), rfl⟩
    · obtain rfl : x6 = false := by simpa using hbi
      obtain rfl : x1 = true := hdep _ rfl ⟨1, .data⟩ (by simp) rfl
      obtain rfl : x5 = true := hdep _ rfl ⟨5, .data⟩ (by simp) rfl
      refine wpOpIn_plain (v := Value.int IntKind.i64 (d - dg)) (w' := w') rfl rfl (sem_bin (vx := Value.int IntKind.i64 (d)) (vy := Value.int IntKind.i64 (dg)) rfl rfl rfl rfl (ES.out w')) ?_
      exact ⟨IB, rfl⟩
    · obtain rfl : x7 = false := by simpa using hbi
      refine wpOpIn_plain (v := Value.pointer (some ⟨w.heap.size, 1, none⟩)) (w' := w') rfl rfl (by simp [Oper.semAt, execOp, go_sem]) ?_
      exact ⟨IB, rfl⟩
    · obtain rfl : x8 = false := by simpa using hbi
      obtain rfl : x7 = true := hdep _ rfl ⟨7, .data⟩ (by simp) rfl
      have c9 := kcell IB.out C1.out
      refine wpOpIn_plain (v := Value.slice (some ⟨g, o, none⟩) 2 sc) (w' := w') rfl rfl (by simp [Oper.semAt, execOp, go_sem, c9]) ?_
      exact ⟨IB, rfl⟩
    · obtain rfl : x9 = false := by simpa using hbi
      obtain rfl : x8 = true := hdep _ rfl ⟨8, .data⟩ (by simp) rfl
      refine wpOpIn_plain (v := Value.pointer (some ⟨g, o, none⟩)) (w' := w') rfl rfl (by simp [Oper.semAt, execOp, go_sem]) ?_
      exact ⟨IB, rfl⟩
    · obtain rfl : x10 = false := by simpa using hbi
      obtain rfl : x9 = true := hdep _ rfl ⟨9, .data⟩ (by simp) rfl
      have c9 := kcell IB.out E0.out
      refine wpOpIn_plain (v := Value.int IntKind.i64 ((k : Int))) (w' := w') rfl rfl (by simp [Oper.semAt, execOp, go_sem, c9]) ?_
      exact ⟨IB, rfl⟩
    · obtain rfl : x11 = false := by simpa using hbi
      refine wpOpIn_plain rfl rfl rfl ?_
      exact ⟨IB, rfl⟩
    · obtain rfl : x12 = false := by simpa using hbi
      obtain rfl : x10 = true := hdep _ rfl ⟨10, .data⟩ (by simp) rfl
      obtain rfl : x11 = true := hdep _ rfl ⟨11, .data⟩ (by simp) rfl
      refine wpOpIn_call (args := #[Value.int IntKind.i64 ((k : Int)), Value.int IntKind.i64 (i)]) rfl rfl (sem_call2 rfl rfl rfl (enters_of Tryz.func63 (by kernel_rfl) rfl)) (HP.out w') ?_
      rintro e V ⟨rfl, rfl⟩
      exact ⟨_, rfl, IB, rfl⟩
    · obtain rfl : x13 = false := by simpa using hbi
      obtain rfl : x6 = true := hdep _ rfl ⟨6, .data⟩ (by simp) rfl
      obtain rfl : x12 = true := hdep _ rfl ⟨12, .data⟩ (by simp) rfl
      refine wpOpIn_plain (v := Value.int IntKind.i64 (m)) (w' := w') rfl rfl (sem_bin (vx := Value.int IntKind.i64 (d - dg)) (vy := Value.int IntKind.i64 (p)) rfl rfl rfl rfl (EM.out w')) ?_
      exact ⟨IB, rfl⟩
    · obtain rfl : x14 = false := by simpa using hbi
      obtain rfl : x0 = true := hdep _ rfl ⟨0, .data⟩ (by simp) rfl
      obtain rfl : x13 = true := hdep _ rfl ⟨13, .data⟩ (by simp) rfl
      refine wpOpIn_plain (v := Value.int IntKind.i64 (x + m)) (w' := w') rfl rfl (sem_bin (vx := Value.int IntKind.i64 (x)) (vy := Value.int IntKind.i64 (m)) rfl rfl rfl rfl (EA.out w')) ?_
      exact ⟨IB, rfl⟩
    · obtain rfl : x15 = false := by simpa using hbi
      obtain rfl : x14 = true := hdep _ rfl ⟨14, .data⟩ (by simp) rfl
      refine wpOpIn_plain rfl rfl rfl ?_
      exact ⟨IB, rfl⟩
  case fin =>
  intro listed a' Z hs hall ⟨IB, ha⟩
  obtain ⟨ls⟩ := listed
  match ls, hs with
  | [x0, x1, x2, x3, x4, x5, x6, x7, x8, x9, x10, x11, x12, x13, x14, x15], _ =>
  obtain rfl : x0 = true := hall 0 (by simp)
  obtain rfl : x1 = true := hall 1 (by simp)
  obtain rfl : x2 = true := hall 2 (by simp)
  obtain rfl : x3 = true := hall 3 (by simp)
  obtain rfl : x4 = true := hall 4 (by simp)
  obtain rfl : x5 = true := hall 5 (by simp)
  obtain rfl : x6 = true := hall 6 (by simp)
  obtain rfl : x7 = true := hall 7 (by simp)
  obtain rfl : x8 = true := hall 8 (by simp)
  obtain rfl : x9 = true := hall 9 (by simp)
  obtain rfl : x10 = true := hall 10 (by simp)
  obtain rfl : x11 = true := hall 11 (by simp)
  obtain rfl : x12 = true := hall 12 (by simp)
  obtain rfl : x13 = true := hall 13 (by simp)
  obtain rfl : x14 = true := hall 14 (by simp)
  obtain rfl : x15 = true := hall 15 (by simp)
  subst ha
  have HZ : Hid (Below X.heap.size X Z) := IB
  clear IB hall hs
  dsimp only [Exit.then, Exit.inBlock]
  go_wp2_with fail
  go_ret
  exact ⟨rfl, HB.out.trans (HZ.out.mono HB.out.size)⟩
end Go.Proofs.YtbhkenphcahifaaGreat
