import Derived.Test.YtbhkenphcahifaaGreatNP
namespace Go.Proofs.YtbhkenphcahifaaGreat
open Go.RowKit Go.Shelf
attribute [local go_sem] Oper.semAt_some
set_option maxRecDepth 100000
set_option maxHeartbeats 4000000

theorem sem_call3 {P : Program} {o : Oper} {a : Act} {w : World} {g : FuncId} {x y z : Operand} {ts : Array TypeId} {vx vy vz : Value} (hop : o.op = .call { callee := .value (.func g), args := #[x, y, z], argTypes := ts }) (hx : a.eval x = vx) (hy : a.eval y = vy) (hz : a.eval z = vz)
    (eg : ∀ args w, (callFunc g args).run P w = .ok (.enter g args) w) : (o.semAt none a.eval).run P w = .ok (.enter g #[vx, vy, vz]) w :=
  sem_call hop (by simp [hx, hy, hz]) eg
theorem i64_mul (x y : Int) (h1 : -1000000000 ≤ x * y) (h2 : x * y ≤ 1000000000) (w : World) : (binOp .mul 3 (.int .i64 x) (.int .i64 y)).run Tryz.prog w = .ok (.int .i64 (x * y)) w := by
  have hw : IntKind.i64.wrap (x * y) = x * y := by rw [IntKind.wrap_i64]; generalize x * y = z at *; omega
  simp [go_sem, hw]
theorem i64_add (x y : Int) (h1 : -1000000000 ≤ x + y) (h2 : x + y ≤ 1000000000) (w : World) : (binOp .add 3 (.int .i64 x) (.int .i64 y)).run Tryz.prog w = .ok (.int .i64 (x + y)) w := by
  have hw : IntKind.i64.wrap (x + y) = x + y := by rw [IntKind.wrap_i64]; generalize x + y = z at *; omega
  simp [go_sem, hw]
theorem i64_sub (x y : Int) (h1 : -1000000000 ≤ x - y) (h2 : x - y ≤ 1000000000) (w : World) : (binOp .sub 3 (.int .i64 x) (.int .i64 y)).run Tryz.prog w = .ok (.int .i64 (x - y)) w := by
  have hw : IntKind.i64.wrap (x - y) = x - y := by rw [IntKind.wrap_i64]; generalize x - y = z at *; omega
  simp [go_sem, hw]
/-- a word without its last digits, a digit, a word with another digit -/
def digI (k i : Nat) (x : Int) : Int := x / ((k ^ i : Nat) : Int) % (k : Int)
def wthI (k i : Nat) (x d : Int) : Int := x + (d - digI k i x) * ((k ^ i : Nat) : Int)
theorem dig_bound {k i : Nat} {x : Int} (hk : 1 ≤ k) : 0 ≤ digI k i x ∧ digI k i x < k := ⟨Int.emod_nonneg _ (by omega), Int.emod_lt_of_pos _ (by omega)⟩
theorem pow_pos' {k i : Nat} (hk : 1 ≤ k) : 1 ≤ k ^ i := Nat.one_le_pow _ _ hk
theorem wth_mul {k i : Nat} {x d : Int} (hk : 1 ≤ k) (hk2 : k ≤ 16) (hi : i ≤ 5) (hd : 0 ≤ d) (hd2 : d ≤ 1000) : -17000000 ≤ (d - digI k i x) * ((k ^ i : Nat) : Int) ∧ (d - digI k i x) * ((k ^ i : Nat) : Int) ≤ 1048576000 := by
  have hp := pow_small hk2 hi
  obtain ⟨g1, g2⟩ := dig_bound (k := k) (i := i) (x := x) hk
  generalize digI k i x = dg at *
  generalize k ^ i = p at *
  constructor
  · have h := Int.mul_le_mul_of_nonneg_right (show (-16 : Int) ≤ d - dg by omega) (show (0 : Int) ≤ (p : Int) by omega)
    omega
  · have h := Int.mul_le_mul_of_nonneg_right (show d - dg ≤ (1000 : Int) by omega) (show (0 : Int) ≤ (p : Int) by omega)
    omega
theorem without_any (k i : Nat) (hk : 1 ≤ k) (hk2 : k ≤ 16) (hi : i ≤ 5) (lv ww x : Int) (hx : 0 ≤ x) (hx2 : x ≤ 1000000) (w : World) :
    Calls Tryz.prog 190 #[.agg #[.int .i64 (k : Int), .int .i64 lv, .int .i64 ww], .int .i64 x, .int .i64 i] w fun e w' => e = .returned (.int .i64 (x / ((k ^ i : Nat) : Int))) ∧ Below w.heap.size w w' := by
  have HB := Lib.hid ((Below.refl w.heap.size w).alloc (Nat.le_refl _) (.cells #[.int .i64 (k : Int), .int .i64 lv, .int .i64 ww] 142))
  have Q0 := Lib.hid (heap_alloc_new w (.cells #[.int .i64 (k : Int), .int .i64 lv, .int .i64 ww] 142))
  have c0 := cellR 0 Q0.out rfl
  have c1 := cellR 1 Q0.out rfl
  have c2 := cellR 2 Q0.out rfl
  have W3 := Lib.hid (fun W => power_any k i hk2 hi W)
  have hp := pow_pos' (i := i) hk
  generalize k ^ i = p at *
  have hne : (p : Int) ≠ 0 := by omega
  have hdle := Int.ediv_le_self (p : Int) hx
  have hdnn := Int.ediv_nonneg hx (show (0 : Int) ≤ (p : Int) by omega)
  have hw : wrap64 (x.tdiv (p : Int)) = x / (p : Int) := by rw [Int.tdiv_eq_ediv_of_nonneg hx]; unfold wrap64; omega
  clear Q0 hp
  go_enter Tryz.func190, Tryz.ntmps190
  go_wp2_with fail
  generalize w.alloc (.cells #[.int .i64 (k : Int), .int .i64 lv, .int .i64 ww] 142) = X at *
  refine (W3.out _).mono ?_
  rintro e w1 ⟨rfl, rfl⟩
  clear W3
  go_wp2_with fail
  go_ret
  exact ⟨rfl, HB.out⟩
theorem digit_any (k i : Nat) (hk : 1 ≤ k) (hk2 : k ≤ 16) (hi : i ≤ 5) (lv ww x : Int) (hx : 0 ≤ x) (hx2 : x ≤ 1000000) (w : World) :
    Calls Tryz.prog 191 #[.agg #[.int .i64 (k : Int), .int .i64 lv, .int .i64 ww], .int .i64 x, .int .i64 i] w fun e w' => e = .returned (.int .i64 (digI k i x)) ∧ Below w.heap.size w w' := by
  have HB := Lib.hid ((Below.refl w.heap.size w).alloc (Nat.le_refl _) (.cells #[.int .i64 (k : Int), .int .i64 lv, .int .i64 ww] 142))
  have Q0 := Lib.hid (heap_alloc_new w (.cells #[.int .i64 (k : Int), .int .i64 lv, .int .i64 ww] 142))
  have c0 := cellR 0 Q0.out rfl
  have c1 := cellR 1 Q0.out rfl
  have c2 := cellR 2 Q0.out rfl
  have HW := Lib.hid (fun W => without_any k i hk hk2 hi lv ww x hx hx2 W)
  have C0 := Lib.hid c0
  have hq0 := Int.ediv_nonneg hx (show (0 : Int) ≤ ((k ^ i : Nat) : Int) by omega)
  have ER := Lib.hid (fun W => i64_rem (x / ((k ^ i : Nat) : Int)) (k : Int) hq0 (by omega) W)
  have HD : digI k i x = x / ((k ^ i : Nat) : Int) % (k : Int) := rfl
  rw [← HD] at ER
  clear HD hq0
  generalize digI k i x = dg at *
  generalize x / ((k ^ i : Nat) : Int) = q at *
  go_enter Tryz.func191, Tryz.ntmps191
  go_wp2_with fail
  generalize w.alloc (.cells #[.int .i64 (k : Int), .int .i64 lv, .int .i64 ww] 142) = X at *
  clear c0 c1 c2
  refine (wpIn_wide (n := 0)).1 ?_
  refine region_det (by kernel_rfl) (I := fun listed a' w' => Hid (Below X.heap.size X w') ∧ a' = ⟨#[Value.agg #[.int .i64 (k : Int), .int .i64 lv, .int .i64 ww], Value.int IntKind.i64 (x), Value.int IntKind.i64 (i), Value.pointer (some ⟨w.heap.size, 0, none⟩), undef, undef, (if listed.getD 7 false = true then Value.int IntKind.i64 (dg) else Value.int IntKind.i64 (0)), (if listed.getD 0 false = true then Value.agg #[.int .i64 (k : Int), .int .i64 lv, .int .i64 ww] else undef), (if listed.getD 1 false = true then Value.int IntKind.i64 (x) else undef), (if listed.getD 2 false = true then Value.int IntKind.i64 (i) else undef), (if listed.getD 3 false = true then Value.int IntKind.i64 (q) else undef), (if listed.getD 4 false = true then Value.pointer (some ⟨w.heap.size, 0, none⟩) else undef), (if listed.getD 5 false = true then Value.int IntKind.i64 ((k : Int)) else undef), (if listed.getD 6 false = true then Value.int IntKind.i64 (dg) else undef)], []⟩) (hup_check (by kernel_rfl)) ?h0 ?step ?fin
  case h0 => exact ⟨(Below.refl _ _).drew, rfl⟩
  case step =>
    intro listed a' w' i hs hbi hdep hi ⟨IB, ha⟩
    obtain ⟨ls⟩ := listed
    match ls, hs with
    | [x0, x1, x2, x3, x4, x5, x6, x7], _ =>
    subst ha
    have hi' : i = 0 ∨ i = 1 ∨ i = 2 ∨ i = 3 ∨ i = 4 ∨ i = 5 ∨ i = 6 ∨ i = 7 := by simp at hi; omega
    rcases hi' with rfl | rfl | rfl | rfl | rfl | rfl | rfl | rfl
    · obtain rfl : x0 = false := by simpa using hbi
      refine wpOpIn_load_row rfl rfl 142 _ rfl w.heap.size rfl 142 _ _ _ (heapB IB.out Q0.out) Tryz.underlying142 rfl info109 ?_
      exact ⟨IB, rfl⟩
    · obtain rfl : x1 = false := by simpa using hbi
      refine wpOpIn_plain rfl rfl rfl ?_
      exact ⟨IB, rfl⟩
    · obtain rfl : x2 = false := by simpa using hbi
      refine wpOpIn_plain rfl rfl rfl ?_
      exact ⟨IB, rfl⟩
    · obtain rfl : x3 = false := by simpa using hbi
      obtain rfl : x0 = true := hdep _ rfl ⟨0, .data⟩ (by simp) rfl
      obtain rfl : x1 = true := hdep _ rfl ⟨1, .data⟩ (by simp) rfl
      obtain rfl : x2 = true := hdep _ rfl ⟨2, .data⟩ (by simp) rfl
      refine wpOpIn_call (args := #[Value.agg #[.int .i64 (k : Int), .int .i64 lv, .int .i64 ww], Value.int IntKind.i64 (x), Value.int IntKind.i64 (i)]) rfl rfl (sem_call3 rfl rfl rfl rfl (enters_of Tryz.func190 (by kernel_rfl) rfl)) (HW.out w') ?_
      rintro e V ⟨rfl, hb⟩
      exact ⟨_, rfl, (IB.out.trans (hb.mono IB.out.size)), rfl⟩
    · obtain rfl : x4 = false := by simpa using hbi
      refine wpOpIn_plain (v := Value.pointer (some ⟨w.heap.size, 0, none⟩)) (w' := w') rfl rfl (by simp [Oper.semAt, execOp, go_sem]) ?_
      exact ⟨IB, rfl⟩
    · obtain rfl : x5 = false := by simpa using hbi
      obtain rfl : x4 = true := hdep _ rfl ⟨4, .data⟩ (by simp) rfl
      have c9 := kcell IB.out C0.out
      refine wpOpIn_plain (v := Value.int IntKind.i64 ((k : Int))) (w' := w') rfl rfl (by simp [Oper.semAt, execOp, go_sem, c9]) ?_
      exact ⟨IB, rfl⟩
    · obtain rfl : x6 = false := by simpa using hbi
      obtain rfl : x3 = true := hdep _ rfl ⟨3, .data⟩ (by simp) rfl
      obtain rfl : x5 = true := hdep _ rfl ⟨5, .data⟩ (by simp) rfl
      refine wpOpIn_plain (v := Value.int IntKind.i64 (dg)) (w' := w') rfl rfl (sem_bin (vx := Value.int IntKind.i64 (q)) (vy := Value.int IntKind.i64 ((k : Int))) rfl rfl rfl rfl (ER.out w')) ?_
      exact ⟨IB, rfl⟩
    · obtain rfl : x7 = false := by simpa using hbi
      obtain rfl : x6 = true := hdep _ rfl ⟨6, .data⟩ (by simp) rfl
      refine wpOpIn_plain rfl rfl rfl ?_
      exact ⟨IB, rfl⟩
  case fin =>
  intro listed a' Z hs hall ⟨IB, ha⟩
  obtain ⟨ls⟩ := listed
  match ls, hs with
  | [x0, x1, x2, x3, x4, x5, x6, x7], _ =>
  obtain rfl : x0 = true := hall 0 (by simp)
  obtain rfl : x1 = true := hall 1 (by simp)
  obtain rfl : x2 = true := hall 2 (by simp)
  obtain rfl : x3 = true := hall 3 (by simp)
  obtain rfl : x4 = true := hall 4 (by simp)
  obtain rfl : x5 = true := hall 5 (by simp)
  obtain rfl : x6 = true := hall 6 (by simp)
  obtain rfl : x7 = true := hall 7 (by simp)
  subst ha
  have HZ : Hid (Below X.heap.size X Z) := IB
  clear IB hall hs
  dsimp only [Exit.then, Exit.inBlock]
  go_wp2_with fail
  go_ret
  exact ⟨rfl, HB.out.trans (HZ.out.mono HB.out.size)⟩
theorem with_any (k i : Nat) (hk : 1 ≤ k) (hk2 : k ≤ 16) (hi : i ≤ 5) (lv ww x d : Int) (hx : 0 ≤ x) (hx2 : x ≤ 1000) (hd : 0 ≤ d) (hd2 : d ≤ 16) (w : World) :
    Calls Tryz.prog 188 #[.agg #[.int .i64 (k : Int), .int .i64 lv, .int .i64 ww], .int .i64 x, .int .i64 i, .int .i64 d] w fun e w' => e = .returned (.int .i64 (wthI k i x d)) ∧ Below w.heap.size w w' := by
  have HB := Lib.hid ((Below.refl w.heap.size w).alloc (Nat.le_refl _) (.cells #[.int .i64 (k : Int), .int .i64 lv, .int .i64 ww] 142))
  have Q0 := Lib.hid (heap_alloc_new w (.cells #[.int .i64 (k : Int), .int .i64 lv, .int .i64 ww] 142))
  have c0 := cellR 0 Q0.out rfl
  have c1 := cellR 1 Q0.out rfl
  have c2 := cellR 2 Q0.out rfl
  have HD := Lib.hid (fun W => digit_any k i hk hk2 hi lv ww x hx (by omega) W)
  have HP := Lib.hid (fun W => power_any k i hk2 hi W)
  have C0 := Lib.hid c0
  obtain ⟨g1, g2⟩ := dig_bound (k := k) (i := i) (x := x) hk
  have hp := pow_small hk2 hi
  have HW : wthI k i x d = x + (d - digI k i x) * ((k ^ i : Nat) : Int) := rfl
  rw [HW]
  have hm1 : -17000000 ≤ (d - digI k i x) * ((k ^ i : Nat) : Int) := (wth_mul hk hk2 hi hd (by omega)).1
  have hm2 : (d - digI k i x) * ((k ^ i : Nat) : Int) ≤ 17000000 := by
    have h := Int.mul_le_mul_of_nonneg_right (show d - digI k i x ≤ (16 : Int) by omega) (show (0 : Int) ≤ ((k ^ i : Nat) : Int) by omega)
    omega
  have ES := Lib.hid (fun W => i64_sub d (digI k i x) (by omega) (by omega) W)
  have EM := Lib.hid (fun W => i64_mul (d - digI k i x) ((k ^ i : Nat) : Int) (by omega) (by omega) W)
  have EA := Lib.hid (fun W => i64_add x ((d - digI k i x) * ((k ^ i : Nat) : Int)) (by omega) (by omega) W)
  generalize (d - digI k i x) * ((k ^ i : Nat) : Int) = m at *
  generalize digI k i x = dg at *
  generalize k ^ i = p at *
  clear HW hm1 hm2 g1 g2 hp
  go_enter Tryz.func188, Tryz.ntmps188
  go_wp2_with fail
  generalize w.alloc (.cells #[.int .i64 (k : Int), .int .i64 lv, .int .i64 ww] 142) = X at *
  clear c0 c1 c2
  refine (wpIn_wide (n := 0)).1 ?_
  refine region_det (by kernel_rfl) (I := fun listed a' w' => Hid (Below X.heap.size X w') ∧ a' = ⟨#[Value.agg #[.int .i64 (k : Int), .int .i64 lv, .int .i64 ww], Value.int IntKind.i64 (x), Value.int IntKind.i64 (i), Value.int IntKind.i64 (d), Value.pointer (some ⟨w.heap.size, 0, none⟩), undef, undef, undef, (if listed.getD 13 false = true then Value.int IntKind.i64 (x + m) else Value.int IntKind.i64 (0)), (if listed.getD 0 false = true then Value.int IntKind.i64 (x) else undef), (if listed.getD 1 false = true then Value.int IntKind.i64 (d) else undef), (if listed.getD 2 false = true then Value.agg #[.int .i64 (k : Int), .int .i64 lv, .int .i64 ww] else undef), (if listed.getD 3 false = true then Value.int IntKind.i64 (x) else undef), (if listed.getD 4 false = true then Value.int IntKind.i64 (i) else undef), (if listed.getD 5 false = true then Value.int IntKind.i64 (dg) else undef), (if listed.getD 6 false = true then Value.int IntKind.i64 (d - dg) else undef), (if listed.getD 7 false = true then Value.pointer (some ⟨w.heap.size, 0, none⟩) else undef), (if listed.getD 8 false = true then Value.int IntKind.i64 ((k : Int)) else undef), (if listed.getD 9 false = true then Value.int IntKind.i64 (i) else undef), (if listed.getD 10 false = true then Value.int IntKind.i64 ((p : Int)) else undef), (if listed.getD 11 false = true then Value.int IntKind.i64 (m) else undef), (if listed.getD 12 false = true then Value.int IntKind.i64 (x + m) else undef)], []⟩) (hup_check (by kernel_rfl)) ?h0 ?step ?fin
  case h0 => exact ⟨(Below.refl _ _).drew, rfl⟩
  case step =>
    intro listed a' w' i hs hbi hdep hi ⟨IB, ha⟩
    obtain ⟨ls⟩ := listed
    match ls, hs with
    | [x0, x1, x2, x3, x4, x5, x6, x7, x8, x9, x10, x11, x12, x13], _ =>
    subst ha
    have hi' : i = 0 ∨ i = 1 ∨ i = 2 ∨ i = 3 ∨ i = 4 ∨ i = 5 ∨ i = 6 ∨ i = 7 ∨ i = 8 ∨ i = 9 ∨ i = 10 ∨ i = 11 ∨ i = 12 ∨ i = 13 := by simp at hi; omega
    rcases hi' with rfl | rfl | rfl | rfl | rfl | rfl | rfl | rfl | rfl | rfl | rfl | rfl | rfl | rfl
    · obtain rfl : x0 = false := by simpa using hbi
      refine wpOpIn_plain rfl rfl rfl ?_
      exact ⟨IB, rfl⟩
    · obtain rfl : x1 = false := by simpa using hbi
      refine wpOpIn_plain rfl rfl rfl ?_
      exact ⟨IB, rfl⟩
    · obtain rfl : x2 = false := by simpa using hbi
      refine wpOpIn_load_row rfl rfl 142 _ rfl w.heap.size rfl 142 _ _ _ (heapB IB.out Q0.out) Tryz.underlying142 rfl info109 ?_
      exact ⟨IB, rfl⟩
    · obtain rfl : x3 = false := by simpa using hbi
      refine wpOpIn_plain rfl rfl rfl ?_
      exact ⟨IB, rfl⟩
    · obtain rfl : x4 = false := by simpa using hbi
      refine wpOpIn_plain rfl rfl rfl ?_
      exact ⟨IB, rfl⟩
    · obtain rfl : x5 = false := by simpa using hbi
      obtain rfl : x2 = true := hdep _ rfl ⟨2, .data⟩ (by simp) rfl
      obtain rfl : x3 = true := hdep _ rfl ⟨3, .data⟩ (by simp) rfl
      obtain rfl : x4 = true := hdep _ rfl ⟨4, .data⟩ (by simp) rfl
      refine wpOpIn_call (args := #[Value.agg #[.int .i64 (k : Int), .int .i64 lv, .int .i64 ww], Value.int IntKind.i64 (x), Value.int IntKind.i64 (i)]) rfl rfl (sem_call3 rfl rfl rfl rfl (enters_of Tryz.func191 (by kernel_rfl) rfl)) (HD.out w') ?_
      rintro e V ⟨rfl, hb⟩
      exact ⟨_, rfl, (IB.out.trans (hb.mono IB.out.size)), rfl⟩
    · obtain rfl : x6 = false := by simpa using hbi
      obtain rfl : x1 = true := hdep _ rfl ⟨1, .data⟩ (by simp) rfl
      obtain rfl : x5 = true := hdep _ rfl ⟨5, .data⟩ (by simp) rfl
      refine wpOpIn_plain (v := Value.int IntKind.i64 (d - dg)) (w' := w') rfl rfl (sem_bin (vx := Value.int IntKind.i64 (d)) (vy := Value.int IntKind.i64 (dg)) rfl rfl rfl rfl (ES.out w')) ?_
      exact ⟨IB, rfl⟩
    · obtain rfl : x7 = false := by simpa using hbi
      refine wpOpIn_plain (v := Value.pointer (some ⟨w.heap.size, 0, none⟩)) (w' := w') rfl rfl (by simp [Oper.semAt, execOp, go_sem]) ?_
      exact ⟨IB, rfl⟩
    · obtain rfl : x8 = false := by simpa using hbi
      obtain rfl : x7 = true := hdep _ rfl ⟨7, .data⟩ (by simp) rfl
      have c9 := kcell IB.out C0.out
      refine wpOpIn_plain (v := Value.int IntKind.i64 ((k : Int))) (w' := w') rfl rfl (by simp [Oper.semAt, execOp, go_sem, c9]) ?_
      exact ⟨IB, rfl⟩
    · obtain rfl : x9 = false := by simpa using hbi
      refine wpOpIn_plain rfl rfl rfl ?_
      exact ⟨IB, rfl⟩
    · obtain rfl : x10 = false := by simpa using hbi
      obtain rfl : x8 = true := hdep _ rfl ⟨8, .data⟩ (by simp) rfl
      obtain rfl : x9 = true := hdep _ rfl ⟨9, .data⟩ (by simp) rfl
      refine wpOpIn_call (args := #[Value.int IntKind.i64 ((k : Int)), Value.int IntKind.i64 (i)]) rfl rfl (sem_call2 rfl rfl rfl (enters_of Tryz.func117 (by kernel_rfl) rfl)) (HP.out w') ?_
      rintro e V ⟨rfl, rfl⟩
      exact ⟨_, rfl, IB, rfl⟩
    · obtain rfl : x11 = false := by simpa using hbi
      obtain rfl : x6 = true := hdep _ rfl ⟨6, .data⟩ (by simp) rfl
      obtain rfl : x10 = true := hdep _ rfl ⟨10, .data⟩ (by simp) rfl
      refine wpOpIn_plain (v := Value.int IntKind.i64 (m)) (w' := w') rfl rfl (sem_bin (vx := Value.int IntKind.i64 (d - dg)) (vy := Value.int IntKind.i64 ((p : Int))) rfl rfl rfl rfl (EM.out w')) ?_
      exact ⟨IB, rfl⟩
    · obtain rfl : x12 = false := by simpa using hbi
      obtain rfl : x0 = true := hdep _ rfl ⟨0, .data⟩ (by simp) rfl
      obtain rfl : x11 = true := hdep _ rfl ⟨11, .data⟩ (by simp) rfl
      refine wpOpIn_plain (v := Value.int IntKind.i64 (x + m)) (w' := w') rfl rfl (sem_bin (vx := Value.int IntKind.i64 (x)) (vy := Value.int IntKind.i64 (m)) rfl rfl rfl rfl (EA.out w')) ?_
      exact ⟨IB, rfl⟩
    · obtain rfl : x13 = false := by simpa using hbi
      obtain rfl : x12 = true := hdep _ rfl ⟨12, .data⟩ (by simp) rfl
      refine wpOpIn_plain rfl rfl rfl ?_
      exact ⟨IB, rfl⟩
  case fin =>
  intro listed a' Z hs hall ⟨IB, ha⟩
  obtain ⟨ls⟩ := listed
  match ls, hs with
  | [x0, x1, x2, x3, x4, x5, x6, x7, x8, x9, x10, x11, x12, x13], _ =>
  obtain rfl : x0 = true := hall 0 (by simp)
  obtain rfl : x1 = true := hall 1 (by simp)
  obtain rfl : x2 = true := hall 2 (by simp)
  obtain rfl : x3 = true := hall 3 (by simp)
  obtain rfl : x4 = true := hall 4 (by simp)
  obtain rfl : x5 = true := hall 5 (by simp)
  obtain rfl : x6 = true := hall 6 (by simp)
  obtain rfl : x7 = true := hall 7 (by simp)
  obtain rfl : x8 = true := hall 8 (by simp)
  obtain rfl : x9 = true := hall 9 (by simp)
  obtain rfl : x10 = true := hall 10 (by simp)
  obtain rfl : x11 = true := hall 11 (by simp)
  obtain rfl : x12 = true := hall 12 (by simp)
  obtain rfl : x13 = true := hall 13 (by simp)
  subst ha
  have HZ : Hid (Below X.heap.size X Z) := IB
  clear IB hall hs
  dsimp only [Exit.then, Exit.inBlock]
  go_wp2_with fail
  go_ret
  exact ⟨rfl, HB.out.trans (HZ.out.mono HB.out.size)⟩
theorem owner_any (a h g gr po : Int) (ha : 1 ≤ a) (ha2 : a ≤ 16) (hh : 1 ≤ h) (hh2 : h ≤ 4) (hg : 0 ≤ gr) (hg2 : gr ≤ 1000) (hp : 0 ≤ po) (hp2 : po ≤ 1000) (w : World) :
    Calls Tryz.prog 204 #[.agg #[.int .i64 a, .int .i64 h, .int .i64 g], .int .i64 gr, .int .i64 po] w fun e w' => e = .returned (.int .i64 (gr * a + po / h)) ∧ Below w.heap.size w w' := by
  have HB := Lib.hid ((Below.refl w.heap.size w).alloc (Nat.le_refl _) (.cells #[.int .i64 a, .int .i64 h, .int .i64 g] 146))
  have Q0 := Lib.hid (heap_alloc_new w (.cells #[.int .i64 a, .int .i64 h, .int .i64 g] 146))
  have c0 := cellR 0 Q0.out rfl
  have c1 := cellR 1 Q0.out rfl
  have c2 := cellR 2 Q0.out rfl
  have m1 := Int.mul_le_mul hg2 ha2 (by omega) (by decide)
  have m2 := Int.mul_nonneg hg (show 0 ≤ a by omega)
  have hdle := Int.ediv_le_self h hp
  have hdnn := Int.ediv_nonneg hp (show 0 ≤ h by omega)
  have hne : h ≠ 0 := by omega
  have hw1 : wrap64 (gr * a) = gr * a := by generalize gr * a = z at *; unfold wrap64; omega
  have hw2 : wrap64 (po.tdiv h) = po / h := by rw [Int.tdiv_eq_ediv_of_nonneg hp]; generalize po / h = z at *; unfold wrap64; omega
  have hw3 : wrap64 (gr * a + po / h) = gr * a + po / h := by generalize gr * a = y at *; generalize po / h = z at *; unfold wrap64; omega
  clear Q0 m1 m2 hdle hdnn
  go_enter Tryz.func204, Tryz.ntmps204
  go_wp2_with fail
  generalize w.alloc (.cells #[.int .i64 a, .int .i64 h, .int .i64 g] 146) = X at *
  go_quiet (fail)
  go_wp2_with fail
  go_ret
  exact ⟨by first | rfl | (show Ending.returned (.int .i64 (wrap64 (gr * a + po / h))) = _; rw [hw3]), below_drewN HB.out _⟩
theorem port_any (a h g gr ot : Int) (hg0 : 1 ≤ g) (hg1 : g ≤ 1000) (hg : 0 ≤ gr) (hg2 : gr ≤ 1000) (hp : 0 ≤ ot) (hp2 : ot ≤ 1000) (w : World) :
    Calls Tryz.prog 203 #[.agg #[.int .i64 a, .int .i64 h, .int .i64 g], .int .i64 gr, .int .i64 ot] w fun e w' => e = .returned (.int .i64 ((ot - gr - 1) % g)) ∧ Below w.heap.size w w' := by
  have HB := Lib.hid ((Below.refl w.heap.size w).alloc (Nat.le_refl _) (.cells #[.int .i64 a, .int .i64 h, .int .i64 g] 146))
  have Q0 := Lib.hid (heap_alloc_new w (.cells #[.int .i64 a, .int .i64 h, .int .i64 g] 146))
  have c0 := cellR 0 Q0.out rfl
  have c1 := cellR 1 Q0.out rfl
  have c2 := cellR 2 Q0.out rfl
  have HM := Lib.hid (fun W => modulo_any (ot - gr - 1) g hg0 hg1 W)
  have hw1 : wrap64 (ot - gr) = ot - gr := by unfold wrap64; omega
  have hw2 : wrap64 (ot - gr - 1) = ot - gr - 1 := by unfold wrap64; omega
  clear Q0
  go_enter Tryz.func203, Tryz.ntmps203
  go_wp2_with fail
  generalize w.alloc (.cells #[.int .i64 a, .int .i64 h, .int .i64 g] 146) = X at *
  refine (HM.out _).mono ?_
  rintro e w1 ⟨rfl, rfl⟩
  clear HM
  go_wp2_with fail
  go_ret
  exact ⟨rfl, HB.out⟩
theorem behind_any (a h g gr po : Int) (ha : 1 ≤ a) (ha2 : a ≤ 16) (hh : 1 ≤ h) (hh2 : h ≤ 4) (hg0 : 1 ≤ g) (hg1 : g ≤ 1000) (hg : 0 ≤ gr) (hg2 : gr ≤ 1000) (hp : 0 ≤ po) (hp2 : po ≤ g - 2) (w : World) :
    Calls Tryz.prog 201 #[.agg #[.int .i64 a, .int .i64 h, .int .i64 g], .int .i64 gr, .int .i64 po] w fun e w' => e = .returned (.int .i64 ((gr + po + 1) % g * a + (g - 2 - po) / h)) ∧ Below w.heap.size w w' := by
  have HB := Lib.hid ((Below.refl w.heap.size w).alloc (Nat.le_refl _) (.cells #[.int .i64 a, .int .i64 h, .int .i64 g] 146))
  have Q0 := Lib.hid (heap_alloc_new w (.cells #[.int .i64 a, .int .i64 h, .int .i64 g] 146))
  have c0 := cellR 0 Q0.out rfl
  have c1 := cellR 1 Q0.out rfl
  have c2 := cellR 2 Q0.out rfl
  have C2 := Lib.hid c2
  have hr0 := Int.emod_nonneg (gr + po + 1) (show g ≠ 0 by omega)
  have hr1 := Int.emod_lt_of_pos (gr + po + 1) (show 0 < g by omega)
  have E1 := Lib.hid (fun W => i64_add gr po (by omega) (by omega) W)
  have E2 := Lib.hid (fun W => i64_add (gr + po) 1 (by omega) (by omega) W)
  have E3 := Lib.hid (fun W => i64_rem (gr + po + 1) g (by omega) hg0 W)
  have E4 := Lib.hid (fun W => i64_sub g 2 (by omega) (by omega) W)
  have E5 := Lib.hid (fun W => i64_sub (g - 2) po (by omega) (by omega) W)
  have HO := Lib.hid (fun W => owner_any a h g ((gr + po + 1) % g) (g - 2 - po) ha ha2 hh hh2 hr0 (by omega) (by omega) (by omega) W)
  generalize (gr + po + 1) % g = r at *
  generalize r * a + (g - 2 - po) / h = v at *
  clear hr0 hr1
  go_enter Tryz.func201, Tryz.ntmps201
  go_wp2_with fail
  generalize w.alloc (.cells #[.int .i64 a, .int .i64 h, .int .i64 g] 146) = X at *
  clear c0 c1 c2
  refine (wpIn_wide (n := 0)).1 ?_
  refine region_det (by kernel_rfl) (I := fun listed a' w' => Hid (Below X.heap.size X w') ∧ a' = ⟨#[Value.agg #[.int .i64 a, .int .i64 h, .int .i64 g], Value.int IntKind.i64 (gr), Value.int IntKind.i64 (po), Value.pointer (some ⟨w.heap.size, 0, none⟩), undef, undef, (if listed.getD 14 false = true then Value.int IntKind.i64 (v) else Value.int IntKind.i64 (0)), (if listed.getD 0 false = true then Value.agg #[.int .i64 a, .int .i64 h, .int .i64 g] else undef), (if listed.getD 1 false = true then Value.int IntKind.i64 (gr) else undef), (if listed.getD 2 false = true then Value.int IntKind.i64 (po) else undef), (if listed.getD 3 false = true then Value.int IntKind.i64 (gr + po) else undef), (if listed.getD 4 false = true then Value.int IntKind.i64 (gr + po + 1) else undef), (if listed.getD 5 false = true then Value.pointer (some ⟨w.heap.size, 2, none⟩) else undef), (if listed.getD 6 false = true then Value.int IntKind.i64 (g) else undef), (if listed.getD 7 false = true then Value.int IntKind.i64 (r) else undef), (if listed.getD 8 false = true then Value.pointer (some ⟨w.heap.size, 2, none⟩) else undef), (if listed.getD 9 false = true then Value.int IntKind.i64 (g) else undef), (if listed.getD 10 false = true then Value.int IntKind.i64 (g - 2) else undef), (if listed.getD 11 false = true then Value.int IntKind.i64 (po) else undef), (if listed.getD 12 false = true then Value.int IntKind.i64 (g - 2 - po) else undef), (if listed.getD 13 false = true then Value.int IntKind.i64 (v) else undef)], []⟩) (hup_check (by kernel_rfl)) ?h0 ?step ?fin
  case h0 => exact ⟨(Below.refl _ _).drew, rfl⟩
  case step =>
    intro listed a' w' i hs hbi hdep hi ⟨IB, ha⟩
    obtain ⟨ls⟩ := listed
    match ls, hs with
    | [x0, x1, x2, x3, x4, x5, x6, x7, x8, x9, x10, x11, x12, x13, x14], _ =>
    subst ha
    have hi' : i = 0 ∨ i = 1 ∨ i = 2 ∨ i = 3 ∨ i = 4 ∨ i = 5 ∨ i = 6 ∨ i = 7 ∨ i = 8 ∨ i = 9 ∨ i = 10 ∨ i = 11 ∨ i = 12 ∨ i = 13 ∨ i = 14 := by simp at hi; omega
    rcases hi' with rfl | rfl | rfl | rfl | rfl | rfl | rfl | rfl | rfl | rfl | rfl | rfl | rfl | rfl | rfl
    · obtain rfl : x0 = false := by simpa using hbi
      refine wpOpIn_load_row rfl rfl 146 _ rfl w.heap.size rfl 146 _ _ _ (heapB IB.out Q0.out) Tryz.underlying146 rfl info113 ?_
      exact ⟨IB, rfl⟩
    · obtain rfl : x1 = false := by simpa using hbi
      refine wpOpIn_plain rfl rfl rfl ?_
      exact ⟨IB, rfl⟩
    · obtain rfl : x2 = false := by simpa using hbi
      refine wpOpIn_plain rfl rfl rfl ?_
      exact ⟨IB, rfl⟩
    · obtain rfl : x3 = false := by simpa using hbi
      obtain rfl : x1 = true := hdep _ rfl ⟨1, .data⟩ (by simp) rfl
      obtain rfl : x2 = true := hdep _ rfl ⟨2, .data⟩ (by simp) rfl
      refine wpOpIn_plain (v := Value.int IntKind.i64 (gr + po)) (w' := w') rfl rfl (sem_bin (vx := Value.int IntKind.i64 (gr)) (vy := Value.int IntKind.i64 (po)) rfl rfl rfl rfl (E1.out w')) ?_
      exact ⟨IB, rfl⟩
    · obtain rfl : x4 = false := by simpa using hbi
      obtain rfl : x3 = true := hdep _ rfl ⟨3, .data⟩ (by simp) rfl
      refine wpOpIn_plain (v := Value.int IntKind.i64 (gr + po + 1)) (w' := w') rfl rfl (sem_bin (vx := Value.int IntKind.i64 (gr + po)) (vy := Value.int IntKind.i64 (1)) rfl rfl rfl rfl (E2.out w')) ?_
      exact ⟨IB, rfl⟩
    · obtain rfl : x5 = false := by simpa using hbi
      refine wpOpIn_plain (v := Value.pointer (some ⟨w.heap.size, 2, none⟩)) (w' := w') rfl rfl (by simp [Oper.semAt, execOp, go_sem]) ?_
      exact ⟨IB, rfl⟩
    · obtain rfl : x6 = false := by simpa using hbi
      obtain rfl : x5 = true := hdep _ rfl ⟨5, .data⟩ (by simp) rfl
      have c9 := kcell IB.out C2.out
      refine wpOpIn_plain (v := Value.int IntKind.i64 (g)) (w' := w') rfl rfl (by simp [Oper.semAt, execOp, go_sem, c9]) ?_
      exact ⟨IB, rfl⟩
    · obtain rfl : x7 = false := by simpa using hbi
      obtain rfl : x4 = true := hdep _ rfl ⟨4, .data⟩ (by simp) rfl
      obtain rfl : x6 = true := hdep _ rfl ⟨6, .data⟩ (by simp) rfl
      refine wpOpIn_plain (v := Value.int IntKind.i64 (r)) (w' := w') rfl rfl (sem_bin (vx := Value.int IntKind.i64 (gr + po + 1)) (vy := Value.int IntKind.i64 (g)) rfl rfl rfl rfl (E3.out w')) ?_
      exact ⟨IB, rfl⟩
    · obtain rfl : x8 = false := by simpa using hbi
      refine wpOpIn_plain (v := Value.pointer (some ⟨w.heap.size, 2, none⟩)) (w' := w') rfl rfl (by simp [Oper.semAt, execOp, go_sem]) ?_
      exact ⟨IB, rfl⟩
    · obtain rfl : x9 = false := by simpa using hbi
      obtain rfl : x8 = true := hdep _ rfl ⟨8, .data⟩ (by simp) rfl
      have c9 := kcell IB.out C2.out
      refine wpOpIn_plain (v := Value.int IntKind.i64 (g)) (w' := w') rfl rfl (by simp [Oper.semAt, execOp, go_sem, c9]) ?_
      exact ⟨IB, rfl⟩
    · obtain rfl : x10 = false := by simpa using hbi
      obtain rfl : x9 = true := hdep _ rfl ⟨9, .data⟩ (by simp) rfl
      refine wpOpIn_plain (v := Value.int IntKind.i64 (g - 2)) (w' := w') rfl rfl (sem_bin (vx := Value.int IntKind.i64 (g)) (vy := Value.int IntKind.i64 (2)) rfl rfl rfl rfl (E4.out w')) ?_
      exact ⟨IB, rfl⟩
    · obtain rfl : x11 = false := by simpa using hbi
      refine wpOpIn_plain rfl rfl rfl ?_
      exact ⟨IB, rfl⟩
    · obtain rfl : x12 = false := by simpa using hbi
      obtain rfl : x10 = true := hdep _ rfl ⟨10, .data⟩ (by simp) rfl
      obtain rfl : x11 = true := hdep _ rfl ⟨11, .data⟩ (by simp) rfl
      refine wpOpIn_plain (v := Value.int IntKind.i64 (g - 2 - po)) (w' := w') rfl rfl (sem_bin (vx := Value.int IntKind.i64 (g - 2)) (vy := Value.int IntKind.i64 (po)) rfl rfl rfl rfl (E5.out w')) ?_
      exact ⟨IB, rfl⟩
    · obtain rfl : x13 = false := by simpa using hbi
      obtain rfl : x0 = true := hdep _ rfl ⟨0, .data⟩ (by simp) rfl
      obtain rfl : x7 = true := hdep _ rfl ⟨7, .data⟩ (by simp) rfl
      obtain rfl : x12 = true := hdep _ rfl ⟨12, .data⟩ (by simp) rfl
      refine wpOpIn_call (args := #[Value.agg #[.int .i64 a, .int .i64 h, .int .i64 g], Value.int IntKind.i64 (r), Value.int IntKind.i64 (g - 2 - po)]) rfl rfl (sem_call3 rfl rfl rfl rfl (enters_of Tryz.func204 (by kernel_rfl) rfl)) (HO.out w') ?_
      rintro e V ⟨rfl, hb⟩
      exact ⟨_, rfl, (IB.out.trans (hb.mono IB.out.size)), rfl⟩
    · obtain rfl : x14 = false := by simpa using hbi
      obtain rfl : x13 = true := hdep _ rfl ⟨13, .data⟩ (by simp) rfl
      refine wpOpIn_plain rfl rfl rfl ?_
      exact ⟨IB, rfl⟩
  case fin =>
  intro listed a' Z hs hall ⟨IB, ha⟩
  obtain ⟨ls⟩ := listed
  match ls, hs with
  | [x0, x1, x2, x3, x4, x5, x6, x7, x8, x9, x10, x11, x12, x13, x14], _ =>
  obtain rfl : x0 = true := hall 0 (by simp)
  obtain rfl : x1 = true := hall 1 (by simp)
  obtain rfl : x2 = true := hall 2 (by simp)
  obtain rfl : x3 = true := hall 3 (by simp)
  obtain rfl : x4 = true := hall 4 (by simp)
  obtain rfl : x5 = true := hall 5 (by simp)
  obtain rfl : x6 = true := hall 6 (by simp)
  obtain rfl : x7 = true := hall 7 (by simp)
  obtain rfl : x8 = true := hall 8 (by simp)
  obtain rfl : x9 = true := hall 9 (by simp)
  obtain rfl : x10 = true := hall 10 (by simp)
  obtain rfl : x11 = true := hall 11 (by simp)
  obtain rfl : x12 = true := hall 12 (by simp)
  obtain rfl : x13 = true := hall 13 (by simp)
  obtain rfl : x14 = true := hall 14 (by simp)
  subst ha
  have HZ : Hid (Below X.heap.size X Z) := IB
  clear IB hall hs
  dsimp only [Exit.then, Exit.inBlock]
  go_wp2_with fail
  go_ret
  exact ⟨rfl, HB.out.trans (HZ.out.mono HB.out.size)⟩
end Go.Proofs.YtbhkenphcahifaaGreat
