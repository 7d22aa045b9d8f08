import Derived.Test.YtbhkenphcahifaaGreatNE
import Derived.Test.YtbhkenphcahifaaGreatRD
namespace Go.Proofs.YtbhkenphcahifaaGreat
open Go.RowKit Go.Shelf
attribute [local go_sem] Oper.semAt_some
set_option maxRecDepth 100000
set_option maxHeartbeats 4000000

theorem i64_quo (x n : Int) (hx : 0 ≤ x) (hx2 : x ≤ 1000000) (hn : 1 ≤ n) (w : World) : (binOp .quo 3 (.int .i64 x) (.int .i64 n)).run Tryz.prog w = .ok (.int .i64 (x / n)) w := by
  have h1 := Int.ediv_le_self n hx
  have h2 := Int.ediv_nonneg hx (show 0 ≤ n by omega)
  have h0 : n ≠ 0 := by omega
  simp [go_sem, h0]
  rw [Int.tdiv_eq_ediv_of_nonneg hx, IntKind.wrap_i64]
  omega
theorem i64_rem (x n : Int) (hx : 0 ≤ x) (hn : 1 ≤ n) (w : World) : (binOp .rem 3 (.int .i64 x) (.int .i64 n)).run Tryz.prog w = .ok (.int .i64 (x % n)) w := by
  have h0 : n ≠ 0 := by omega
  simp [go_sem, h0, Int.tmod_eq_emod_of_nonneg hx]
theorem rowA2 (p q : Int) : rowA [p, q] = #[.int .i64 p, .int .i64 q] := by unfold rowA; rfl
theorem RowAt.two {w : World} (p q : Int) : RowAt (w.alloc (.cells #[.int .i64 p, .int .i64 q] 3)) w.heap.size [p, q] := by
  unfold RowAt
  rw [rowA2]
  exact heap_alloc_new w _
theorem sizeT_any (sa : Option Addr) (n sc : Nat) (m : Int) (w : World) : Calls Tryz.prog 144 #[.agg #[.slice sa n sc, .int .i64 m]] w fun e w' => e = .returned (.tuple #[.int .i64 m, .int .i64 m]) ∧ Below w.heap.size w w' := by
  have hb0 : Below w.heap.size w (w.alloc (.cells #[.slice sa n sc, .int .i64 m] 138)) := (Below.refl _ _).alloc (Nat.le_refl _) _
  have q0 := heap_alloc_new w (.cells #[.slice sa n sc, .int .i64 m] 138)
  have c1 := cellR 1 q0 rfl
  have HB := Lib.hid hb0
  clear hb0 q0
  go_enter Tryz.func144, Tryz.ntmps144
  go_wp2_with fail
  go_quiet (fail)
  go_wp2_with fail
  go_ret2
  exact ⟨rfl, below_drewN HB.out _⟩
theorem sizeR_any (k lv ww : Int) (h1 : 0 ≤ lv) (h2 : lv ≤ 10) (h3 : 0 ≤ ww) (h4 : ww ≤ 1048576) (w : World) : Calls Tryz.prog 185 #[.agg #[.int .i64 k, .int .i64 lv, .int .i64 ww]] w fun e w' => e = .returned (.tuple #[.int .i64 (lv * ww), .int .i64 ww]) ∧ Below w.heap.size w w' := by
  have hb0 : Below w.heap.size w (w.alloc (.cells #[.int .i64 k, .int .i64 lv, .int .i64 ww] 142)) := (Below.refl _ _).alloc (Nat.le_refl _) _
  have q0 := heap_alloc_new w (.cells #[.int .i64 k, .int .i64 lv, .int .i64 ww] 142)
  have c1 := cellR 1 q0 rfl
  have c2 := cellR 2 q0 rfl
  have HB := Lib.hid hb0
  have m1 := Int.mul_le_mul h2 h4 h3 (by decide)
  have m2 := Int.mul_nonneg h1 h3
  have hw : wrap64 (lv * ww) = lv * ww := by generalize lv * ww = z at *; unfold wrap64; omega
  clear hb0 q0 m1 m2
  go_enter Tryz.func185, Tryz.ntmps185
  go_wp2_with fail
  go_quiet (fail)
  go_wp2_with fail
  go_ret2
  exact ⟨by show Ending.returned (.tuple #[.int .i64 (wrap64 (lv * ww)), .int .i64 ww]) = _; rw [hw], below_drewN HB.out _⟩
theorem sizeD_any (a h g : Int) (h1 : 0 ≤ a) (h2 : a ≤ 16) (h3 : 0 ≤ g) (h4 : g ≤ 1000) (w : World) : Calls Tryz.prog 199 #[.agg #[.int .i64 a, .int .i64 h, .int .i64 g]] w fun e w' => e = .returned (.tuple #[.int .i64 (a * g), .int .i64 (a * g)]) ∧ Below w.heap.size w w' := by
  have hb0 : Below w.heap.size w (w.alloc (.cells #[.int .i64 a, .int .i64 h, .int .i64 g] 146)) := (Below.refl _ _).alloc (Nat.le_refl _) _
  have q0 := heap_alloc_new w (.cells #[.int .i64 a, .int .i64 h, .int .i64 g] 146)
  have c0 := cellR 0 q0 rfl
  have c2 := cellR 2 q0 rfl
  have HB := Lib.hid hb0
  have m1 := Int.mul_le_mul h2 h4 h3 (by decide)
  have m2 := Int.mul_nonneg h1 h3
  have hw : wrap64 (a * g) = a * g := by generalize a * g = z at *; unfold wrap64; omega
  clear hb0 q0 m1 m2
  go_enter Tryz.func199, Tryz.ntmps199
  go_wp2_with fail
  go_quiet (fail)
  go_wp2_with fail
  go_ret2
  exact ⟨by show Ending.returned (.tuple #[.int .i64 (wrap64 (a * g)), .int .i64 (wrap64 (a * g))]) = _; rw [hw], below_drewN HB.out _⟩
theorem placeR_any (a b c x : Int) (hx : 0 ≤ x) (hx2 : x ≤ 1000000) (hn : 1 ≤ c) (w : World) : Calls Tryz.prog 182 #[.agg #[.int .i64 a, .int .i64 b, .int .i64 c], .int .i64 x] w fun e w' => ∃ g, e = .returned (.slice (some ⟨g, 0, none⟩) 2 2) ∧ w.heap.size ≤ g ∧ RowAt w' g [x / c, x % c] ∧ Below w.heap.size w w' := by
  have hb0 : Below w.heap.size w (w.alloc (.cells #[.int .i64 a, .int .i64 b, .int .i64 c] 142)) := (Below.refl _ _).alloc (Nat.le_refl _) _
  have q0 := heap_alloc_new w (.cells #[.int .i64 a, .int .i64 b, .int .i64 c] 142)
  have C0 := Lib.hid (cellR 2 q0 rfl)
  have HB := Lib.hid hb0
  have EQ := Lib.hid (fun W => i64_quo x c hx hx2 hn W)
  have ER := Lib.hid (fun W => i64_rem x c hx hn W)
  clear hb0 q0
  obtain ⟨p, hp⟩ : ∃ p, p = x / c := ⟨_, rfl⟩
  obtain ⟨q, hq⟩ : ∃ q, q = x % c := ⟨_, rfl⟩
  rw [← hp] at EQ ⊢
  rw [← hq] at ER ⊢
  clear hp hq
  go_enter Tryz.func182, Tryz.ntmps182
  go_wp2_with fail
  generalize w.alloc (.cells #[.int .i64 a, .int .i64 b, .int .i64 c] 142) = X at *
  refine (wpIn_wide (n := 0)).1 ?_
  refine region_det (by kernel_rfl) (I := fun listed a' w' => ∃ gs : Nat, Hid (Below X.heap.size X w') ∧ Hid (listed.getD 8 false = true → w.heap.size ≤ gs ∧ RowAt w' gs [p, q]) ∧ Hid (listed.getD 9 false = true → listed.getD 8 false = true) ∧ a' = ⟨#[Value.agg #[.int .i64 a, .int .i64 b, .int .i64 c], Value.int IntKind.i64 (x), Value.pointer (some ⟨w.heap.size, 0, none⟩), undef, (if listed.getD 9 false = true then Value.slice (some ⟨gs, 0, none⟩) 2 2 else Value.slice none 0 0), (if listed.getD 0 false = true then Value.int IntKind.i64 (x) else undef), (if listed.getD 1 false = true then Value.pointer (some ⟨w.heap.size, 2, none⟩) else undef), (if listed.getD 2 false = true then Value.int IntKind.i64 (c) else undef), (if listed.getD 3 false = true then Value.int IntKind.i64 (p) else undef), (if listed.getD 4 false = true then Value.int IntKind.i64 (x) else undef), (if listed.getD 5 false = true then Value.pointer (some ⟨w.heap.size, 2, none⟩) else undef), (if listed.getD 6 false = true then Value.int IntKind.i64 (c) else undef), (if listed.getD 7 false = true then Value.int IntKind.i64 (q) else undef), (if listed.getD 8 false = true then Value.slice (some ⟨gs, 0, none⟩) 2 2 else undef)], []⟩) (hup_check (by kernel_rfl)) ?h0 ?step ?fin
  case h0 => exact ⟨0, (Below.refl _ _).drew, (fun h => by simp at h), (fun h => by simp at h), rfl⟩
  case step =>
    intro listed a' w' i hs hbi hdep hi ⟨gs, IB, IS, J9, ha⟩
    obtain ⟨ls⟩ := listed
    match ls, hs with
    | [x0, x1, x2, x3, x4, x5, x6, x7, x8, x9], _ =>
    subst ha
    have hi' : i = 0 ∨ i = 1 ∨ i = 2 ∨ i = 3 ∨ i = 4 ∨ i = 5 ∨ i = 6 ∨ i = 7 ∨ i = 8 ∨ i = 9 := by simp at hi; omega
    rcases hi' with rfl | rfl | rfl | rfl | rfl | rfl | rfl | rfl | rfl | rfl
    · obtain rfl : x0 = false := by simpa using hbi
      refine wpOpIn_plain rfl rfl rfl ?_
      exact ⟨gs, IB, IS, J9, rfl⟩
    · obtain rfl : x1 = false := by simpa using hbi
      refine wpOpIn_plain (v := Value.pointer (some ⟨w.heap.size, 2, none⟩)) (w' := w') rfl rfl (by simp [Oper.semAt, execOp, go_sem]) ?_
      exact ⟨gs, IB, IS, J9, rfl⟩
    · obtain rfl : x2 = false := by simpa using hbi
      obtain rfl : x1 = true := hdep _ rfl ⟨1, .data⟩ (by simp) rfl
      have c0 := kcell IB.out C0.out
      refine wpOpIn_plain (v := Value.int IntKind.i64 (c)) (w' := w') rfl rfl (by simp [Oper.semAt, execOp, go_sem, c0]) ?_
      exact ⟨gs, IB, IS, J9, rfl⟩
    · obtain rfl : x3 = false := by simpa using hbi
      obtain rfl : x0 = true := hdep _ rfl ⟨0, .data⟩ (by simp) rfl
      obtain rfl : x2 = true := hdep _ rfl ⟨2, .data⟩ (by simp) rfl
      refine wpOpIn_plain (v := Value.int IntKind.i64 (p)) (w' := w') rfl rfl (sem_bin (vx := Value.int IntKind.i64 (x)) (vy := Value.int IntKind.i64 (c)) rfl rfl rfl rfl (EQ.out w')) ?_
      exact ⟨gs, IB, IS, J9, rfl⟩
    · obtain rfl : x4 = false := by simpa using hbi
      refine wpOpIn_plain rfl rfl rfl ?_
      exact ⟨gs, IB, IS, J9, rfl⟩
    · obtain rfl : x5 = false := by simpa using hbi
      refine wpOpIn_plain (v := Value.pointer (some ⟨w.heap.size, 2, none⟩)) (w' := w') rfl rfl (by simp [Oper.semAt, execOp, go_sem]) ?_
      exact ⟨gs, IB, IS, J9, rfl⟩
    · obtain rfl : x6 = false := by simpa using hbi
      obtain rfl : x5 = true := hdep _ rfl ⟨5, .data⟩ (by simp) rfl
      have c0 := kcell IB.out C0.out
      refine wpOpIn_plain (v := Value.int IntKind.i64 (c)) (w' := w') rfl rfl (by simp [Oper.semAt, execOp, go_sem, c0]) ?_
      exact ⟨gs, IB, IS, J9, rfl⟩
    · obtain rfl : x7 = false := by simpa using hbi
      obtain rfl : x4 = true := hdep _ rfl ⟨4, .data⟩ (by simp) rfl
      obtain rfl : x6 = true := hdep _ rfl ⟨6, .data⟩ (by simp) rfl
      refine wpOpIn_plain (v := Value.int IntKind.i64 (q)) (w' := w') rfl rfl (sem_bin (vx := Value.int IntKind.i64 (x)) (vy := Value.int IntKind.i64 (c)) rfl rfl rfl rfl (ER.out w')) ?_
      exact ⟨gs, IB, IS, J9, rfl⟩
    · obtain rfl : x8 = false := by simpa using hbi
      obtain rfl : x3 = true := hdep _ rfl ⟨3, .data⟩ (by simp) rfl
      obtain rfl : x7 = true := hdep _ rfl ⟨7, .data⟩ (by simp) rfl
      obtain rfl : x9 = false := Bool.eq_false_iff.2 fun h => by have := J9.out h; cases this
      refine wpOpIn_plain (v := Value.slice (some ⟨w'.heap.size, 0, none⟩) 2 2) (w' := w'.alloc (.cells #[.int .i64 p, .int .i64 q] 3)) rfl rfl (by simp [Oper.semAt, execOp, go_sem]) ?_
      have hb9 : Below w'.heap.size w' (w'.alloc (.cells #[.int .i64 p, .int .i64 q] 3)) := (Below.refl _ _).alloc (Nat.le_refl _) _
      exact ⟨w'.heap.size, (IB.out.trans (hb9.mono IB.out.size)), (fun _ => ⟨Nat.le_trans HB.out.size IB.out.size, RowAt.two p q⟩), (fun _ => rfl), rfl⟩
    · obtain rfl : x9 = false := by simpa using hbi
      obtain rfl : x8 = true := hdep _ rfl ⟨8, .data⟩ (by simp) rfl
      refine wpOpIn_plain rfl rfl rfl ?_
      exact ⟨gs, IB, IS, (fun _ => rfl), rfl⟩
  case fin =>
  intro listed a' Z hs hall ⟨gs, IB, IS, J9, ha⟩
  obtain ⟨ls⟩ := listed
  match ls, hs with
  | [x0, x1, x2, x3, x4, x5, x6, x7, x8, x9], _ =>
  obtain rfl : x0 = true := hall 0 (by simp)
  obtain rfl : x1 = true := hall 1 (by simp)
  obtain rfl : x2 = true := hall 2 (by simp)
  obtain rfl : x3 = true := hall 3 (by simp)
  obtain rfl : x4 = true := hall 4 (by simp)
  obtain rfl : x5 = true := hall 5 (by simp)
  obtain rfl : x6 = true := hall 6 (by simp)
  obtain rfl : x7 = true := hall 7 (by simp)
  obtain rfl : x8 = true := hall 8 (by simp)
  obtain rfl : x9 = true := hall 9 (by simp)
  subst ha
  have HZ : Hid (Below X.heap.size X Z) := IB
  have HS := Lib.hid (IS.out rfl)
  clear IB IS J9 hall hs EQ ER C0
  dsimp only [Exit.then, Exit.inBlock]
  go_wp2_with fail
  go_ret
  exact ⟨gs, rfl, HS.out.1, HS.out.2, HB.out.trans (HZ.out.mono HB.out.size)⟩
theorem placeD_any (a b c x : Int) (hx : 0 ≤ x) (hx2 : x ≤ 1000000) (hn : 1 ≤ a) (w : World) : Calls Tryz.prog 196 #[.agg #[.int .i64 a, .int .i64 b, .int .i64 c], .int .i64 x] w fun e w' => ∃ g, e = .returned (.slice (some ⟨g, 0, none⟩) 2 2) ∧ w.heap.size ≤ g ∧ RowAt w' g [x / a, x % a] ∧ Below w.heap.size w w' := by
  have hb0 : Below w.heap.size w (w.alloc (.cells #[.int .i64 a, .int .i64 b, .int .i64 c] 146)) := (Below.refl _ _).alloc (Nat.le_refl _) _
  have q0 := heap_alloc_new w (.cells #[.int .i64 a, .int .i64 b, .int .i64 c] 146)
  have C0 := Lib.hid (cellR 0 q0 rfl)
  have HB := Lib.hid hb0
  have EQ := Lib.hid (fun W => i64_quo x a hx hx2 hn W)
  have ER := Lib.hid (fun W => i64_rem x a hx hn W)
  clear hb0 q0
  obtain ⟨p, hp⟩ : ∃ p, p = x / a := ⟨_, rfl⟩
  obtain ⟨q, hq⟩ : ∃ q, q = x % a := ⟨_, rfl⟩
  rw [← hp] at EQ ⊢
  rw [← hq] at ER ⊢
  clear hp hq
  go_enter Tryz.func196, Tryz.ntmps196
  go_wp2_with fail
  generalize w.alloc (.cells #[.int .i64 a, .int .i64 b, .int .i64 c] 146) = X at *
  refine (wpIn_wide (n := 0)).1 ?_
  refine region_det (by kernel_rfl) (I := fun listed a' w' => ∃ gs : Nat, Hid (Below X.heap.size X w') ∧ Hid (listed.getD 8 false = true → w.heap.size ≤ gs ∧ RowAt w' gs [p, q]) ∧ Hid (listed.getD 9 false = true → listed.getD 8 false = true) ∧ a' = ⟨#[Value.agg #[.int .i64 a, .int .i64 b, .int .i64 c], Value.int IntKind.i64 (x), Value.pointer (some ⟨w.heap.size, 0, none⟩), undef, (if listed.getD 9 false = true then Value.slice (some ⟨gs, 0, none⟩) 2 2 else Value.slice none 0 0), (if listed.getD 0 false = true then Value.int IntKind.i64 (x) else undef), (if listed.getD 1 false = true then Value.pointer (some ⟨w.heap.size, 0, none⟩) else undef), (if listed.getD 2 false = true then Value.int IntKind.i64 (a) else undef), (if listed.getD 3 false = true then Value.int IntKind.i64 (p) else undef), (if listed.getD 4 false = true then Value.int IntKind.i64 (x) else undef), (if listed.getD 5 false = true then Value.pointer (some ⟨w.heap.size, 0, none⟩) else undef), (if listed.getD 6 false = true then Value.int IntKind.i64 (a) else undef), (if listed.getD 7 false = true then Value.int IntKind.i64 (q) else undef), (if listed.getD 8 false = true then Value.slice (some ⟨gs, 0, none⟩) 2 2 else undef)], []⟩) (hup_check (by kernel_rfl)) ?h0 ?step ?fin
  case h0 => exact ⟨0, (Below.refl _ _).drew, (fun h => by simp at h), (fun h => by simp at h), rfl⟩
  case step =>
    intro listed a' w' i hs hbi hdep hi ⟨gs, IB, IS, J9, ha⟩
    obtain ⟨ls⟩ := listed
    match ls, hs with
    | [x0, x1, x2, x3, x4, x5, x6, x7, x8, x9], _ =>
    subst ha
    have hi' : i = 0 ∨ i = 1 ∨ i = 2 ∨ i = 3 ∨ i = 4 ∨ i = 5 ∨ i = 6 ∨ i = 7 ∨ i = 8 ∨ i = 9 := by simp at hi; omega
    rcases hi' with rfl | rfl | rfl | rfl | rfl | rfl | rfl | rfl | rfl | rfl
    · obtain rfl : x0 = false := by simpa using hbi
      refine wpOpIn_plain rfl rfl rfl ?_
      exact ⟨gs, IB, IS, J9, rfl⟩
    · obtain rfl : x1 = false := by simpa using hbi
      refine wpOpIn_plain (v := Value.pointer (some ⟨w.heap.size, 0, none⟩)) (w' := w') rfl rfl (by simp [Oper.semAt, execOp, go_sem]) ?_
      exact ⟨gs, IB, IS, J9, rfl⟩
    · obtain rfl : x2 = false := by simpa using hbi
      obtain rfl : x1 = true := hdep _ rfl ⟨1, .data⟩ (by simp) rfl
      have c0 := kcell IB.out C0.out
      refine wpOpIn_plain (v := Value.int IntKind.i64 (a)) (w' := w') rfl rfl (by simp [Oper.semAt, execOp, go_sem, c0]) ?_
      exact ⟨gs, IB, IS, J9, rfl⟩
    · obtain rfl : x3 = false := by simpa using hbi
      obtain rfl : x0 = true := hdep _ rfl ⟨0, .data⟩ (by simp) rfl
      obtain rfl : x2 = true := hdep _ rfl ⟨2, .data⟩ (by simp) rfl
      refine wpOpIn_plain (v := Value.int IntKind.i64 (p)) (w' := w') rfl rfl (sem_bin (vx := Value.int IntKind.i64 (x)) (vy := Value.int IntKind.i64 (a)) rfl rfl rfl rfl (EQ.out w')) ?_
      exact ⟨gs, IB, IS, J9, rfl⟩
    · obtain rfl : x4 = false := by simpa using hbi
      refine wpOpIn_plain rfl rfl rfl ?_
      exact ⟨gs, IB, IS, J9, rfl⟩
    · obtain rfl : x5 = false := by simpa using hbi
      refine wpOpIn_plain (v := Value.pointer (some ⟨w.heap.size, 0, none⟩)) (w' := w') rfl rfl (by simp [Oper.semAt, execOp, go_sem]) ?_
      exact ⟨gs, IB, IS, J9, rfl⟩
    · obtain rfl : x6 = false := by simpa using hbi
      obtain rfl : x5 = true := hdep _ rfl ⟨5, .data⟩ (by simp) rfl
      have c0 := kcell IB.out C0.out
      refine wpOpIn_plain (v := Value.int IntKind.i64 (a)) (w' := w') rfl rfl (by simp [Oper.semAt, execOp, go_sem, c0]) ?_
      exact ⟨gs, IB, IS, J9, rfl⟩
    · obtain rfl : x7 = false := by simpa using hbi
      obtain rfl : x4 = true := hdep _ rfl ⟨4, .data⟩ (by simp) rfl
      obtain rfl : x6 = true := hdep _ rfl ⟨6, .data⟩ (by simp) rfl
      refine wpOpIn_plain (v := Value.int IntKind.i64 (q)) (w' := w') rfl rfl (sem_bin (vx := Value.int IntKind.i64 (x)) (vy := Value.int IntKind.i64 (a)) rfl rfl rfl rfl (ER.out w')) ?_
      exact ⟨gs, IB, IS, J9, rfl⟩
    · obtain rfl : x8 = false := by simpa using hbi
      obtain rfl : x3 = true := hdep _ rfl ⟨3, .data⟩ (by simp) rfl
      obtain rfl : x7 = true := hdep _ rfl ⟨7, .data⟩ (by simp) rfl
      obtain rfl : x9 = false := Bool.eq_false_iff.2 fun h => by have := J9.out h; cases this
      refine wpOpIn_plain (v := Value.slice (some ⟨w'.heap.size, 0, none⟩) 2 2) (w' := w'.alloc (.cells #[.int .i64 p, .int .i64 q] 3)) rfl rfl (by simp [Oper.semAt, execOp, go_sem]) ?_
      have hb9 : Below w'.heap.size w' (w'.alloc (.cells #[.int .i64 p, .int .i64 q] 3)) := (Below.refl _ _).alloc (Nat.le_refl _) _
      exact ⟨w'.heap.size, (IB.out.trans (hb9.mono IB.out.size)), (fun _ => ⟨Nat.le_trans HB.out.size IB.out.size, RowAt.two p q⟩), (fun _ => rfl), rfl⟩
    · obtain rfl : x9 = false := by simpa using hbi
      obtain rfl : x8 = true := hdep _ rfl ⟨8, .data⟩ (by simp) rfl
      refine wpOpIn_plain rfl rfl rfl ?_
      exact ⟨gs, IB, IS, (fun _ => rfl), rfl⟩
  case fin =>
  intro listed a' Z hs hall ⟨gs, IB, IS, J9, ha⟩
  obtain ⟨ls⟩ := listed
  match ls, hs with
  | [x0, x1, x2, x3, x4, x5, x6, x7, x8, x9], _ =>
  obtain rfl : x0 = true := hall 0 (by simp)
  obtain rfl : x1 = true := hall 1 (by simp)
  obtain rfl : x2 = true := hall 2 (by simp)
  obtain rfl : x3 = true := hall 3 (by simp)
  obtain rfl : x4 = true := hall 4 (by simp)
  obtain rfl : x5 = true := hall 5 (by simp)
  obtain rfl : x6 = true := hall 6 (by simp)
  obtain rfl : x7 = true := hall 7 (by simp)
  obtain rfl : x8 = true := hall 8 (by simp)
  obtain rfl : x9 = true := hall 9 (by simp)
  subst ha
  have HZ : Hid (Below X.heap.size X Z) := IB
  have HS := Lib.hid (IS.out rfl)
  clear IB IS J9 hall hs EQ ER C0
  dsimp only [Exit.then, Exit.inBlock]
  go_wp2_with fail
  go_ret
  exact ⟨gs, rfl, HS.out.1, HS.out.2, HB.out.trans (HZ.out.mono HB.out.size)⟩
end Go.Proofs.YtbhkenphcahifaaGreat
