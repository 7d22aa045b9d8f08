import Derived.Test.YtbhkenphcahifaaGreatNL
namespace Go.Proofs.YtbhkenphcahifaaGreat
open Go.RowKit Go.Shelf
attribute [local go_sem] Oper.semAt_some
set_option maxRecDepth 100000
set_option maxHeartbeats 4000000

/-- a pair of numbers in memory, a spec of two sides in a box -/
def Two (w : World) (g o : Nat) (a b : Int) : Prop := w.cell? ⟨g, o, none⟩ = some (.int .i64 a) ∧ w.cell? ⟨g, o + 1, none⟩ = some (.int .i64 b)
theorem Two.keep {w w' : World} {g o : Nat} {a b : Int} (h : Two w g o a b) (hb : Below w.heap.size w w') : Two w' g o a b := ⟨kcell hb h.1, kcell hb h.2⟩
theorem info30 : (Tryz.prog.info? 34).map (·.size) = some 3 := by kernel_rfl
theorem Ints.two {w : World} {sa : Option Addr} {a b : Int} (h : Ints w sa [a, b]) : ∃ g o, sa = some ⟨g, o, none⟩ ∧ Two w g o a b := by
  obtain ⟨g, o, rfl, hc⟩ := h.at_ (by simp)
  have e0 := hc 0 (by simp)
  have e1 := hc 1 (by simp)
  exact ⟨g, o, rfl, e0, e1⟩
theorem rWords_any {w : World} {g o : Nat} (kn ln : Nat) (hk : kn ≤ 16) (h1 : 1 ≤ ln) (hl : ln ≤ 5) (ht : Two w g o kn ln) (sc : Nat) (kind hosts : Int) :
    Calls Tryz.prog 95 #[.agg #[.int .i64 kind, .slice (some ⟨g, o, none⟩) 2 sc, .int .i64 hosts]] w fun e w' => e = .returned (.int .i64 (wordsI [(kn : Int), (ln : Int)])) ∧ Below w.heap.size w w' := by
  have HB := Lib.hid ((Below.refl w.heap.size w).alloc (Nat.le_refl _) (.cells #[.int .i64 kind, .slice (some ⟨g, o, none⟩) 2 sc, .int .i64 hosts] 34))
  have Q0 := Lib.hid (heap_alloc_new w (.cells #[.int .i64 kind, .slice (some ⟨g, o, none⟩) 2 sc, .int .i64 hosts] 34))
  have c0 := cellR 0 Q0.out rfl
  have c1 := cellR 1 Q0.out rfl
  have c2 := cellR 2 Q0.out rfl
  obtain ⟨e0, e1⟩ := ht.keep HB.out
  have HWD : Hid (wordsI [(kn : Int), (ln : Int)] = ((kn ^ (ln - 1) : Nat) : Int)) := rfl
  have W3 := same_of (fun W => rpower_any kn (ln - 1) hk (by omega) W)
  have hli : ((ln - 1 : Nat) : Int) = (ln : Int) - 1 := by omega
  have hlw : wrap64 ((ln : Int) - 1) = (ln : Int) - 1 := by unfold wrap64; omega
  rw [hli] at W3
  rw [HWD.out]
  generalize kn ^ (ln - 1) = pw at *
  clear HWD hli Q0 ht
  go_enter Tryz.func95, Tryz.ntmps95
  go_wp2_with fail
  generalize w.alloc (.cells #[.int .i64 kind, .slice (some ⟨g, o, none⟩) 2 sc, .int .i64 hosts] 34) = X at *
  go_quiet (first | (go_at_call 63; refine Calls.quiet_of_same (W3.out _)))
  go_wp2_with fail
  go_ret
  exact ⟨rfl, below_drewN HB.out _⟩
theorem rGroups_any {w : World} {g o : Nat} (a b : Int) (h1 : 1 ≤ a) (h2 : a ≤ 16) (h3 : 1 ≤ b) (h4 : b ≤ 4) (ht : Two w g o a b) (sc : Nat) (kind hosts : Int) :
    Calls Tryz.prog 65 #[.agg #[.int .i64 kind, .slice (some ⟨g, o, none⟩) 2 sc, .int .i64 hosts]] w fun e w' => e = .returned (.int .i64 (a * b + 1)) ∧ Below w.heap.size w w' := by
  have HB := Lib.hid ((Below.refl w.heap.size w).alloc (Nat.le_refl _) (.cells #[.int .i64 kind, .slice (some ⟨g, o, none⟩) 2 sc, .int .i64 hosts] 34))
  have Q0 := Lib.hid (heap_alloc_new w (.cells #[.int .i64 kind, .slice (some ⟨g, o, none⟩) 2 sc, .int .i64 hosts] 34))
  have c0 := cellR 0 Q0.out rfl
  have c1 := cellR 1 Q0.out rfl
  have c2 := cellR 2 Q0.out rfl
  obtain ⟨e0, e1⟩ := ht.keep HB.out
  obtain ⟨b1, b2, b3, b4⟩ := drag_bound h1 h2 h3 h4
  have w1' : wrap64 (a * b) = a * b := by generalize a * b = z at *; unfold wrap64; omega
  have w2' : wrap64 (a * b + 1) = a * b + 1 := by generalize a * b = z at *; unfold wrap64; omega
  clear b1 b2 b3 b4 h1 h2 h3 h4 Q0 ht
  go_enter Tryz.func65, Tryz.ntmps65
  go_wp2_with fail
  generalize w.alloc (.cells #[.int .i64 kind, .slice (some ⟨g, o, none⟩) 2 sc, .int .i64 hosts] 34) = X at *
  go_quiet (fail)
  go_wp2_with fail
  go_ret
  exact ⟨by show Ending.returned (.int .i64 (wrap64 (a * b + 1))) = _; rw [w2'], below_drewN HB.out _⟩
theorem rSw2_any {w : World} {g o : Nat} (kn ln : Nat) (hk : kn ≤ 16) (h1 : 1 ≤ ln) (hl : ln ≤ 5) (ht : Two w g o kn ln) (sc : Nat) (hosts : Int) :
    Calls Tryz.prog 51 #[.agg #[.int .i64 2, .slice (some ⟨g, o, none⟩) 2 sc, .int .i64 hosts]] w fun e w' => e = .returned (.int .i64 ((ln : Int) * wordsI [(kn : Int), (ln : Int)])) ∧ Below w.heap.size w w' := by
  have HB := Lib.hid ((Below.refl w.heap.size w).alloc (Nat.le_refl _) (.cells #[.int .i64 2, .slice (some ⟨g, o, none⟩) 2 sc, .int .i64 hosts] 34))
  have Q0 := Lib.hid (heap_alloc_new w (.cells #[.int .i64 2, .slice (some ⟨g, o, none⟩) 2 sc, .int .i64 hosts] 34))
  have c0 := cellR 0 Q0.out rfl
  have c1 := cellR 1 Q0.out rfl
  have c2 := cellR 2 Q0.out rfl
  obtain ⟨e0, e1⟩ := ht.keep HB.out
  obtain ⟨ww, hww⟩ : ∃ ww, ww = wordsI [(kn : Int), (ln : Int)] := ⟨_, rfl⟩
  have HWW := Lib.hid hww
  have hwb : 0 ≤ ww ∧ ww ≤ 1048576 := by
    rw [hww]
    have := pow_small (k := kn) (n := ln - 1) hk (by omega)
    show (0 : Int) ≤ ((kn ^ (ln - 1) : Nat) : Int) ∧ ((kn ^ (ln - 1) : Nat) : Int) ≤ 1048576
    omega
  have hw9 : IntKind.i64.wrap ((ln : Int) * ww) = (ln : Int) * ww := by
    rw [IntKind.wrap_i64]
    have m1 := Int.mul_le_mul (show (ln : Int) ≤ 5 by omega) hwb.2 hwb.1 (by decide)
    have m2 := Int.mul_nonneg (show (0 : Int) ≤ ln by omega) hwb.1
    generalize (ln : Int) * ww = z at *; omega
  rw [← hww]
  clear hww hwb
  go_enter Tryz.func51, Tryz.ntmps51
  go_wp2_with fail
  generalize w.alloc (.cells #[.int .i64 2, .slice (some ⟨g, o, none⟩) 2 sc, .int .i64 hosts] 34) = X at *
  have C1 := Lib.hid c1
  have E1 := Lib.hid e1
  have HT2 : Hid (∀ W, Below X.heap.size X W → Two W g o kn ln) := fun W hb => (ht.keep HB.out).keep hb
  have HK := Lib.hid (And.intro hk (And.intro h1 hl))
  clear c0 c1 c2 e0 e1 ht hk h1 hl
  refine (wpIn_wide (n := 0)).1 ?_
  refine region_det (by kernel_rfl) (I := fun listed a' w' => Hid (Below X.heap.size X w') ∧ a' = ⟨#[Value.agg #[.int .i64 2, .slice (some ⟨g, o, none⟩) 2 sc, .int .i64 hosts], Value.pointer (some ⟨w.heap.size, 0, none⟩), (if listed.getD 7 false = true then Value.int IntKind.i64 ((ln : Int) * ww) else Value.int IntKind.i64 (0)), undef, undef, Value.pointer (some ⟨w.heap.size, 0, none⟩), Value.int IntKind.i64 (2), Value.bool false, Value.bool false, undef, undef, undef, undef, undef, undef, undef, undef, undef, undef, undef, undef, undef, undef, undef, Value.bool true, Value.bool true, (if listed.getD 0 false = true then Value.pointer (some ⟨w.heap.size, 1, none⟩) else undef), (if listed.getD 1 false = true then Value.slice (some ⟨g, o, none⟩) 2 sc else undef), (if listed.getD 2 false = true then Value.pointer (some ⟨g, (o + 1), none⟩) else undef), (if listed.getD 3 false = true then Value.int IntKind.i64 ((ln : Int)) else undef), (if listed.getD 4 false = true then Value.agg #[.int .i64 2, .slice (some ⟨g, o, none⟩) 2 sc, .int .i64 hosts] else undef), (if listed.getD 5 false = true then Value.int IntKind.i64 (ww) else undef), (if listed.getD 6 false = true then Value.int IntKind.i64 ((ln : Int) * ww) else undef), undef, undef, undef, undef, undef, undef, undef], []⟩) (hup_check (by kernel_rfl)) ?h0 ?step ?fin
  case h0 => exact ⟨(Below.refl _ _).drew, rfl⟩
  case step =>
    intro listed a' w' i hs hbi hdep hi ⟨IB, ha⟩
    obtain ⟨ls⟩ := listed
    match ls, hs with
    | [x0, x1, x2, x3, x4, x5, x6, x7], _ =>
    subst ha
    have hi' : i = 0 ∨ i = 1 ∨ i = 2 ∨ i = 3 ∨ i = 4 ∨ i = 5 ∨ i = 6 ∨ i = 7 := by simp at hi; omega
    rcases hi' with rfl | rfl | rfl | rfl | rfl | rfl | rfl | rfl
    · obtain rfl : x0 = false := by simpa using hbi
      refine wpOpIn_plain (v := Value.pointer (some ⟨w.heap.size, 1, none⟩)) (w' := w') rfl rfl (by simp [Oper.semAt, execOp, go_sem]) ?_
      exact ⟨IB, rfl⟩
    · obtain rfl : x1 = false := by simpa using hbi
      obtain rfl : x0 = true := hdep _ rfl ⟨0, .data⟩ (by simp) rfl
      have c1 := kcell IB.out C1.out
      refine wpOpIn_plain (v := Value.slice (some ⟨g, o, none⟩) 2 sc) (w' := w') rfl rfl (by simp [Oper.semAt, execOp, go_sem, c1]) ?_
      exact ⟨IB, rfl⟩
    · obtain rfl : x2 = false := by simpa using hbi
      obtain rfl : x1 = true := hdep _ rfl ⟨1, .data⟩ (by simp) rfl
      refine wpOpIn_plain (v := Value.pointer (some ⟨g, (o + 1), none⟩)) (w' := w') rfl rfl (by simp [Oper.semAt, execOp, go_sem]) ?_
      exact ⟨IB, rfl⟩
    · obtain rfl : x3 = false := by simpa using hbi
      obtain rfl : x2 = true := hdep _ rfl ⟨2, .data⟩ (by simp) rfl
      have e1 := kcell IB.out E1.out
      refine wpOpIn_plain (v := Value.int IntKind.i64 ((ln : Int))) (w' := w') rfl rfl (by simp [Oper.semAt, execOp, go_sem, e1]) ?_
      exact ⟨IB, rfl⟩
    · obtain rfl : x4 = false := by simpa using hbi
      refine wpOpIn_load_row rfl rfl 34 _ rfl w.heap.size rfl 34 _ _ _ (heapB IB.out Q0.out) Tryz.underlying34 rfl info30 ?_
      exact ⟨IB, rfl⟩
    · obtain rfl : x5 = false := by simpa using hbi
      obtain rfl : x4 = true := hdep _ rfl ⟨4, .data⟩ (by simp) rfl
      refine wpOpIn_call (args := #[Value.agg #[.int .i64 2, .slice (some ⟨g, o, none⟩) 2 sc, .int .i64 hosts]]) rfl rfl (sem_call1 rfl rfl (enters_of Tryz.func95 (by kernel_rfl) rfl)) (HWW.out ▸ rWords_any kn ln HK.out.1 HK.out.2.1 HK.out.2.2 (HT2.out _ IB.out) sc 2 hosts) ?_
      rintro e V ⟨rfl, hb⟩
      exact ⟨_, rfl, (IB.out.trans (hb.mono IB.out.size)), rfl⟩
    · obtain rfl : x6 = false := by simpa using hbi
      obtain rfl : x3 = true := hdep _ rfl ⟨3, .data⟩ (by simp) rfl
      obtain rfl : x5 = true := hdep _ rfl ⟨5, .data⟩ (by simp) rfl
      refine wpOpIn_plain (v := Value.int IntKind.i64 ((ln : Int) * ww)) (w' := w') rfl rfl (by simp [Oper.semAt, execOp, go_sem, hw9]) ?_
      exact ⟨IB, rfl⟩
    · obtain rfl : x7 = false := by simpa using hbi
      obtain rfl : x6 = true := hdep _ rfl ⟨6, .data⟩ (by simp) rfl
      refine wpOpIn_plain rfl rfl rfl ?_
      exact ⟨IB, rfl⟩
  case fin =>
  intro listed a' Z hs hall ⟨IB, ha⟩
  obtain ⟨ls⟩ := listed
  match ls, hs with
  | [x0, x1, x2, x3, x4, x5, x6, x7], _ =>
  obtain rfl : x0 = true := hall 0 (by simp)
  obtain rfl : x1 = true := hall 1 (by simp)
  obtain rfl : x2 = true := hall 2 (by simp)
  obtain rfl : x3 = true := hall 3 (by simp)
  obtain rfl : x4 = true := hall 4 (by simp)
  obtain rfl : x5 = true := hall 5 (by simp)
  obtain rfl : x6 = true := hall 6 (by simp)
  obtain rfl : x7 = true := hall 7 (by simp)
  subst ha
  have HZ : Hid (Below X.heap.size X Z) := IB
  clear IB hall hs
  dsimp only [Exit.then, Exit.inBlock]
  go_wp2_with fail
  go_ret
  exact ⟨rfl, HB.out.trans (HZ.out.mono HB.out.size)⟩
theorem rSw3_any {w : World} {g o : Nat} (a b : Int) (h1 : 1 ≤ a) (h2 : a ≤ 16) (h3 : 1 ≤ b) (h4 : b ≤ 4) (ht : Two w g o a b) (sc : Nat) (hosts : Int) :
    Calls Tryz.prog 51 #[.agg #[.int .i64 3, .slice (some ⟨g, o, none⟩) 2 sc, .int .i64 hosts]] w fun e w' => e = .returned (.int .i64 (a * (a * b + 1))) ∧ Below w.heap.size w w' := by
  have HB := Lib.hid ((Below.refl w.heap.size w).alloc (Nat.le_refl _) (.cells #[.int .i64 3, .slice (some ⟨g, o, none⟩) 2 sc, .int .i64 hosts] 34))
  have Q0 := Lib.hid (heap_alloc_new w (.cells #[.int .i64 3, .slice (some ⟨g, o, none⟩) 2 sc, .int .i64 hosts] 34))
  have c0 := cellR 0 Q0.out rfl
  have c1 := cellR 1 Q0.out rfl
  have c2 := cellR 2 Q0.out rfl
  obtain ⟨e0, e1⟩ := ht.keep HB.out
  go_enter Tryz.func51, Tryz.ntmps51
  go_wp2_with fail
  generalize w.alloc (.cells #[.int .i64 3, .slice (some ⟨g, o, none⟩) 2 sc, .int .i64 hosts] 34) = X at *
  have C1 := Lib.hid c1
  have E1 := Lib.hid e0
  have HT2 : Hid (∀ W, Below X.heap.size X W → Two W g o a b) := fun W hb => (ht.keep HB.out).keep hb
  have HK := Lib.hid (And.intro h1 (And.intro h2 (And.intro h3 h4)))
  have hw9 : IntKind.i64.wrap (a * (a * b + 1)) = a * (a * b + 1) := by
    rw [IntKind.wrap_i64]
    obtain ⟨b1, b2, b3, b4⟩ := drag_bound h1 h2 h3 h4
    generalize a * (a * b + 1) = z at *; omega
  clear c0 c1 c2 e0 e1 ht h1 h2 h3 h4
  refine (wpIn_wide (n := 0)).1 ?_
  refine region_det (by kernel_rfl) (I := fun listed a' w' => Hid (Below X.heap.size X w') ∧ a' = ⟨#[Value.agg #[.int .i64 3, .slice (some ⟨g, o, none⟩) 2 sc, .int .i64 hosts], Value.pointer (some ⟨w.heap.size, 0, none⟩), (if listed.getD 7 false = true then Value.int IntKind.i64 (a * (a * b + 1)) else Value.int IntKind.i64 (0)), undef, undef, Value.pointer (some ⟨w.heap.size, 0, none⟩), Value.int IntKind.i64 (3), Value.bool false, Value.bool false, undef, undef, undef, undef, undef, undef, undef, undef, undef, undef, undef, undef, undef, undef, undef, Value.bool false, Value.bool false, undef, undef, undef, undef, undef, undef, undef, (if listed.getD 0 false = true then Value.pointer (some ⟨w.heap.size, 1, none⟩) else undef), (if listed.getD 1 false = true then Value.slice (some ⟨g, o, none⟩) 2 sc else undef), (if listed.getD 2 false = true then Value.pointer (some ⟨g, o, none⟩) else undef), (if listed.getD 3 false = true then Value.int IntKind.i64 (a) else undef), (if listed.getD 4 false = true then Value.agg #[.int .i64 3, .slice (some ⟨g, o, none⟩) 2 sc, .int .i64 hosts] else undef), (if listed.getD 5 false = true then Value.int IntKind.i64 (a * b + 1) else undef), (if listed.getD 6 false = true then Value.int IntKind.i64 (a * (a * b + 1)) else undef)], []⟩) (hup_check (by kernel_rfl)) ?h0 ?step ?fin
  case h0 => exact ⟨(Below.refl _ _).drew, rfl⟩
  case step =>
    intro listed a' w' i hs hbi hdep hi ⟨IB, ha⟩
    obtain ⟨ls⟩ := listed
    match ls, hs with
    | [x0, x1, x2, x3, x4, x5, x6, x7], _ =>
    subst ha
    have hi' : i = 0 ∨ i = 1 ∨ i = 2 ∨ i = 3 ∨ i = 4 ∨ i = 5 ∨ i = 6 ∨ i = 7 := by simp at hi; omega
    rcases hi' with rfl | rfl | rfl | rfl | rfl | rfl | rfl | rfl
    · obtain rfl : x0 = false := by simpa using hbi
      refine wpOpIn_plain (v := Value.pointer (some ⟨w.heap.size, 1, none⟩)) (w' := w') rfl rfl (by simp [Oper.semAt, execOp, go_sem]) ?_
      exact ⟨IB, rfl⟩
    · obtain rfl : x1 = false := by simpa using hbi
      obtain rfl : x0 = true := hdep _ rfl ⟨0, .data⟩ (by simp) rfl
      have c1 := kcell IB.out C1.out
      refine wpOpIn_plain (v := Value.slice (some ⟨g, o, none⟩) 2 sc) (w' := w') rfl rfl (by simp [Oper.semAt, execOp, go_sem, c1]) ?_
      exact ⟨IB, rfl⟩
    · obtain rfl : x2 = false := by simpa using hbi
      obtain rfl : x1 = true := hdep _ rfl ⟨1, .data⟩ (by simp) rfl
      refine wpOpIn_plain (v := Value.pointer (some ⟨g, o, none⟩)) (w' := w') rfl rfl (by simp [Oper.semAt, execOp, go_sem]) ?_
      exact ⟨IB, rfl⟩
    · obtain rfl : x3 = false := by simpa using hbi
      obtain rfl : x2 = true := hdep _ rfl ⟨2, .data⟩ (by simp) rfl
      have e1 := kcell IB.out E1.out
      refine wpOpIn_plain (v := Value.int IntKind.i64 (a)) (w' := w') rfl rfl (by simp [Oper.semAt, execOp, go_sem, e1]) ?_
      exact ⟨IB, rfl⟩
    · obtain rfl : x4 = false := by simpa using hbi
      refine wpOpIn_load_row rfl rfl 34 _ rfl w.heap.size rfl 34 _ _ _ (heapB IB.out Q0.out) Tryz.underlying34 rfl info30 ?_
      exact ⟨IB, rfl⟩
    · obtain rfl : x5 = false := by simpa using hbi
      obtain rfl : x4 = true := hdep _ rfl ⟨4, .data⟩ (by simp) rfl
      refine wpOpIn_call (args := #[Value.agg #[.int .i64 3, .slice (some ⟨g, o, none⟩) 2 sc, .int .i64 hosts]]) rfl rfl (sem_call1 rfl rfl (enters_of Tryz.func65 (by kernel_rfl) rfl)) (rGroups_any a b HK.out.1 HK.out.2.1 HK.out.2.2.1 HK.out.2.2.2 (HT2.out _ IB.out) sc 3 hosts) ?_
      rintro e V ⟨rfl, hb⟩
      exact ⟨_, rfl, (IB.out.trans (hb.mono IB.out.size)), rfl⟩
    · obtain rfl : x6 = false := by simpa using hbi
      obtain rfl : x3 = true := hdep _ rfl ⟨3, .data⟩ (by simp) rfl
      obtain rfl : x5 = true := hdep _ rfl ⟨5, .data⟩ (by simp) rfl
      refine wpOpIn_plain (v := Value.int IntKind.i64 (a * (a * b + 1))) (w' := w') rfl rfl (by simp [Oper.semAt, execOp, go_sem, hw9]) ?_
      exact ⟨IB, rfl⟩
    · obtain rfl : x7 = false := by simpa using hbi
      obtain rfl : x6 = true := hdep _ rfl ⟨6, .data⟩ (by simp) rfl
      refine wpOpIn_plain rfl rfl rfl ?_
      exact ⟨IB, rfl⟩
  case fin =>
  intro listed a' Z hs hall ⟨IB, ha⟩
  obtain ⟨ls⟩ := listed
  match ls, hs with
  | [x0, x1, x2, x3, x4, x5, x6, x7], _ =>
  obtain rfl : x0 = true := hall 0 (by simp)
  obtain rfl : x1 = true := hall 1 (by simp)
  obtain rfl : x2 = true := hall 2 (by simp)
  obtain rfl : x3 = true := hall 3 (by simp)
  obtain rfl : x4 = true := hall 4 (by simp)
  obtain rfl : x5 = true := hall 5 (by simp)
  obtain rfl : x6 = true := hall 6 (by simp)
  obtain rfl : x7 = true := hall 7 (by simp)
  subst ha
  have HZ : Hid (Below X.heap.size X Z) := IB
  clear IB hall hs
  dsimp only [Exit.then, Exit.inBlock]
  go_wp2_with fail
  go_ret
  exact ⟨rfl, HB.out.trans (HZ.out.mono HB.out.size)⟩
end Go.Proofs.YtbhkenphcahifaaGreat
