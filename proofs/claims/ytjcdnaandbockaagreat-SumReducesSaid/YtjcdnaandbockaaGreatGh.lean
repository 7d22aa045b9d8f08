import Derived.Test.YtjcdnaandbockaaGreatGg
namespace Go.Proofs.YtjcdnaandbockaaGreat
open Go.RowKit Go.Shelf
attribute [local go_sem] Oper.semAt_some
set_option maxRecDepth 100000
set_option maxHeartbeats 1000000

theorem heapB {w w' : World} {b : Nat} {o : Obj} (hb : Below w.heap.size w w') (h : w.heap[b]? = some o) : w'.heap[b]? = some o := (hb.block b (Array.getElem?_eq_some_iff.1 h).1).trans h
theorem sem_callV2 {P : Program} {o : Oper} {a : Act} {w : World} {f x y : Operand} {g : FuncId} {ts : Array TypeId} {vx vy : Value} (hop : o.op = .call { callee := .value f, args := #[x, y], argTypes := ts }) (hf : a.eval f = .func (.func g) #[] #[]) (hx : a.eval x = vx) (hy : a.eval y = vy)
    (eg : ∀ args w, (callFunc g args).run P w = .ok (.enter g args) w) : (o.semAt none a.eval).run P w = .ok (.enter g #[vx, vy]) w := by
  simp [Oper.semAt, hop, execOp, resolve, invoke, eg, hf, hx, hy, Deferred.ofValue]
theorem iwrap_sg (x : Nat) (hx : x < 18446744073709551616) : IntKind.i64.wrap (x : Int) = sg x := by rw [IntKind.wrap_i64]; unfold sg; split <;> omega
def bestL (n : Nat) (u v : Vl) : Vl := if orI (if n = 108 then cmpI (sg u.x) (sg v.x) else cmpI (sg v.x) (sg u.x)) (cmpI u.p v.p) < 0 then u else v
theorem best108 (u v : Vl) : bestL 108 u v = if orI (cmpI (sg u.x) (sg v.x)) (cmpI u.p v.p) < 0 then u else v := by unfold bestL; rw [if_pos rfl]
theorem best109 (u v : Vl) : bestL 109 u v = if orI (cmpI (sg v.x) (sg u.x)) (cmpI u.p v.p) < 0 then u else v := by unfold bestL; rw [if_neg (show ¬ (109 = 108) by decide)]
theorem f106_108 {w : World} {b : Nat} {u v : Vl} (hu : u.Ok) (hv : v.Ok) (hh : Holds w b 133 (.func (.func 118) #[] #[])) :
    Calls Tryz.prog 116 #[vA u, vA v, .pointer (some ⟨b, 0, none⟩)] w fun e w' => e = .returned (vA (bestL 108 u v)) ∧ Below w.heap.size w w' := by
  obtain ⟨x, p⟩ := u
  obtain ⟨y, q⟩ := v
  have HX : Hid (x < 18446744073709551616) := hu.x
  have HY : Hid (y < 18446744073709551616) := hv.x
  have HP : Hid (bestL 108 ⟨x, p⟩ ⟨y, q⟩ = if orI (cmpI (sg x) (sg y)) (cmpI p q) < 0 then ⟨x, p⟩ else ⟨y, q⟩) := best108 ⟨x, p⟩ ⟨y, q⟩
  clear hu hv
  unfold vA
  obtain ⟨hb, h1, h2, h3, hz⟩ := three w (.cells #[.int .u64 x, .int .i64 p] 24) (.cells #[.int .u64 y, .int .i64 q] 24) (.cells #[.int .u64 0, .int .i64 0] 24)
  have H0 := Lib.hid (heapB hb hh)
  have HB := Lib.hid hb
  have H1 := Lib.hid h1
  have H2 := Lib.hid h2
  have H3 := Lib.hid h3
  have HZ := Lib.hid hz
  clear hb h1 h2 h3 hz hh
  go_enter Tryz.func116, Tryz.ntmps116
  go_wp2_with fail
  generalize ((w.alloc (.cells #[.int .u64 x, .int .i64 p] 24)).alloc (.cells #[.int .u64 y, .int .i64 q] 24)).alloc (.cells #[.int .u64 0, .int .i64 0] 24) = X at *
  refine (wpIn_wide (n := 0)).1 ?_
  refine region_det (by kernel_rfl) (I := fun listed a' w' => ∃ (g : Nat), Hid (Below X.heap.size X w') ∧ Hid (listed.getD 13 false = true → w'.heap[g]? = some (.cells #[.int .i64 (cmpI (sg x) (sg y)), .int .i64 (cmpI p q)] 3 (0, 0))) ∧ a' = ⟨#[Value.agg #[Value.int IntKind.u64 ↑x, Value.int IntKind.i64 p], Value.agg #[Value.int IntKind.u64 ↑y, Value.int IntKind.i64 q], Value.pointer (some ⟨b, 0, none⟩), Value.pointer (some ⟨w.heap.size, 0, none⟩), Value.pointer (some ⟨w.heap.size + 1, 0, none⟩), Value.pointer (some ⟨w.heap.size + 1 + 1, 0, none⟩), (if listed.getD 0 false = true then Value.func (.func 118) #[] #[] else undef), (if listed.getD 1 false = true then Value.pointer (some ⟨w.heap.size, 0, none⟩) else undef), (if listed.getD 2 false = true then Value.int IntKind.u64 ↑x else undef), (if listed.getD 3 false = true then Value.int IntKind.i64 (sg x) else undef), (if listed.getD 4 false = true then Value.pointer (some ⟨(w.heap.size + 1), 0, none⟩) else undef), (if listed.getD 5 false = true then Value.int IntKind.u64 ↑y else undef), (if listed.getD 6 false = true then Value.int IntKind.i64 (sg y) else undef), (if listed.getD 7 false = true then Value.int IntKind.i64 (cmpI (sg x) (sg y)) else undef), (if listed.getD 8 false = true then Value.pointer (some ⟨w.heap.size, 1, none⟩) else undef), (if listed.getD 9 false = true then Value.int IntKind.i64 p else undef), (if listed.getD 10 false = true then Value.pointer (some ⟨(w.heap.size + 1), 1, none⟩) else undef), (if listed.getD 11 false = true then Value.int IntKind.i64 q else undef), (if listed.getD 12 false = true then Value.int IntKind.i64 (cmpI p q) else undef), (if listed.getD 13 false = true then Value.slice (some ⟨g, 0, none⟩) 2 2 else undef), (if listed.getD 14 false = true then Value.int IntKind.i64 (orI (cmpI (sg x) (sg y)) (cmpI p q)) else undef), (if listed.getD 15 false = true then Value.bool (decide (orI (cmpI (sg x) (sg y)) (cmpI p q) < 0)) else undef), undef, undef], []⟩) (hup_check (by kernel_rfl)) ?h0 ?step ?fin
  case h0 => exact ⟨0, (Below.refl _ _).drew, (fun h => by simp at h), rfl⟩
  case step =>
    intro listed a' w' i hs hbi hdep hi ⟨g, IB, IG, ha⟩
    obtain ⟨ls⟩ := listed
    match ls, hs with
    | [x0, x1, x2, x3, x4, x5, x6, x7, x8, x9, x10, x11, x12, x13, x14, x15], _ =>
    subst ha
    have hi' : i = 0 ∨ i = 1 ∨ i = 2 ∨ i = 3 ∨ i = 4 ∨ i = 5 ∨ i = 6 ∨ i = 7 ∨ i = 8 ∨ i = 9 ∨ i = 10 ∨ i = 11 ∨ i = 12 ∨ i = 13 ∨ i = 14 ∨ i = 15 := by simp at hi; omega
    have hsz : X.heap.size ≤ w'.heap.size := IB.out.size
    have c0 := cellR 0 (heapB IB.out H0.out) rfl
    have c1 := cellR 0 (heapB IB.out H1.out) rfl
    have c2 := cellR 0 (heapB IB.out H2.out) rfl
    have d1 := cellR 1 (heapB IB.out H1.out) rfl
    have d2 := cellR 1 (heapB IB.out H2.out) rfl
    rcases hi' with rfl | rfl | rfl | rfl | rfl | rfl | rfl | rfl | rfl | rfl | rfl | rfl | rfl | rfl | rfl | rfl
    · obtain rfl : x0 = false := by simpa using hbi
      refine wpOpIn_plain (v := Value.func (.func 118) #[] #[]) (w' := w') rfl rfl (by simp [Oper.semAt, execOp, go_sem, c0]) ?_
      exact ⟨g, IB, IG, rfl⟩
    · obtain rfl : x1 = false := by simpa using hbi
      refine wpOpIn_plain (v := Value.pointer (some ⟨w.heap.size, 0, none⟩)) (w' := w') rfl rfl (by simp [Oper.semAt, execOp, go_sem]) ?_
      exact ⟨g, IB, IG, rfl⟩
    · obtain rfl : x2 = false := by simpa using hbi
      obtain rfl : x1 = true := hdep _ rfl ⟨1, .data⟩ (by simp) rfl
      refine wpOpIn_plain (v := Value.int IntKind.u64 ↑x) (w' := w') rfl rfl (by simp [Oper.semAt, execOp, go_sem, c1]) ?_
      exact ⟨g, IB, IG, rfl⟩
    · obtain rfl : x3 = false := by simpa using hbi
      obtain rfl : x2 = true := hdep _ rfl ⟨2, .data⟩ (by simp) rfl
      refine wpOpIn_plain (v := Value.int IntKind.i64 (sg x)) (w' := w') rfl rfl (by simp [Oper.semAt, execOp, go_sem, iwrap_sg x HX.out]) ?_
      exact ⟨g, IB, IG, rfl⟩
    · obtain rfl : x4 = false := by simpa using hbi
      refine wpOpIn_plain (v := Value.pointer (some ⟨(w.heap.size + 1), 0, none⟩)) (w' := w') rfl rfl (by simp [Oper.semAt, execOp, go_sem]) ?_
      exact ⟨g, IB, IG, rfl⟩
    · obtain rfl : x5 = false := by simpa using hbi
      obtain rfl : x4 = true := hdep _ rfl ⟨4, .data⟩ (by simp) rfl
      refine wpOpIn_plain (v := Value.int IntKind.u64 ↑y) (w' := w') rfl rfl (by simp [Oper.semAt, execOp, go_sem, c2]) ?_
      exact ⟨g, IB, IG, rfl⟩
    · obtain rfl : x6 = false := by simpa using hbi
      obtain rfl : x5 = true := hdep _ rfl ⟨5, .data⟩ (by simp) rfl
      refine wpOpIn_plain (v := Value.int IntKind.i64 (sg y)) (w' := w') rfl rfl (by simp [Oper.semAt, execOp, go_sem, iwrap_sg y HY.out]) ?_
      exact ⟨g, IB, IG, rfl⟩
    · obtain rfl : x7 = false := by simpa using hbi
      obtain rfl : x0 = true := hdep _ rfl ⟨0, .data⟩ (by simp) rfl
      obtain rfl : x3 = true := hdep _ rfl ⟨3, .data⟩ (by simp) rfl
      obtain rfl : x6 = true := hdep _ rfl ⟨6, .data⟩ (by simp) rfl
      refine wpOpIn_call (args := #[Value.int IntKind.i64 (sg x), Value.int IntKind.i64 (sg y)]) rfl rfl (sem_callV2 rfl rfl rfl rfl (enters_of Tryz.func118 (by kernel_rfl) rfl)) (f108 (sg x) (sg y) w') ?_
      rintro e W ⟨rfl, rfl⟩
      exact ⟨_, rfl, g, IB, IG, rfl⟩
    · obtain rfl : x8 = false := by simpa using hbi
      refine wpOpIn_plain (v := Value.pointer (some ⟨w.heap.size, 1, none⟩)) (w' := w') rfl rfl (by simp [Oper.semAt, execOp, go_sem]) ?_
      exact ⟨g, IB, IG, rfl⟩
    · obtain rfl : x9 = false := by simpa using hbi
      obtain rfl : x8 = true := hdep _ rfl ⟨8, .data⟩ (by simp) rfl
      refine wpOpIn_plain (v := Value.int IntKind.i64 p) (w' := w') rfl rfl (by simp [Oper.semAt, execOp, go_sem, d1]) ?_
      exact ⟨g, IB, IG, rfl⟩
    · obtain rfl : x10 = false := by simpa using hbi
      refine wpOpIn_plain (v := Value.pointer (some ⟨(w.heap.size + 1), 1, none⟩)) (w' := w') rfl rfl (by simp [Oper.semAt, execOp, go_sem]) ?_
      exact ⟨g, IB, IG, rfl⟩
    · obtain rfl : x11 = false := by simpa using hbi
      obtain rfl : x10 = true := hdep _ rfl ⟨10, .data⟩ (by simp) rfl
      refine wpOpIn_plain (v := Value.int IntKind.i64 q) (w' := w') rfl rfl (by simp [Oper.semAt, execOp, go_sem, d2]) ?_
      exact ⟨g, IB, IG, rfl⟩
    · obtain rfl : x12 = false := by simpa using hbi
      obtain rfl : x9 = true := hdep _ rfl ⟨9, .data⟩ (by simp) rfl
      obtain rfl : x11 = true := hdep _ rfl ⟨11, .data⟩ (by simp) rfl
      refine wpOpIn_call (args := #[Value.int IntKind.i64 p, Value.int IntKind.i64 q]) rfl rfl (sem_call2 rfl rfl rfl (enters_of Tryz.func118 (by kernel_rfl) rfl)) (f108 p q w') ?_
      rintro e W ⟨rfl, rfl⟩
      exact ⟨_, rfl, g, IB, IG, rfl⟩
    · obtain rfl : x13 = false := by simpa using hbi
      obtain rfl : x7 = true := hdep _ rfl ⟨7, .data⟩ (by simp) rfl
      obtain rfl : x12 = true := hdep _ rfl ⟨12, .data⟩ (by simp) rfl
      refine wpOpIn_plain (v := Value.slice (some ⟨w'.heap.size, 0, none⟩) 2 2) (w' := w'.alloc (.cells #[.int .i64 (cmpI (sg x) (sg y)), .int .i64 (cmpI p q)] 3)) rfl rfl (by simp [Oper.semAt, execOp, go_sem]) ?_
      have hb : Below w'.heap.size w' (w'.alloc (.cells #[.int .i64 (cmpI (sg x) (sg y)), .int .i64 (cmpI p q)] 3)) := (Below.refl _ _).alloc (Nat.le_refl _) _
      exact ⟨w'.heap.size, (IB.out.trans (hb.mono hsz)), (fun _ => heap_alloc_new w' _), rfl⟩
    · obtain rfl : x14 = false := by simpa using hbi
      obtain rfl : x13 = true := hdep _ rfl ⟨13, .data⟩ (by simp) rfl
      refine wpOpIn_call (args := #[Value.slice (some ⟨g, 0, none⟩) 2 2]) rfl rfl (sem_call1 rfl rfl (enters_of Tryz.func117 (by kernel_rfl) rfl)) (f107 (IG.out rfl)) ?_
      rintro e W ⟨rfl, rfl⟩
      exact ⟨_, rfl, g, IB, IG, rfl⟩
    · obtain rfl : x15 = false := by simpa using hbi
      obtain rfl : x14 = true := hdep _ rfl ⟨14, .data⟩ (by simp) rfl
      refine wpOpIn_plain (v := Value.bool (decide (orI (cmpI (sg x) (sg y)) (cmpI p q) < 0))) (w' := w') rfl rfl (by simp [Oper.semAt, execOp, go_sem]) ?_
      exact ⟨g, IB, IG, rfl⟩
  case fin =>
  intro listed a' Z hs hall ⟨g, IB, IG, ha⟩
  obtain ⟨ls⟩ := listed
  match ls, hs with
  | [x0, x1, x2, x3, x4, x5, x6, x7, x8, x9, x10, x11, x12, x13, x14, x15], _ =>
  obtain rfl : x0 = true := hall 0 (by simp)
  obtain rfl : x1 = true := hall 1 (by simp)
  obtain rfl : x2 = true := hall 2 (by simp)
  obtain rfl : x3 = true := hall 3 (by simp)
  obtain rfl : x4 = true := hall 4 (by simp)
  obtain rfl : x5 = true := hall 5 (by simp)
  obtain rfl : x6 = true := hall 6 (by simp)
  obtain rfl : x7 = true := hall 7 (by simp)
  obtain rfl : x8 = true := hall 8 (by simp)
  obtain rfl : x9 = true := hall 9 (by simp)
  obtain rfl : x10 = true := hall 10 (by simp)
  obtain rfl : x11 = true := hall 11 (by simp)
  obtain rfl : x12 = true := hall 12 (by simp)
  obtain rfl : x13 = true := hall 13 (by simp)
  obtain rfl : x14 = true := hall 14 (by simp)
  obtain rfl : x15 = true := hall 15 (by simp)
  subst ha
  have hb := HB.out.trans (IB.out.mono HB.out.size)
  have hz := HZ.out
  have h1 := heapB IB.out H1.out
  have h2 := heapB IB.out H2.out
  have h3 := heapB IB.out H3.out
  have c1 := cellR 0 h1 rfl
  have c2 := cellR 1 h1 rfl
  have d1 := cellR 0 h2 rfl
  have d2 := cellR 1 h2 rfl
  have e1 := cellR 0 h3 rfl
  have e2 := cellR 1 h3 rfl
  have f1 := frozen_of_row Z _ 0 _ _ h3
  have f2 := frozen_of_row Z _ 1 _ _ h3
  have l3 : w.heap.size + 1 + 1 < Z.heap.size := (Array.getElem?_eq_some_iff.1 h3).1
  have HH := Lib.hid h3
  have HBB := Lib.hid hb
  clear IG IB hall hs h1 h2 h3 hb H0 H1 H2 H3 HB
  dsimp only [Exit.then, Exit.inBlock]
  obtain ⟨o, ho⟩ : ∃ o, o = orI (cmpI (sg x) (sg y)) (cmpI p q) := ⟨_, rfl⟩
  rw [← ho] at HP ⊢
  clear ho
  by_cases hlt : o < 0
  · have HR : Hid (bestL 108 ⟨x, p⟩ ⟨y, q⟩ = ⟨x, p⟩) := by rw [HP.out, if_pos hlt]; rfl
    simp only [decide_eq_true hlt]
    go_wp2_with fail
    have hr := put2 HH.out (.int .u64 x) (.int .i64 p)
    have hb9 := (HBB.out.setCell (p := ⟨w.heap.size + 1 + 1, 0, none⟩) (by show _ ≤ _ + 1 + 1; omega) (.int .u64 x)).setCell (p := ⟨w.heap.size + 1 + 1, 1, none⟩) (by show _ ≤ _ + 1 + 1; omega) (.int .i64 p)
    refine bodyPost_ret (v := .agg #[.int .u64 x, .int .i64 p]) ?_ rfl ⟨by rw [HR.out], hb9⟩
    simp [results, Act.put, run_loadVar_row _ _ 24 24 _ _ _ hr Tryz.underlying24 rfl info54, Tryz.results116, asAddr]
  · have HR : Hid (bestL 108 ⟨x, p⟩ ⟨y, q⟩ = ⟨y, q⟩) := by rw [HP.out, if_neg hlt]; rfl
    simp only [decide_eq_false hlt]
    go_wp2_with fail
    have hr := put2 HH.out (.int .u64 y) (.int .i64 q)
    have hb9 := (HBB.out.setCell (p := ⟨w.heap.size + 1 + 1, 0, none⟩) (by show _ ≤ _ + 1 + 1; omega) (.int .u64 y)).setCell (p := ⟨w.heap.size + 1 + 1, 1, none⟩) (by show _ ≤ _ + 1 + 1; omega) (.int .i64 q)
    refine bodyPost_ret (v := .agg #[.int .u64 y, .int .i64 q]) ?_ rfl ⟨by rw [HR.out], hb9⟩
    simp [results, Act.put, run_loadVar_row _ _ 24 24 _ _ _ hr Tryz.underlying24 rfl info54, Tryz.results116, asAddr]
theorem f106_109 {w : World} {b : Nat} {u v : Vl} (hu : u.Ok) (hv : v.Ok) (hh : Holds w b 133 (.func (.func 119) #[] #[])) :
    Calls Tryz.prog 116 #[vA u, vA v, .pointer (some ⟨b, 0, none⟩)] w fun e w' => e = .returned (vA (bestL 109 u v)) ∧ Below w.heap.size w w' := by
  obtain ⟨x, p⟩ := u
  obtain ⟨y, q⟩ := v
  have HX : Hid (x < 18446744073709551616) := hu.x
  have HY : Hid (y < 18446744073709551616) := hv.x
  have HP : Hid (bestL 109 ⟨x, p⟩ ⟨y, q⟩ = if orI (cmpI (sg y) (sg x)) (cmpI p q) < 0 then ⟨x, p⟩ else ⟨y, q⟩) := best109 ⟨x, p⟩ ⟨y, q⟩
  clear hu hv
  unfold vA
  obtain ⟨hb, h1, h2, h3, hz⟩ := three w (.cells #[.int .u64 x, .int .i64 p] 24) (.cells #[.int .u64 y, .int .i64 q] 24) (.cells #[.int .u64 0, .int .i64 0] 24)
  have H0 := Lib.hid (heapB hb hh)
  have HB := Lib.hid hb
  have H1 := Lib.hid h1
  have H2 := Lib.hid h2
  have H3 := Lib.hid h3
  have HZ := Lib.hid hz
  clear hb h1 h2 h3 hz hh
  go_enter Tryz.func116, Tryz.ntmps116
  go_wp2_with fail
  generalize ((w.alloc (.cells #[.int .u64 x, .int .i64 p] 24)).alloc (.cells #[.int .u64 y, .int .i64 q] 24)).alloc (.cells #[.int .u64 0, .int .i64 0] 24) = X at *
  refine (wpIn_wide (n := 0)).1 ?_
  refine region_det (by kernel_rfl) (I := fun listed a' w' => ∃ (g : Nat), Hid (Below X.heap.size X w') ∧ Hid (listed.getD 13 false = true → w'.heap[g]? = some (.cells #[.int .i64 (cmpI (sg y) (sg x)), .int .i64 (cmpI p q)] 3 (0, 0))) ∧ a' = ⟨#[Value.agg #[Value.int IntKind.u64 ↑x, Value.int IntKind.i64 p], Value.agg #[Value.int IntKind.u64 ↑y, Value.int IntKind.i64 q], Value.pointer (some ⟨b, 0, none⟩), Value.pointer (some ⟨w.heap.size, 0, none⟩), Value.pointer (some ⟨w.heap.size + 1, 0, none⟩), Value.pointer (some ⟨w.heap.size + 1 + 1, 0, none⟩), (if listed.getD 0 false = true then Value.func (.func 119) #[] #[] else undef), (if listed.getD 1 false = true then Value.pointer (some ⟨w.heap.size, 0, none⟩) else undef), (if listed.getD 2 false = true then Value.int IntKind.u64 ↑x else undef), (if listed.getD 3 false = true then Value.int IntKind.i64 (sg x) else undef), (if listed.getD 4 false = true then Value.pointer (some ⟨(w.heap.size + 1), 0, none⟩) else undef), (if listed.getD 5 false = true then Value.int IntKind.u64 ↑y else undef), (if listed.getD 6 false = true then Value.int IntKind.i64 (sg y) else undef), (if listed.getD 7 false = true then Value.int IntKind.i64 (cmpI (sg y) (sg x)) else undef), (if listed.getD 8 false = true then Value.pointer (some ⟨w.heap.size, 1, none⟩) else undef), (if listed.getD 9 false = true then Value.int IntKind.i64 p else undef), (if listed.getD 10 false = true then Value.pointer (some ⟨(w.heap.size + 1), 1, none⟩) else undef), (if listed.getD 11 false = true then Value.int IntKind.i64 q else undef), (if listed.getD 12 false = true then Value.int IntKind.i64 (cmpI p q) else undef), (if listed.getD 13 false = true then Value.slice (some ⟨g, 0, none⟩) 2 2 else undef), (if listed.getD 14 false = true then Value.int IntKind.i64 (orI (cmpI (sg y) (sg x)) (cmpI p q)) else undef), (if listed.getD 15 false = true then Value.bool (decide (orI (cmpI (sg y) (sg x)) (cmpI p q) < 0)) else undef), undef, undef], []⟩) (hup_check (by kernel_rfl)) ?h0 ?step ?fin
  case h0 => exact ⟨0, (Below.refl _ _).drew, (fun h => by simp at h), rfl⟩
  case step =>
    intro listed a' w' i hs hbi hdep hi ⟨g, IB, IG, ha⟩
    obtain ⟨ls⟩ := listed
    match ls, hs with
    | [x0, x1, x2, x3, x4, x5, x6, x7, x8, x9, x10, x11, x12, x13, x14, x15], _ =>
    subst ha
    have hi' : i = 0 ∨ i = 1 ∨ i = 2 ∨ i = 3 ∨ i = 4 ∨ i = 5 ∨ i = 6 ∨ i = 7 ∨ i = 8 ∨ i = 9 ∨ i = 10 ∨ i = 11 ∨ i = 12 ∨ i = 13 ∨ i = 14 ∨ i = 15 := by simp at hi; omega
    have hsz : X.heap.size ≤ w'.heap.size := IB.out.size
    have c0 := cellR 0 (heapB IB.out H0.out) rfl
    have c1 := cellR 0 (heapB IB.out H1.out) rfl
    have c2 := cellR 0 (heapB IB.out H2.out) rfl
    have d1 := cellR 1 (heapB IB.out H1.out) rfl
    have d2 := cellR 1 (heapB IB.out H2.out) rfl
    rcases hi' with rfl | rfl | rfl | rfl | rfl | rfl | rfl | rfl | rfl | rfl | rfl | rfl | rfl | rfl | rfl | rfl
    · obtain rfl : x0 = false := by simpa using hbi
      refine wpOpIn_plain (v := Value.func (.func 119) #[] #[]) (w' := w') rfl rfl (by simp [Oper.semAt, execOp, go_sem, c0]) ?_
      exact ⟨g, IB, IG, rfl⟩
    · obtain rfl : x1 = false := by simpa using hbi
      refine wpOpIn_plain (v := Value.pointer (some ⟨w.heap.size, 0, none⟩)) (w' := w') rfl rfl (by simp [Oper.semAt, execOp, go_sem]) ?_
      exact ⟨g, IB, IG, rfl⟩
    · obtain rfl : x2 = false := by simpa using hbi
      obtain rfl : x1 = true := hdep _ rfl ⟨1, .data⟩ (by simp) rfl
      refine wpOpIn_plain (v := Value.int IntKind.u64 ↑x) (w' := w') rfl rfl (by simp [Oper.semAt, execOp, go_sem, c1]) ?_
      exact ⟨g, IB, IG, rfl⟩
    · obtain rfl : x3 = false := by simpa using hbi
      obtain rfl : x2 = true := hdep _ rfl ⟨2, .data⟩ (by simp) rfl
      refine wpOpIn_plain (v := Value.int IntKind.i64 (sg x)) (w' := w') rfl rfl (by simp [Oper.semAt, execOp, go_sem, iwrap_sg x HX.out]) ?_
      exact ⟨g, IB, IG, rfl⟩
    · obtain rfl : x4 = false := by simpa using hbi
      refine wpOpIn_plain (v := Value.pointer (some ⟨(w.heap.size + 1), 0, none⟩)) (w' := w') rfl rfl (by simp [Oper.semAt, execOp, go_sem]) ?_
      exact ⟨g, IB, IG, rfl⟩
    · obtain rfl : x5 = false := by simpa using hbi
      obtain rfl : x4 = true := hdep _ rfl ⟨4, .data⟩ (by simp) rfl
      refine wpOpIn_plain (v := Value.int IntKind.u64 ↑y) (w' := w') rfl rfl (by simp [Oper.semAt, execOp, go_sem, c2]) ?_
      exact ⟨g, IB, IG, rfl⟩
    · obtain rfl : x6 = false := by simpa using hbi
      obtain rfl : x5 = true := hdep _ rfl ⟨5, .data⟩ (by simp) rfl
      refine wpOpIn_plain (v := Value.int IntKind.i64 (sg y)) (w' := w') rfl rfl (by simp [Oper.semAt, execOp, go_sem, iwrap_sg y HY.out]) ?_
      exact ⟨g, IB, IG, rfl⟩
    · obtain rfl : x7 = false := by simpa using hbi
      obtain rfl : x0 = true := hdep _ rfl ⟨0, .data⟩ (by simp) rfl
      obtain rfl : x3 = true := hdep _ rfl ⟨3, .data⟩ (by simp) rfl
      obtain rfl : x6 = true := hdep _ rfl ⟨6, .data⟩ (by simp) rfl
      refine wpOpIn_call (args := #[Value.int IntKind.i64 (sg x), Value.int IntKind.i64 (sg y)]) rfl rfl (sem_callV2 rfl rfl rfl rfl (enters_of Tryz.func119 (by kernel_rfl) rfl)) (f109 (sg x) (sg y) w') ?_
      rintro e W ⟨rfl, rfl⟩
      exact ⟨_, rfl, g, IB, IG, rfl⟩
    · obtain rfl : x8 = false := by simpa using hbi
      refine wpOpIn_plain (v := Value.pointer (some ⟨w.heap.size, 1, none⟩)) (w' := w') rfl rfl (by simp [Oper.semAt, execOp, go_sem]) ?_
      exact ⟨g, IB, IG, rfl⟩
    · obtain rfl : x9 = false := by simpa using hbi
      obtain rfl : x8 = true := hdep _ rfl ⟨8, .data⟩ (by simp) rfl
      refine wpOpIn_plain (v := Value.int IntKind.i64 p) (w' := w') rfl rfl (by simp [Oper.semAt, execOp, go_sem, d1]) ?_
      exact ⟨g, IB, IG, rfl⟩
    · obtain rfl : x10 = false := by simpa using hbi
      refine wpOpIn_plain (v := Value.pointer (some ⟨(w.heap.size + 1), 1, none⟩)) (w' := w') rfl rfl (by simp [Oper.semAt, execOp, go_sem]) ?_
      exact ⟨g, IB, IG, rfl⟩
    · obtain rfl : x11 = false := by simpa using hbi
      obtain rfl : x10 = true := hdep _ rfl ⟨10, .data⟩ (by simp) rfl
      refine wpOpIn_plain (v := Value.int IntKind.i64 q) (w' := w') rfl rfl (by simp [Oper.semAt, execOp, go_sem, d2]) ?_
      exact ⟨g, IB, IG, rfl⟩
    · obtain rfl : x12 = false := by simpa using hbi
      obtain rfl : x9 = true := hdep _ rfl ⟨9, .data⟩ (by simp) rfl
      obtain rfl : x11 = true := hdep _ rfl ⟨11, .data⟩ (by simp) rfl
      refine wpOpIn_call (args := #[Value.int IntKind.i64 p, Value.int IntKind.i64 q]) rfl rfl (sem_call2 rfl rfl rfl (enters_of Tryz.func118 (by kernel_rfl) rfl)) (f108 p q w') ?_
      rintro e W ⟨rfl, rfl⟩
      exact ⟨_, rfl, g, IB, IG, rfl⟩
    · obtain rfl : x13 = false := by simpa using hbi
      obtain rfl : x7 = true := hdep _ rfl ⟨7, .data⟩ (by simp) rfl
      obtain rfl : x12 = true := hdep _ rfl ⟨12, .data⟩ (by simp) rfl
      refine wpOpIn_plain (v := Value.slice (some ⟨w'.heap.size, 0, none⟩) 2 2) (w' := w'.alloc (.cells #[.int .i64 (cmpI (sg y) (sg x)), .int .i64 (cmpI p q)] 3)) rfl rfl (by simp [Oper.semAt, execOp, go_sem]) ?_
      have hb : Below w'.heap.size w' (w'.alloc (.cells #[.int .i64 (cmpI (sg y) (sg x)), .int .i64 (cmpI p q)] 3)) := (Below.refl _ _).alloc (Nat.le_refl _) _
      exact ⟨w'.heap.size, (IB.out.trans (hb.mono hsz)), (fun _ => heap_alloc_new w' _), rfl⟩
    · obtain rfl : x14 = false := by simpa using hbi
      obtain rfl : x13 = true := hdep _ rfl ⟨13, .data⟩ (by simp) rfl
      refine wpOpIn_call (args := #[Value.slice (some ⟨g, 0, none⟩) 2 2]) rfl rfl (sem_call1 rfl rfl (enters_of Tryz.func117 (by kernel_rfl) rfl)) (f107 (IG.out rfl)) ?_
      rintro e W ⟨rfl, rfl⟩
      exact ⟨_, rfl, g, IB, IG, rfl⟩
    · obtain rfl : x15 = false := by simpa using hbi
      obtain rfl : x14 = true := hdep _ rfl ⟨14, .data⟩ (by simp) rfl
      refine wpOpIn_plain (v := Value.bool (decide (orI (cmpI (sg y) (sg x)) (cmpI p q) < 0))) (w' := w') rfl rfl (by simp [Oper.semAt, execOp, go_sem]) ?_
      exact ⟨g, IB, IG, rfl⟩
  case fin =>
  intro listed a' Z hs hall ⟨g, IB, IG, ha⟩
  obtain ⟨ls⟩ := listed
  match ls, hs with
  | [x0, x1, x2, x3, x4, x5, x6, x7, x8, x9, x10, x11, x12, x13, x14, x15], _ =>
  obtain rfl : x0 = true := hall 0 (by simp)
  obtain rfl : x1 = true := hall 1 (by simp)
  obtain rfl : x2 = true := hall 2 (by simp)
  obtain rfl : x3 = true := hall 3 (by simp)
  obtain rfl : x4 = true := hall 4 (by simp)
  obtain rfl : x5 = true := hall 5 (by simp)
  obtain rfl : x6 = true := hall 6 (by simp)
  obtain rfl : x7 = true := hall 7 (by simp)
  obtain rfl : x8 = true := hall 8 (by simp)
  obtain rfl : x9 = true := hall 9 (by simp)
  obtain rfl : x10 = true := hall 10 (by simp)
  obtain rfl : x11 = true := hall 11 (by simp)
  obtain rfl : x12 = true := hall 12 (by simp)
  obtain rfl : x13 = true := hall 13 (by simp)
  obtain rfl : x14 = true := hall 14 (by simp)
  obtain rfl : x15 = true := hall 15 (by simp)
  subst ha
  have hb := HB.out.trans (IB.out.mono HB.out.size)
  have hz := HZ.out
  have h1 := heapB IB.out H1.out
  have h2 := heapB IB.out H2.out
  have h3 := heapB IB.out H3.out
  have c1 := cellR 0 h1 rfl
  have c2 := cellR 1 h1 rfl
  have d1 := cellR 0 h2 rfl
  have d2 := cellR 1 h2 rfl
  have e1 := cellR 0 h3 rfl
  have e2 := cellR 1 h3 rfl
  have f1 := frozen_of_row Z _ 0 _ _ h3
  have f2 := frozen_of_row Z _ 1 _ _ h3
  have l3 : w.heap.size + 1 + 1 < Z.heap.size := (Array.getElem?_eq_some_iff.1 h3).1
  have HH := Lib.hid h3
  have HBB := Lib.hid hb
  clear IG IB hall hs h1 h2 h3 hb H0 H1 H2 H3 HB
  dsimp only [Exit.then, Exit.inBlock]
  obtain ⟨o, ho⟩ : ∃ o, o = orI (cmpI (sg y) (sg x)) (cmpI p q) := ⟨_, rfl⟩
  rw [← ho] at HP ⊢
  clear ho
  by_cases hlt : o < 0
  · have HR : Hid (bestL 109 ⟨x, p⟩ ⟨y, q⟩ = ⟨x, p⟩) := by rw [HP.out, if_pos hlt]; rfl
    simp only [decide_eq_true hlt]
    go_wp2_with fail
    have hr := put2 HH.out (.int .u64 x) (.int .i64 p)
    have hb9 := (HBB.out.setCell (p := ⟨w.heap.size + 1 + 1, 0, none⟩) (by show _ ≤ _ + 1 + 1; omega) (.int .u64 x)).setCell (p := ⟨w.heap.size + 1 + 1, 1, none⟩) (by show _ ≤ _ + 1 + 1; omega) (.int .i64 p)
    refine bodyPost_ret (v := .agg #[.int .u64 x, .int .i64 p]) ?_ rfl ⟨by rw [HR.out], hb9⟩
    simp [results, Act.put, run_loadVar_row _ _ 24 24 _ _ _ hr Tryz.underlying24 rfl info54, Tryz.results116, asAddr]
  · have HR : Hid (bestL 109 ⟨x, p⟩ ⟨y, q⟩ = ⟨y, q⟩) := by rw [HP.out, if_neg hlt]; rfl
    simp only [decide_eq_false hlt]
    go_wp2_with fail
    have hr := put2 HH.out (.int .u64 y) (.int .i64 q)
    have hb9 := (HBB.out.setCell (p := ⟨w.heap.size + 1 + 1, 0, none⟩) (by show _ ≤ _ + 1 + 1; omega) (.int .u64 y)).setCell (p := ⟨w.heap.size + 1 + 1, 1, none⟩) (by show _ ≤ _ + 1 + 1; omega) (.int .i64 q)
    refine bodyPost_ret (v := .agg #[.int .u64 y, .int .i64 q]) ?_ rfl ⟨by rw [HR.out], hb9⟩
    simp [results, Act.put, run_loadVar_row _ _ 24 24 _ _ _ hr Tryz.underlying24 rfl info54, Tryz.results116, asAddr]
end Go.Proofs.YtjcdnaandbockaaGreat

namespace Go.Proofs.YtjcdnaandbockaaGreat
open Go.RowKit Go.Shelf
attribute [local go_sem] Oper.semAt_some
set_option maxRecDepth 100000
set_option maxHeartbeats 1000000

/-- the blocks of w from lo on are unchanged -/
structure Later (lo : Nat) (w W : World) : Prop where
  size : w.heap.size ≤ W.heap.size
  block : ∀ b, lo ≤ b → b < w.heap.size → W.heap[b]? = w.heap[b]?
theorem Later.refl (lo : Nat) (w : World) : Later lo w w := ⟨Nat.le_refl _, fun _ _ _ => rfl⟩
theorem Later.of_below {lo : Nat} {w W : World} (h : Below w.heap.size w W) : Later lo w W := ⟨h.size, fun b _ hb => h.block b hb⟩
theorem Later.trans {lo : Nat} {u v w : World} (h : Later lo u v) (h' : Later lo v w) : Later lo u w :=
  ⟨Nat.le_trans h.size h'.size, fun b h1 h2 => (h'.block b h1 (Nat.lt_of_lt_of_le h2 h.size)).trans (h.block b h1 h2)⟩
theorem Later.of_sole {lo b : Nat} {w W : World} (h : Sole b w W) (hb : b < lo ∨ w.heap.size ≤ b) : Later lo w W := ⟨h.size, fun k h1 h2 => h.block k h2 (by omega)⟩
theorem HL.later {lo : Nat} {w W : World} {b : Nat} {t : TypeId} {f : Value} (h : HL lo w b t f) (hl : Later lo w W) : Holds W b t f := (hl.block b h.1 h.2.lt).trans h.2

def Enters (n : Nat) : Prop := ∀ args w, (callFunc n args).run Tryz.prog w = .ok (.enter n args) w
/-- the function value v does f, in each world in which the blocks of w from lo on are unchanged -/
def Does (lo : Nat) (w : World) (v : Value) (f : Vl → Vl → Vl) : Prop :=
  ∃ (n : Nat) (cs : Array Value), v = .func (.func n) #[] cs ∧ Enters n ∧ ∀ W a b, a.Ok → b.Ok → Later lo w W → Calls Tryz.prog n (#[vA a, vA b] ++ cs) W fun e w' => e = .returned (vA (f a b)) ∧ Below W.heap.size W w'
theorem Does.later {lo : Nat} {w W : World} {v : Value} {f : Vl → Vl → Vl} (h : Does lo w v f) (hl : Later lo w W) : Does lo W v f := by
  obtain ⟨n, cs, h1, h2, h3⟩ := h
  exact ⟨n, cs, h1, h2, fun W' a b ha hb hW => h3 W' a b ha hb (hl.trans hW)⟩

theorem does_bits {lo : Nat} {w : World} {b n : Nat} {cs : Array Value} {g : Nat → Nat → Nat} (hh : HL lo w b 130 (.func (.func n) #[] cs)) (eg : Enters n)
    (hc : ∀ W (x y : Nat), x < 18446744073709551616 → y < 18446744073709551616 → Later lo w W → Calls Tryz.prog n (#[.int .u64 x, .int .u64 y] ++ cs) W fun e w' => e = .returned (.int .u64 (g x y : Nat)) ∧ Below W.heap.size W w') :
    Does lo w (cl1 125 b) (fun u v => ⟨g u.x v.x, 0⟩) :=
  ⟨125, _, rfl, enters_of Tryz.func125 (by kernel_rfl) rfl, fun W a c ha hc' hW => f112 eg (hh.later hW) fun W' hW' => hc W' a.x c.x ha.x hc'.x (hW.trans (.of_below hW'))⟩
theorem does_bits0 {lo : Nat} {w : World} {b n : Nat} {g : Nat → Nat → Nat} (hh : HL lo w b 130 (fn0 n)) (eg : Enters n)
    (hc : ∀ x y : Nat, x < 18446744073709551616 → y < 18446744073709551616 → ∀ W, Calls Tryz.prog n #[.int .u64 x, .int .u64 y] W fun e w' => e = .returned (.int .u64 (g x y : Nat)) ∧ W = w') :
    Does lo w (cl1 125 b) (fun u v => ⟨g u.x v.x, 0⟩) :=
  does_bits hh eg fun W x y hx hy _ => (hc x y hx hy W).mono fun _ _ ⟨h1, h2⟩ => ⟨h1, h2 ▸ Below.refl _ _⟩
def truthN (f : Bool → Bool → Bool) (x y : Nat) : Nat := if f ((x : Int) != 0) ((y : Int) != 0) = true then 1 else 0
theorem does_truth {lo : Nat} {w : World} {b q n : Nat} {f : Bool → Bool → Bool} (hh : HL lo w b 130 (cl1 100 q)) (hq : HL lo w q 128 (fn0 n)) (eg : Enters n)
    (hc : ∀ x y W, Calls Tryz.prog n #[.bool x, .bool y] W fun e w' => e = .returned (.bool (f x y)) ∧ W = w') :
    Does lo w (cl1 125 b) (fun u v => ⟨truthN f u.x v.x, 0⟩) :=
  does_bits hh (enters_of Tryz.func100 (by kernel_rfl) rfl) fun W x y hx hy hW => (f90 eg (hq.later hW) (hc _ _ W)).mono fun _ _ ⟨h1, h2⟩ => ⟨h1, h2 ▸ Below.refl _ _⟩
theorem does_103 {lo : Nat} {w : World} {b q : Nat} (hh : HL lo w b 130 (cl1 111 q)) (hq : HL lo w q 127 (fn0 113)) :
    Does lo w (cl1 125 b) (fun u v => ⟨pickN (fun i => decide (i < 0)) u.x v.x, 0⟩) :=
  does_bits hh (enters_of Tryz.func111 (by kernel_rfl) rfl) fun W x y hx hy hW => f101_103 hx hy (hq.later hW)
theorem does_104 {lo : Nat} {w : World} {b q : Nat} (hh : HL lo w b 130 (cl1 111 q)) (hq : HL lo w q 127 (fn0 114)) :
    Does lo w (cl1 125 b) (fun u v => ⟨pickN (fun i => decide (0 < i)) u.x v.x, 0⟩) :=
  does_bits hh (enters_of Tryz.func111 (by kernel_rfl) rfl) fun W x y hx hy hW => f101_104 hx hy (hq.later hW)
theorem does_102 {lo : Nat} {w : World} {b : Nat} (hh : HL lo w b 130 (fn0 112)) :
    Does lo w (cl1 125 b) (fun u v => ⟨valueN (joinF (factsN u.x) (factsN v.x)), 0⟩) :=
  does_bits hh (enters_of Tryz.func112 (by kernel_rfl) rfl) fun W x y hx hy hW => f102 x y hx hy W
theorem does_108 {lo : Nat} {w : World} {b : Nat} (hh : HL lo w b 133 (fn0 118)) : Does lo w (cl1 116 b) (bestL 108) :=
  ⟨116, _, rfl, enters_of Tryz.func116 (by kernel_rfl) rfl, fun W a c ha hc' hW => f106_108 ha hc' (hh.later hW)⟩
theorem does_109 {lo : Nat} {w : World} {b : Nat} (hh : HL lo w b 133 (fn0 119)) : Does lo w (cl1 116 b) (bestL 109) :=
  ⟨116, _, rfl, enters_of Tryz.func116 (by kernel_rfl) rfl, fun W a c ha hc' hW => f106_109 ha hc' (hh.later hW)⟩

def intOp (op : Int) (x y : Nat) : Nat :=
  if op = 1 then (x + y) % M64 else if op = 2 then (x * y) % M64 else if op = 3 then minS x y else if op = 4 then maxS x y else if op = 5 then x &&& y else if op = 6 then x ||| y else if op = 7 then x ^^^ y
  else if op = 8 then truthN (· && ·) x y else truthN (· || ·) x y
def realOp (op : Int) (x y : Nat) : Nat :=
  if op = 1 then valueN (joinF (factsN x) (factsN y)) else if op = 3 then pickN (fun i => decide (i < 0)) x y else pickN (fun i => decide (0 < i)) x y
/-- the result of an operation for two values -/
def opV (op kind : Int) (u v : Vl) : Vl :=
  if kind = 1 then ⟨intOp op u.x v.x, 0⟩ else if kind = 2 then ⟨realOp op u.x v.x, 0⟩ else if op = 10 then bestL 108 u v else bestL 109 u v
/-- the operations for a kind -/
def keysOf (kind : Int) : List Int := if kind = 1 then [1, 2, 3, 4, 5, 6, 7, 8, 9] else if kind = 2 then [1, 3, 4] else [10, 11]
def Ops (lo : Nat) (w : World) (kind : Int) (l : List (Int × Value)) : Prop := l.map (·.1) = keysOf kind ∧ ∀ p ∈ l, Does lo w p.2 (opV p.1 kind)

theorem opV_1_1 : opV 1 1 = fun u v => ⟨(u.x + v.x) % M64, 0⟩ := by funext u v; simp [opV, intOp, realOp]
theorem opV_2_1 : opV 2 1 = fun u v => ⟨(u.x * v.x) % M64, 0⟩ := by funext u v; simp [opV, intOp, realOp]
theorem opV_3_1 : opV 3 1 = fun u v => ⟨minS u.x v.x, 0⟩ := by funext u v; simp [opV, intOp, realOp]
theorem opV_4_1 : opV 4 1 = fun u v => ⟨maxS u.x v.x, 0⟩ := by funext u v; simp [opV, intOp, realOp]
theorem opV_5_1 : opV 5 1 = fun u v => ⟨u.x &&& v.x, 0⟩ := by funext u v; simp [opV, intOp, realOp]
theorem opV_6_1 : opV 6 1 = fun u v => ⟨u.x ||| v.x, 0⟩ := by funext u v; simp [opV, intOp, realOp]
theorem opV_7_1 : opV 7 1 = fun u v => ⟨u.x ^^^ v.x, 0⟩ := by funext u v; simp [opV, intOp, realOp]
theorem opV_8_1 : opV 8 1 = fun u v => ⟨truthN (· && ·) u.x v.x, 0⟩ := by funext u v; simp [opV, intOp, realOp]
theorem opV_9_1 : opV 9 1 = fun u v => ⟨truthN (· || ·) u.x v.x, 0⟩ := by funext u v; simp [opV, intOp, realOp]
theorem opV_1_2 : opV 1 2 = fun u v => ⟨valueN (joinF (factsN u.x) (factsN v.x)), 0⟩ := by funext u v; simp [opV, intOp, realOp]
theorem opV_3_2 : opV 3 2 = fun u v => ⟨pickN (fun i => decide (i < 0)) u.x v.x, 0⟩ := by funext u v; simp [opV, intOp, realOp]
theorem opV_4_2 : opV 4 2 = fun u v => ⟨pickN (fun i => decide (0 < i)) u.x v.x, 0⟩ := by funext u v; simp [opV, intOp, realOp]
theorem opV_10_3 : opV 10 3 = fun u v => bestL 108 u v := by funext u v; simp [opV, intOp, realOp]
theorem opV_11_3 : opV 11 3 = fun u v => bestL 109 u v := by funext u v; simp [opV, intOp, realOp]
theorem operations_any (kind : Int) (hk : 1 ≤ kind) (hk3 : kind ≤ 3) (w : World) : Calls Tryz.prog 59 #[.int .i64 kind] w fun e w' => ∃ b l, e = .returned (.map (some b)) ∧ MapIs w' b l ∧ Ops w.heap.size w' kind l ∧ Below w.heap.size w w' := by
  have h : kind = 1 ∨ kind = 2 ∨ kind = 3 := by omega
  rcases h with rfl | rfl | rfl
  · refine (operations_1 (R := fun e w' => ∃ b l, e = .returned (.map (some b)) ∧ MapIs w' b l ∧ Ops w.heap.size w' 1 l ∧ Below w.heap.size w w') w ((ofIntegers_any w).mono ?_))
    rintro e w' ⟨b, p1, p2, p3, p4, p5, p6, p7, p8, p9, q8, q9, rfl, _, hM, h1, h2, h3, h4, h5, h6, h7, h8, k8, h9, k9, hb⟩
    refine ⟨⟨_, rfl⟩, b, _, rfl, hM, ⟨rfl, ?_⟩, hb⟩
    intro p hp
    simp only [List.mem_cons, List.mem_nil_iff, or_false] at hp
    rcases hp with rfl | rfl | rfl | rfl | rfl | rfl | rfl | rfl | rfl
    · show Does _ _ _ (opV 1 1)
      rw [opV_1_1]
      exact does_bits0 h1 (enters_of Tryz.func101 (by kernel_rfl) rfl) fun x y _ _ W => f91 x y W
    · show Does _ _ _ (opV 2 1)
      rw [opV_2_1]
      exact does_bits0 h2 (enters_of Tryz.func102 (by kernel_rfl) rfl) fun x y _ _ W => f92 x y W
    · show Does _ _ _ (opV 3 1)
      rw [opV_3_1]
      exact does_bits0 h3 (enters_of Tryz.func103 (by kernel_rfl) rfl) fun x y hx hy W => f93 x y hx hy W
    · show Does _ _ _ (opV 4 1)
      rw [opV_4_1]
      exact does_bits0 h4 (enters_of Tryz.func104 (by kernel_rfl) rfl) fun x y hx hy W => f94 x y hx hy W
    · show Does _ _ _ (opV 5 1)
      rw [opV_5_1]
      exact does_bits0 h5 (enters_of Tryz.func105 (by kernel_rfl) rfl) fun x y hx hy W => f95 x y hx hy W
    · show Does _ _ _ (opV 6 1)
      rw [opV_6_1]
      exact does_bits0 h6 (enters_of Tryz.func106 (by kernel_rfl) rfl) fun x y hx hy W => f96 x y hx hy W
    · show Does _ _ _ (opV 7 1)
      rw [opV_7_1]
      exact does_bits0 h7 (enters_of Tryz.func107 (by kernel_rfl) rfl) fun x y hx hy W => f97 x y hx hy W
    · show Does _ _ _ (opV 8 1)
      rw [opV_8_1]
      exact does_truth h8 k8 (enters_of Tryz.func108 (by kernel_rfl) rfl) f98
    · show Does _ _ _ (opV 9 1)
      rw [opV_9_1]
      exact does_truth h9 k9 (enters_of Tryz.func109 (by kernel_rfl) rfl) f99
  · refine (operations_2 (R := fun e w' => ∃ b l, e = .returned (.map (some b)) ∧ MapIs w' b l ∧ Ops w.heap.size w' 2 l ∧ Below w.heap.size w w') w ((ofReals_any w).mono ?_))
    rintro e w' ⟨b, p, q, r, q', r', rfl, _, hM, h1, h2, h3, h4, h5, hb⟩
    refine ⟨⟨_, rfl⟩, b, _, rfl, hM, ⟨rfl, ?_⟩, hb⟩
    intro p hp
    simp only [List.mem_cons, List.mem_nil_iff, or_false] at hp
    rcases hp with rfl | rfl | rfl
    · show Does _ _ _ (opV 1 2)
      rw [opV_1_2]
      exact does_102 h1
    · show Does _ _ _ (opV 3 2)
      rw [opV_3_2]
      exact does_103 h2 h3
    · show Does _ _ _ (opV 4 2)
      rw [opV_4_2]
      exact does_104 h4 h5
  · refine (operations_3 (R := fun e w' => ∃ b l, e = .returned (.map (some b)) ∧ MapIs w' b l ∧ Ops w.heap.size w' 3 l ∧ Below w.heap.size w w') w ((ofPairs_any w).mono ?_))
    rintro e w' ⟨b, p, q, rfl, _, hM, h1, h2, hb⟩
    refine ⟨⟨_, rfl⟩, b, _, rfl, hM, ⟨rfl, ?_⟩, hb⟩
    intro p hp
    simp only [List.mem_cons, List.mem_nil_iff, or_false] at hp
    rcases hp with rfl | rfl
    · show Does _ _ _ (opV 10 3)
      rw [opV_10_3]
      exact does_108 h1
    · show Does _ _ _ (opV 11 3)
      rw [opV_11_3]
      exact does_109 h2
end Go.Proofs.YtjcdnaandbockaaGreat

namespace Go.Proofs.YtjcdnaandbockaaGreat
open Go.RowKit Go.Shelf
attribute [local go_sem] Oper.semAt_some
set_option maxRecDepth 100000
set_option maxHeartbeats 1000000

theorem put3 {w : World} {g : Nat} {a b c : Value} {t : TypeId} (h : w.heap[g]? = some (.cells #[a, b, c] t (0, 0))) (x y z : Value) :
    (((w.setCell ⟨g, 0, none⟩ x).setCell ⟨g, 1, none⟩ y).setCell ⟨g, 2, none⟩ z).heap[g]? = some (.cells #[x, y, z] t (0, 0)) := by
  have h1 := heap_setCell_same w g 0 _ t x h
  have h2 := heap_setCell_same _ g 1 _ t y h1
  have h3 := heap_setCell_same _ g 2 _ t z h2
  simpa using h3
theorem set3 {B g : Nat} {w w' : World} (hb : Below B w w') (hg : B ≤ g) (x y z : Value) : Below B w (((w'.setCell ⟨g, 0, none⟩ x).setCell ⟨g, 1, none⟩ y).setCell ⟨g, 2, none⟩ z) :=
  ((hb.setCell (p := ⟨g, 0, none⟩) hg x).setCell (p := ⟨g, 1, none⟩) hg y).setCell (p := ⟨g, 2, none⟩) hg z
theorem later3 {g : Nat} {w : World} (x y z : Value) : Later (g + 1) w (((w.setCell ⟨g, 0, none⟩ x).setCell ⟨g, 1, none⟩ y).setCell ⟨g, 2, none⟩ z) :=
  .of_sole (b := g) (((Sole.set x).trans (Sole.set y)).trans (Sole.set z)) (.inl (Nat.lt_succ_self _))
theorem put2' {w : World} {g : Nat} {a b c : Value} {t : TypeId} (h : w.heap[g]? = some (.cells #[a, b, c] t (0, 0))) (x y : Value) :
    ((w.setCell ⟨g, 0, none⟩ x).setCell ⟨g, 1, none⟩ y).heap[g]? = some (.cells #[x, y, c] t (0, 0)) := by
  have h1 := heap_setCell_same w g 0 _ t x h
  have h2 := heap_setCell_same _ g 1 _ t y h1
  simpa using h2
theorem info88 : (Tryz.prog.info? 67).map (·.size) = some 3 := by kernel_rfl
theorem eqlnil (w : World) : (binOp .eql 99 (.map none) (.map none)).run Tryz.prog w = .ok (.bool true) w := by
  obtain ⟨d, hd⟩ : ∃ d, Op.maxDepth = d + 1 := ⟨9999, rfl⟩
  simp [go_sem, binOp, Op.equal]
  rw [hd]
  simp [Op.equalIn, run_underlying Tryz.underlying99, Result.andThen]
theorem Does.lower {lo lo' : Nat} {w : World} {v : Value} {f : Vl → Vl → Vl} (h : Does lo w v f) (hl : lo' ≤ lo) : Does lo' w v f := by
  obtain ⟨n, cs, h1, h2, h3⟩ := h
  exact ⟨n, cs, h1, h2, fun W a b ha hb hW => h3 W a b ha hb ⟨hW.size, fun k h4 h5 => hW.block k (Nat.le_trans hl h4) h5⟩⟩

theorem store_fnv {w : World} {g : Nat} {a b c : Value} (h : w.heap[g]? = some (.cells #[a, b, c] 67 (0, 0))) (v : Value) (h1 : v.oneCell' = true) : (store ⟨g, 2, none⟩ v).run Tryz.prog w = .ok () (w.setCell ⟨g, 2, none⟩ v) := by
  rw [run_store Tryz.prog w ⟨g, 2, none⟩ v _ h1, cellR 2 h rfl]
  simp [frozen_of_row w g 2 _ _ h]
theorem store_fn {w : World} {g : Nat} {a b c : Value} (h : w.heap[g]? = some (.cells #[a, b, c] 67 (0, 0))) : (store ⟨g, 2, none⟩ .nilFunc).run Tryz.prog w = .ok () (w.setCell ⟨g, 2, none⟩ .nilFunc) := store_fnv h _ rfl
theorem fn_same {w : World} {g : Nat} {a b c v : Value} (h : w.heap[g]? = some (.cells #[a, b, c] 67 (0, 0))) : (w.setCell ⟨g, 2, none⟩ v).heap[g]? = some (.cells #[a, b, v] 67 (0, 0)) := by
  have := heap_setCell_same w g 2 _ _ v h
  simpa using this
theorem first_at : ∀ (l : List (Int × Value)) (op : Int), op ∈ l.map (·.1) → ∃ (j : Nat) (hj : j < l.length), l[j].1 = op ∧ ∀ m (hm : m < j), (l[m]'(by omega)).1 ≠ op
  | [], _, h => by simp at h
  | p :: l, op, h => by
    by_cases e : p.1 = op
    · exact ⟨0, by simp, e, fun m hm => absurd hm (Nat.not_lt_zero _)⟩
    · have h' : op ∈ l.map (·.1) := by
        simp only [List.map_cons, List.mem_cons] at h
        rcases h with h | h
        · exact absurd h.symm e
        · exact h
      obtain ⟨j, hj, h1, h2⟩ := first_at l op h'
      refine ⟨j + 1, by simpa using hj, by simpa using h1, fun m hm => ?_⟩
      cases m with
      | zero => simpa using e
      | succ m => simpa using h2 m (by omega)
theorem ops_at {lo : Nat} {w : World} {kind op : Int} {l : List (Int × Value)} (h : Ops lo w kind l) (ho : op ∈ keysOf kind) :
    ∃ (j : Nat) (hj : j < l.length), (l[j].1 = op ∧ ∀ m (hm : m < j), (l[m]'(by omega)).1 ≠ op) ∧ Does lo w l[j].2 (opV op kind) := by
  obtain ⟨j, hj, h1, h2⟩ := first_at l op (by rw [h.1]; exact ho)
  refine ⟨j, hj, ⟨h1, h2⟩, ?_⟩
  have := h.2 _ (List.getElem_mem hj)
  rwa [h1] at this
def NoRule (e : Ending) (k : Int) : Prop := e = .returned (.tuple #[.agg #[.int .i64 0, .int .i64 0, .nilFunc], .int .i64 k])
theorem find_kind (op kind : Int) (hk : ¬ (1 ≤ kind ∧ kind ≤ 3)) (w : World) : Calls Tryz.prog 34 #[.int .i64 op, .int .i64 kind] w fun e w' => NoRule e 2 ∧ Below w.heap.size w w' := by
  have hb : Below w.heap.size w (w.alloc (.cells #[.int .i64 0, .int .i64 0, .nilFunc] 67)) := (Below.refl _ _).alloc (Nat.le_refl _) _
  have hn := heap_alloc_new w (.cells #[.int .i64 0, .int .i64 0, .nilFunc] 67)
  have HB := Lib.hid hb
  have HN := Lib.hid hn
  have ho := operations_no kind (by omega) (by omega) (by omega)
  have d0 := cellR 0 hn rfl
  have d1 := cellR 1 hn rfl
  have d2 := cellR 2 hn rfl
  have f0 := frozen_of_row _ _ 0 _ _ hn
  have f1 := frozen_of_row _ _ 1 _ _ hn
  have f2 := frozen_of_row _ _ 2 _ _ hn
  have l0 : w.heap.size < (w.alloc (.cells #[.int .i64 0, .int .i64 0, .nilFunc] 67)).heap.size := by simp
  clear hn hb hk
  have hst := store_fn HN.out
  have HR := HN
  have HB9 := HB
  have hq := eqlnil
  clear HB HN
  by_cases h1 : op < 1
  · have e1 := decide_eq_true h1
    go_enter Tryz.func34, Tryz.ntmps34
    go_wp2_with fail
    refine (ho _).mono ?_
    rintro e w' ⟨rfl, rfl⟩
    go_wp2_with fail
    refine bodyPost_ret (v := .tuple #[.agg #[.int .i64 0, .int .i64 0, .nilFunc], .int .i64 2]) ?_ rfl ⟨rfl, HB9.out⟩
    simp [results, Act.put, run_loadVar_row _ _ 67 67 _ _ _ HR.out Tryz.underlying67 rfl info88, Tryz.results34, asAddr]
  · have e1 := decide_eq_false h1
    by_cases h2 : 11 < op
    · have e2 := decide_eq_true h2
      go_enter Tryz.func34, Tryz.ntmps34
      go_wp2_with fail
      refine (ho _).mono ?_
      rintro e w' ⟨rfl, rfl⟩
      go_wp2_with fail
      refine bodyPost_ret (v := .tuple #[.agg #[.int .i64 0, .int .i64 0, .nilFunc], .int .i64 2]) ?_ rfl ⟨rfl, HB9.out⟩
      simp [results, Act.put, run_loadVar_row _ _ 67 67 _ _ _ HR.out Tryz.underlying67 rfl info88, Tryz.results34, asAddr]
    · have e2 := decide_eq_false h2
      go_enter Tryz.func34, Tryz.ntmps34
      go_wp2_with fail
      refine (ho _).mono ?_
      rintro e w' ⟨rfl, rfl⟩
      go_wp2_with fail
      refine bodyPost_ret (v := .tuple #[.agg #[.int .i64 0, .int .i64 0, .nilFunc], .int .i64 2]) ?_ rfl ⟨rfl, HB9.out⟩
      simp [results, Act.put, run_loadVar_row _ _ 67 67 _ _ _ HR.out Tryz.underlying67 rfl info88, Tryz.results34, asAddr]

theorem find_range (op kind : Int) (hk : 1 ≤ kind) (hk3 : kind ≤ 3) (hop : ¬ (1 ≤ op ∧ op ≤ 11)) (w : World) : Calls Tryz.prog 34 #[.int .i64 op, .int .i64 kind] w fun e w' => NoRule e 2 ∧ Below w.heap.size w w' := by
  have hn := heap_alloc_new w (.cells #[.int .i64 0, .int .i64 0, .nilFunc] 67)
  have HB := Lib.hid ((Below.refl w.heap.size w).alloc (Nat.le_refl _) (.cells #[.int .i64 0, .int .i64 0, .nilFunc] 67))
  have hz : (w.alloc (.cells #[.int .i64 0, .int .i64 0, .nilFunc] 67)).heap.size = w.heap.size + 1 := by simp
  have ho := operations_any kind hk hk3 (w.alloc (.cells #[.int .i64 0, .int .i64 0, .nilFunc] 67))
  have HN := Lib.hid hn
  clear hn
  by_cases h1 : op < 1
  · have e1 := decide_eq_true h1
    clear hop
    go_enter Tryz.func34, Tryz.ntmps34
    go_wp2_with fail
    refine ho.mono ?_
    rintro e w1 ⟨b, l, rfl, hM, hO, hb1⟩
    have HR := Lib.hid (heapB hb1 HN.out)
    have HB9 := Lib.hid (HB.out.trans (hb1.mono (by rw [hz]; omega)))
    have hst := store_fnv (put2' HR.out (.int .i64 0) (.int .i64 0)) .nilFunc rfl
    have HR3 := Lib.hid (put3 HR.out (.int .i64 0) (.int .i64 0) .nilFunc)
    have HB3 := Lib.hid (set3 HB9.out (Nat.le_refl _) (.int .i64 0) (.int .i64 0) .nilFunc)
    have d0 := cellR 0 HR.out rfl
    have d1 := cellR 1 HR.out rfl
    have f0 := frozen_of_row _ _ 0 _ _ HR.out
    have f1 := frozen_of_row _ _ 1 _ _ HR.out
    have l0 : w.heap.size < w1.heap.size := by have := hb1.size; omega
    have he := eqlmap b
    clear HN HB ho hb1
    clear hM hO
    go_wp2_with fail
    refine bodyPost_ret (v := .tuple #[.agg #[.int .i64 0, .int .i64 0, .nilFunc], .int .i64 2]) ?_ rfl ⟨rfl, HB3.out⟩
    simp [results, Act.put, run_loadVar_row _ _ 67 67 _ _ _ HR3.out Tryz.underlying67 rfl info88, Tryz.results34, asAddr]
  · have e1 := decide_eq_false h1
    have e2 := decide_eq_true (show 11 < op by omega)
    clear hop
    go_enter Tryz.func34, Tryz.ntmps34
    go_wp2_with fail
    refine ho.mono ?_
    rintro e w1 ⟨b, l, rfl, hM, hO, hb1⟩
    have HR := Lib.hid (heapB hb1 HN.out)
    have HB9 := Lib.hid (HB.out.trans (hb1.mono (by rw [hz]; omega)))
    have hst := store_fnv (put2' HR.out (.int .i64 0) (.int .i64 0)) .nilFunc rfl
    have HR3 := Lib.hid (put3 HR.out (.int .i64 0) (.int .i64 0) .nilFunc)
    have HB3 := Lib.hid (set3 HB9.out (Nat.le_refl _) (.int .i64 0) (.int .i64 0) .nilFunc)
    have d0 := cellR 0 HR.out rfl
    have d1 := cellR 1 HR.out rfl
    have f0 := frozen_of_row _ _ 0 _ _ HR.out
    have f1 := frozen_of_row _ _ 1 _ _ HR.out
    have l0 : w.heap.size < w1.heap.size := by have := hb1.size; omega
    have he := eqlmap b
    clear HN HB ho hb1
    clear hM hO
    go_wp2_with fail
    refine bodyPost_ret (v := .tuple #[.agg #[.int .i64 0, .int .i64 0, .nilFunc], .int .i64 2]) ?_ rfl ⟨rfl, HB3.out⟩
    simp [results, Act.put, run_loadVar_row _ _ 67 67 _ _ _ HR3.out Tryz.underlying67 rfl info88, Tryz.results34, asAddr]

theorem find_type (op kind : Int) (hk : 1 ≤ kind) (hk3 : kind ≤ 3) (hop : 1 ≤ op) (hop2 : op ≤ 11) (hno : op ∉ keysOf kind) (w : World) : Calls Tryz.prog 34 #[.int .i64 op, .int .i64 kind] w fun e w' => NoRule e 13 ∧ Below w.heap.size w w' := by
  have hn := heap_alloc_new w (.cells #[.int .i64 0, .int .i64 0, .nilFunc] 67)
  have HB := Lib.hid ((Below.refl w.heap.size w).alloc (Nat.le_refl _) (.cells #[.int .i64 0, .int .i64 0, .nilFunc] 67))
  have hz : (w.alloc (.cells #[.int .i64 0, .int .i64 0, .nilFunc] 67)).heap.size = w.heap.size + 1 := by simp
  have ho := operations_any kind hk hk3 (w.alloc (.cells #[.int .i64 0, .int .i64 0, .nilFunc] 67))
  have HN := Lib.hid hn
  clear hn
  have e1 := decide_eq_false (show ¬ op < 1 by omega)
  have e2 := decide_eq_false (show ¬ 11 < op by omega)
  go_enter Tryz.func34, Tryz.ntmps34
  go_wp2_with fail
  refine ho.mono ?_
  rintro e w1 ⟨b, l, rfl, hM, hO, hb1⟩
  have HR := Lib.hid (heapB hb1 HN.out)
  have HB9 := Lib.hid (HB.out.trans (hb1.mono (by rw [hz]; omega)))
  have hst := store_fnv (put2' HR.out (.int .i64 0) (.int .i64 0)) .nilFunc rfl
  have HR3 := Lib.hid (put3 HR.out (.int .i64 0) (.int .i64 0) .nilFunc)
  have HB3 := Lib.hid (set3 HB9.out (Nat.le_refl _) (.int .i64 0) (.int .i64 0) .nilFunc)
  have d0 := cellR 0 HR.out rfl
  have d1 := cellR 1 HR.out rfl
  have f0 := frozen_of_row _ _ 0 _ _ HR.out
  have f1 := frozen_of_row _ _ 1 _ _ HR.out
  have l0 : w.heap.size < w1.heap.size := by have := hb1.size; omega
  have he := eqlmap b
  clear HN HB ho hb1
  have hlk := lookup_no hM op (fun p hp h => hno (by rw [← hO.1, ← h]; exact List.mem_map_of_mem hp))
  clear hM hO hno
  go_wp2_with fail
  refine bodyPost_ret (v := .tuple #[.agg #[.int .i64 0, .int .i64 0, .nilFunc], .int .i64 13]) ?_ rfl ⟨rfl, HB3.out⟩
  simp [results, Act.put, run_loadVar_row _ _ 67 67 _ _ _ HR3.out Tryz.underlying67 rfl info88, Tryz.results34, asAddr]
theorem find_ok (op kind : Int) (hk : 1 ≤ kind) (hk3 : kind ≤ 3) (hop : 1 ≤ op) (hop2 : op ≤ 11) (hyes : op ∈ keysOf kind) (w : World) : Calls Tryz.prog 34 #[.int .i64 op, .int .i64 kind] w fun e w' =>
    ∃ v, e = .returned (.tuple #[.agg #[.int .i64 op, .int .i64 kind, v], .int .i64 0]) ∧ Does w.heap.size w' v (opV op kind) ∧ Below w.heap.size w w' := by
  have hn := heap_alloc_new w (.cells #[.int .i64 0, .int .i64 0, .nilFunc] 67)
  have HB := Lib.hid ((Below.refl w.heap.size w).alloc (Nat.le_refl _) (.cells #[.int .i64 0, .int .i64 0, .nilFunc] 67))
  have hz : (w.alloc (.cells #[.int .i64 0, .int .i64 0, .nilFunc] 67)).heap.size = w.heap.size + 1 := by simp
  have ho := operations_any kind hk hk3 (w.alloc (.cells #[.int .i64 0, .int .i64 0, .nilFunc] 67))
  have HN := Lib.hid hn
  clear hn
  have e1 := decide_eq_false (show ¬ op < 1 by omega)
  have e2 := decide_eq_false (show ¬ 11 < op by omega)
  go_enter Tryz.func34, Tryz.ntmps34
  go_wp2_with fail
  refine ho.mono ?_
  rintro e w1 ⟨b, l, rfl, hM, hO, hb1⟩
  obtain ⟨j, hj, hlj, hD⟩ := ops_at hO hyes
  have hlk := lookup_yes hM op j hj hlj.1 hlj.2
  obtain ⟨v, hv⟩ : ∃ v, v = (l[j]).2 := ⟨_, rfl⟩
  rw [← hv] at hlk hD
  clear hv hlj hj hM hO hyes
  obtain ⟨n, cs, hvv⟩ : ∃ n cs, v = .func (.func n) #[] cs := by obtain ⟨n, cs, h, _⟩ := hD; exact ⟨n, cs, h⟩
  subst hvv
  have HR := Lib.hid (heapB hb1 HN.out)
  have HB9 := Lib.hid (HB.out.trans (hb1.mono (by rw [hz]; omega)))
  have HD := Lib.hid hD
  have hst := store_fnv (put2' HR.out (.int .i64 op) (.int .i64 kind)) (.func (.func n) #[] cs) rfl
  have HR3 := Lib.hid (put3 HR.out (.int .i64 op) (.int .i64 kind) (.func (.func n) #[] cs))
  have HB3 := Lib.hid (set3 HB9.out (Nat.le_refl _) (.int .i64 op) (.int .i64 kind) (.func (.func n) #[] cs))
  have HD3 := Lib.hid ((HD.out.later (by rw [hz]; exact later3 (.int .i64 op) (.int .i64 kind) (.func (.func n) #[] cs))).lower (by rw [hz]; omega : w.heap.size ≤ _))
  have d0 := cellR 0 HR.out rfl
  have d1 := cellR 1 HR.out rfl
  have f0 := frozen_of_row _ _ 0 _ _ HR.out
  have f1 := frozen_of_row _ _ 1 _ _ HR.out
  have l0 : w.heap.size < w1.heap.size := by have := hb1.size; omega
  have he := eqlmap b
  clear HN HB ho hb1 hD HD HB9
  go_wp2_with fail
  refine bodyPost_ret (v := .tuple #[.agg #[.int .i64 op, .int .i64 kind, .func (.func n) #[] cs], .int .i64 0]) ?_ rfl ⟨_, rfl, HD3.out, HB3.out⟩
  simp [results, Act.put, run_loadVar_row _ _ 67 67 _ _ _ HR3.out Tryz.underlying67 rfl info88, Tryz.results34, asAddr]
end Go.Proofs.YtjcdnaandbockaaGreat

namespace Go.Proofs.YtjcdnaandbockaaGreat
open Go.RowKit Go.Shelf
attribute [local go_sem] Oper.semAt_some
set_option maxRecDepth 100000
set_option maxHeartbeats 1000000

def allowsB (kind : Int) (u : Vl) : Bool := decide (u.p = 0) || decide (kind = 3)
def rA (op kind : Int) (v : Value) : Value := .agg #[.int .i64 op, .int .i64 kind, v]
theorem allows_any (op kind : Int) (n : Nat) (cs : Array Value) (u : Vl) (w : World) : Calls Tryz.prog 35 #[rA op kind (.func (.func n) #[] cs), vA u] w fun e w' => e = .returned (.bool (allowsB kind u)) ∧ Below w.heap.size w w' := by
  obtain ⟨x, p⟩ := u
  unfold vA rA
  obtain ⟨hb, h1, h2, hz⟩ := two w (.cells #[.int .i64 op, .int .i64 kind, .func (.func n) #[] cs] 67) (.cells #[.int .u64 x, .int .i64 p] 24)
  have c1 := cellR 1 h1 rfl
  have d1 := cellR 1 h2 rfl
  have HA : Hid (allowsB kind ⟨x, p⟩ = (decide (p = 0) || decide (kind = 3))) := rfl
  clear h1 h2 hz
  by_cases h1 : p = 0
  · subst h1
    go_enter Tryz.func35, Tryz.ntmps35
    go_wp2_with fail
    go_ret
    exact ⟨by rw [HA.out]; rfl, hb⟩
  · go_enter Tryz.func35, Tryz.ntmps35
    go_wp2_with fail
    go_ret
    exact ⟨by rw [HA.out]; rfl, hb⟩
theorem allows1_any {w : World} {g : Nat} (op kind : Int) (n : Nat) (cs : Array Value) (hg : w.heap[g]? = some (.cells #[.int .i64 op, .int .i64 kind, .func (.func n) #[] cs] 67 (0, 0))) (u : Vl) :
    Calls Tryz.prog 66 #[vA u, .pointer (some ⟨g, 0, none⟩)] w fun e w' => e = .returned (.bool (!allowsB kind u)) ∧ Below w.heap.size w w' := by
  have hb := (Below.refl w.heap.size w).alloc (Nat.le_refl _) (.cells #[.int .u64 u.x, .int .i64 u.p] 24)
  have h1 := heap_alloc_new w (.cells #[.int .u64 u.x, .int .i64 u.p] 24)
  have h0 := heapB hb hg
  have c0 := cellR 0 h0 rfl
  have c1 := cellR 1 h0 rfl
  have c2 := cellR 2 h0 rfl
  have d0 := cellR 0 h1 rfl
  have d1 := cellR 1 h1 rfl
  have ha := allows_any op kind n cs u (w.alloc (.cells #[.int .u64 u.x, .int .i64 u.p] 24))
  unfold vA rA at ha
  unfold vA
  clear h0 h1 hg
  go_enter Tryz.func66, Tryz.ntmps66
  go_wp2_with fail
  refine ha.mono ?_
  rintro e w1 ⟨rfl, hb1⟩
  have hb2 := hb.trans (hb1.mono (by simp))
  clear hb hb1 ha c0 c1 c2 d0 d1
  go_wp2_with fail
  go_ret
  exact ⟨rfl, hb2⟩

/-- a list of values in memory -/
structure Vls (w : World) (a : Option Addr) (l : List Vl) : Prop where
  len : l.length ≤ 9223372036854775807
  ok : ∀ u ∈ l, u.Ok
  at_ : l ≠ [] → ∃ g o, a = some ⟨g, o, none⟩ ∧ ∀ i, (h : i < l.length) → w.cell? ⟨g, o + i * 2, none⟩ = some (.int .u64 (l[i]).x) ∧ w.cell? ⟨g, o + i * 2 + 1, none⟩ = some (.int .i64 (l[i]).p)
theorem Vls.keep {w w' : World} {a : Option Addr} {l : List Vl} (h : Vls w a l) (hb : Below w.heap.size w w') : Vls w' a l := by
  refine ⟨h.len, h.ok, fun hne => ?_⟩
  obtain ⟨g, o, ha, hc⟩ := h.at_ hne
  exact ⟨g, o, ha, fun i hi => ⟨kcell hb (hc i hi).1, kcell hb (hc i hi).2⟩⟩
theorem index_any {w : World} {a : Option Addr} {l : List Vl} (h : Vls w a l) (cap : Nat) (op kind : Int) (n : Nat) (cs : Array Value) (g : Nat) (hg : w.heap[g]? = some (.cells #[.int .i64 op, .int .i64 kind, .func (.func n) #[] cs] 67 (0, 0))) :
    Calls Tryz.prog 86 #[.slice a l.length cap, .func (.func 66) #[] #[.pointer (some ⟨g, 0, none⟩)]] w fun e w' => ∃ r : Int, e = .returned (.int .i64 r) ∧ Below w.heap.size w w' ∧ (0 ≤ r ↔ ∃ u ∈ l, allowsB kind u = false) := by
  have hlen := h.len
  go_enter Tryz.func86, Tryz.ntmps86
  go_wp2_with fail
  go_loopw [8] (fun i wr => ∃ k : Nat, k ≤ l.length ∧ i = .int .i64 k ∧ Hid (∀ j, (hj : j < l.length) → j < k → allowsB kind l[j] = true) ∧ Below w.heap.size w wr) (fun i _ => l.length - (intOf i).toNat)
  case atStart => exact ⟨0, Nat.zero_le _, rfl, fun j hj h0 => absurd h0 (Nat.not_lt_zero _), Below.refl _ _⟩
  case round =>
    obtain ⟨k, hk, rfl, HK, hb⟩ := hrel
    by_cases hlt : k < l.length
    · obtain ⟨gg, o, rfl, hc⟩ := h.at_ (by intro e; rw [e] at hlt; exact absurd hlt (Nat.not_lt_zero _))
      obtain ⟨c0, c1⟩ := hc k hlt
      have d0 := kcell hb c0
      have d1 := kcell hb c1
      have ha := allows1_any op kind n cs (heapB hb hg) l[k]
      unfold vA at ha
      by_cases hA : allowsB kind l[k] = true
      · rw [hA] at ha
        have HK2 : Hid (∀ j, (hj : j < l.length) → j < k + 1 → allowsB kind l[j] = true) := fun j hj h => by
          by_cases e : j = k
          · subst e; exact hA
          · exact HK.out j hj (by omega)
        clear hA HK hc c0 c1
        go_wp2_with fail
        refine ha.mono ?_
        rintro e w1 ⟨rfl, hb1⟩
        have hb2 := hb.trans (hb1.mono hb.size)
        clear ha hb hb1 d0 d1
        go_wp2_with fail
        go_round
        case rel => exact ⟨k + 1, by omega, by go_num, HK2, hb2⟩
        case measure => simp [intOf]; omega
      · rw [Bool.not_eq_true] at hA
        rw [hA] at ha
        have HE : Hid (∃ u ∈ l, allowsB kind u = false) := ⟨l[k], List.getElem_mem hlt, hA⟩
        clear hA HK hc c0 c1
        go_wp2_with fail
        refine ha.mono ?_
        rintro e w1 ⟨rfl, hb1⟩
        have hb2 := hb.trans (hb1.mono hb.size)
        clear ha hb hb1 d0 d1
        go_wp2_with fail
        go_ret
        exact ⟨k, rfl, hb2, fun _ => HE.out, fun _ => by omega⟩
    · have hkn : k = l.length := by omega
      subst hkn
      go_wp2_with fail
      go_ret
      refine ⟨-1, rfl, hb, fun h9 => absurd h9 (by decide), fun ⟨u, hu, hne⟩ => ?_⟩
      obtain ⟨j, hj, rfl⟩ := List.getElem_of_mem hu
      rw [HK.out j hj hj] at hne
      cases hne
/-- whether all values of a list are valid -/
def allowsL (kind : Int) (l : List Vl) : Bool := l.all (allowsB kind)
theorem allowsL_not (kind : Int) (l : List Vl) : (∃ u ∈ l, allowsB kind u = false) ↔ allowsL kind l = false := by
  unfold allowsL
  rw [List.all_eq_false]
  simp
theorem contains63_any {w : World} {a : Option Addr} {l : List Vl} (h : Vls w a l) (cap : Nat) (op kind : Int) (n : Nat) (cs : Array Value) (g : Nat) (hg : w.heap[g]? = some (.cells #[.int .i64 op, .int .i64 kind, .func (.func n) #[] cs] 67 (0, 0))) :
    Calls Tryz.prog 65 #[.slice a l.length cap, .func (.func 66) #[] #[.pointer (some ⟨g, 0, none⟩)]] w fun e w' => e = .returned (.bool (!allowsL kind l)) ∧ Below w.heap.size w w' := by
  have hi := index_any h cap op kind n cs g hg
  go_enter Tryz.func65, Tryz.ntmps65
  go_wp2_with fail
  refine hi.mono ?_
  rintro e w' ⟨q, rfl, hb, hq⟩
  have HQ : Hid (decide ((0 : Int) ≤ q) = !allowsL kind l) := by
    show _ = _
    cases hA : allowsL kind l with
    | true => exact decide_eq_false (fun h0 => by have := (allowsL_not kind l).1 (hq.1 h0); rw [hA] at this; cases this)
    | false => exact decide_eq_true (hq.2 ((allowsL_not kind l).2 hA))
  clear hq hi
  go_wp2_with fail
  go_ret
  exact ⟨by rw [← HQ.out]; simp, hb⟩
theorem allowsAll_any {w : World} {a : Option Addr} {l : List Vl} (h : Vls w a l) (cap : Nat) (op kind : Int) (n : Nat) (cs : Array Value) :
    Calls Tryz.prog 42 #[rA op kind (.func (.func n) #[] cs), .slice a l.length cap] w fun e w' => e = .returned (.bool (allowsL kind l)) ∧ Below w.heap.size w w' := by
  unfold rA
  have hb := (Below.refl w.heap.size w).alloc (Nat.le_refl _) (.cells #[.int .i64 op, .int .i64 kind, .func (.func n) #[] cs] 67)
  have h1 := heap_alloc_new w (.cells #[.int .i64 op, .int .i64 kind, .func (.func n) #[] cs] 67)
  have hc := contains63_any (h.keep hb) cap op kind n cs w.heap.size h1
  clear h1 h
  go_enter Tryz.func42, Tryz.ntmps42
  go_wp2_with fail
  refine hc.mono ?_
  rintro e w1 ⟨rfl, hb1⟩
  have hb2 := hb.trans (hb1.mono (by simp))
  clear hb hb1 hc
  go_wp2_with fail
  go_ret
  exact ⟨by simp, hb2⟩
end Go.Proofs.YtjcdnaandbockaaGreat

namespace Go.Proofs.YtjcdnaandbockaaGreat
open Go.RowKit Go.Shelf
attribute [local go_sem] Oper.semAt_some
set_option maxRecDepth 100000
set_option maxHeartbeats 1000000

/-- why there is no operation for a kind; 0: there is one -/
def findE (op kind : Int) : Int := if ¬ (1 ≤ kind ∧ kind ≤ 3) ∨ ¬ (1 ≤ op ∧ op ≤ 11) then 2 else if op ∈ keysOf kind then 0 else 13
def Found (op kind : Int) (lo : Nat) (e : Ending) (w' : World) : Prop := ∃ n cs, e = .returned (.tuple #[rA op kind (.func (.func n) #[] cs), .int .i64 0]) ∧ Does lo w' (.func (.func n) #[] cs) (opV op kind)
theorem find_any (op kind : Int) (w : World) : Calls Tryz.prog 34 #[.int .i64 op, .int .i64 kind] w fun e w' =>
    ((findE op kind ≠ 0 ∧ NoRule e (findE op kind)) ∨ (findE op kind = 0 ∧ Found op kind w.heap.size e w')) ∧ Below w.heap.size w w' := by
  unfold findE
  by_cases hk : 1 ≤ kind ∧ kind ≤ 3
  · by_cases ho : 1 ≤ op ∧ op ≤ 11
    · rw [if_neg (by omega)]
      by_cases hy : op ∈ keysOf kind
      · rw [if_pos hy]
        refine (find_ok op kind hk.1 hk.2 ho.1 ho.2 hy w).mono ?_
        rintro e w' ⟨v, rfl, hd, hb⟩
        obtain ⟨n, cs, rfl⟩ : ∃ n cs, v = .func (.func n) #[] cs := by obtain ⟨n, cs, h, _⟩ := hd; exact ⟨n, cs, h⟩
        exact ⟨.inr ⟨rfl, n, cs, rfl, hd⟩, hb⟩
      · rw [if_neg hy]
        exact (find_type op kind hk.1 hk.2 ho.1 ho.2 hy w).mono fun e w' ⟨h1, h2⟩ => ⟨.inl ⟨by decide, h1⟩, h2⟩
    · rw [if_pos (.inr ho)]
      exact (find_range op kind hk.1 hk.2 ho w).mono fun e w' ⟨h1, h2⟩ => ⟨.inl ⟨by decide, h1⟩, h2⟩
  · rw [if_pos (.inl hk)]
    exact (find_kind op kind hk w).mono fun e w' ⟨h1, h2⟩ => ⟨.inl ⟨by decide, h1⟩, h2⟩

theorem Check_any (op kind : Int) (w : World) : Calls Tryz.prog 8 #[.int .i64 op, .int .i64 kind] w fun e w' => e = .returned (.int .i64 (findE op kind)) ∧ Below w.heap.size w w' := by
  have hf := find_any op kind w
  obtain ⟨E, hE⟩ : ∃ E, E = findE op kind := ⟨_, rfl⟩
  rw [← hE] at hf ⊢
  clear hE
  go_enter Tryz.func8, Tryz.ntmps8
  go_wp2_with fail
  refine hf.mono ?_
  rintro e w1 ⟨⟨h0, rfl⟩ | ⟨h0, n, cs, rfl, hd⟩, hb⟩
  · have hst := store_fnv (heap_alloc_new w1 (.cells #[.int .i64 0, .int .i64 0, .nilFunc] 67)) .nilFunc rfl
    have hb2 := hb.alloc hb.size (.cells #[.int .i64 0, .int .i64 0, .nilFunc] 67)
    clear hf hb h0
    go_wp2_with fail
    go_ret
    exact ⟨rfl, hb2⟩
  · have hst := store_fnv (heap_alloc_new w1 (.cells #[.int .i64 op, .int .i64 kind, .nilFunc] 67)) (.func (.func n) #[] cs) rfl
    have hb2 := hb.alloc hb.size (.cells #[.int .i64 op, .int .i64 kind, .func (.func n) #[] cs] 67)
    unfold rA
    clear hf hd hb
    go_wp2_with fail
    go_ret
    exact ⟨by rw [h0]; rfl, hb2⟩
end Go.Proofs.YtjcdnaandbockaaGreat
