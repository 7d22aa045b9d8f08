import Derived.Test.YtjcdnaandbockaaGreatGq
namespace Go.Proofs.YtjcdnaandbockaaGreat
open Go.RowKit Go.Shelf
attribute [local go_sem] Oper.semAt_some
set_option maxRecDepth 100000
set_option maxHeartbeats 20000000
theorem list_cons {n : Nat} (l : List Bool) (h : l.length = n + 1) : ∃ x t, l = x :: t ∧ t.length = n := by
  cases l with
  | nil => cases h
  | cons x t => exact ⟨x, t, rfl, by simpa using h⟩
section
variable {n : Nat} {P : Program} {ops : Array Oper} {Q : Exit → Act → World → Prop}
/-- a guarded operation that is wanted -/
theorem wpOpIn_guard {i j : Nat} {want : Bool} {o : Oper} {K : Act → World → Prop} {a : Act} {w w' : World} {v : Value} (ho : ops[i]? = some o) (hgd : o.guard = some (j, want)) (hy : yielded ops a.tmps j = some want)
    (h : (o.semAt none a.eval).run P w = .ok (.value v) w') (hk : K (a.put o.dst v) w') : wpOpIn Fence.wide n P ops Q i K a w := by
  refine wpOpIn_step ho (fun K' hK => ?_)
  rw [if_pos (by simp [Region.wanted, hgd, hy])]
  exact wpIn_of_wp_plain h (hK _ _ hk)
/-- a guarded operation that is not -/
theorem wpOpIn_off {i j : Nat} {want : Bool} {o : Oper} {K : Act → World → Prop} {a : Act} {w : World} (ho : ops[i]? = some o) (hgd : o.guard = some (j, want)) (hy : yielded ops a.tmps j = some (!want))
    (hk : K (a.put o.dst undef) w) : wpOpIn Fence.wide n P ops Q i K a w := by
  refine wpOpIn_step ho (fun K' hK => ?_)
  rw [if_neg (by cases want <;> simp [Region.wanted, hgd, hy])]
  exact ⟨fun f _ => trivial, hK _ _ hk⟩
end
theorem QAt.keep {w w' : World} {b : Nat} {m : Bool} {a : Option Addr} {n cap : Nat} {p1 p2 p3 : Bool} {z : Nat} (h : QAt w b m a n cap p1 p2 p3 z) (hb : Below w.heap.size w w') : QAt w' b m a n cap p1 p2 p3 z := (hb.block _ (Array.getElem?_eq_some_iff.1 h).1).trans h
theorem QAt.lt {w : World} {b : Nat} {m : Bool} {a : Option Addr} {n cap : Nat} {p1 p2 p3 : Bool} {z : Nat} (h : QAt w b m a n cap p1 p2 p3 z) : b < w.heap.size := (Array.getElem?_eq_some_iff.1 h).1
section
variable {w : World} {b : Nat} {m : Bool} {a : Option Addr} {n cap : Nat} {p1 p2 p3 : Bool} {z : Nat}
theorem QAt.c0 (h : QAt w b m a n cap p1 p2 p3 z) : w.cell? ⟨b, 0, none⟩ = some (.bool m) := (cell_of_row w b 0 _ _ _ h).trans rfl
theorem QAt.c1 (h : QAt w b m a n cap p1 p2 p3 z) : w.cell? ⟨b, 1, none⟩ = some (.slice a n cap) := (cell_of_row w b 1 _ _ _ h).trans rfl
theorem QAt.c2 (h : QAt w b m a n cap p1 p2 p3 z) : w.cell? ⟨b, 2, none⟩ = some (.bool p1) := (cell_of_row w b 2 _ _ _ h).trans rfl
theorem QAt.c3 (h : QAt w b m a n cap p1 p2 p3 z) : w.cell? ⟨b, 3, none⟩ = some (.bool p2) := (cell_of_row w b 3 _ _ _ h).trans rfl
theorem QAt.c4 (h : QAt w b m a n cap p1 p2 p3 z) : w.cell? ⟨b, 4, none⟩ = some (.bool p3) := (cell_of_row w b 4 _ _ _ h).trans rfl
theorem QAt.c5 (h : QAt w b m a n cap p1 p2 p3 z) : w.cell? ⟨b, 5, none⟩ = some (.int .i64 (z : Int)) := (cell_of_row w b 5 _ _ _ h).trans rfl
theorem QAt.open_ (h : QAt w b m a n cap p1 p2 p3 z) (k : Nat) : w.frozen? ⟨b, k, none⟩ = false := frozen_of_row w b k _ _ h
theorem QAt.s0 (h : QAt w b m a n cap p1 p2 p3 z) (v : Bool) : QAt (w.setCell ⟨b, 0, none⟩ (.bool v)) b v a n cap p1 p2 p3 z := (heap_setCell_same _ b 0 _ 48 _ h).trans rfl
theorem QAt.s1 (h : QAt w b m a n cap p1 p2 p3 z) (a' : Option Addr) (n' cap' : Nat) : QAt (w.setCell ⟨b, 1, none⟩ (.slice a' n' cap')) b m a' n' cap' p1 p2 p3 z := (heap_setCell_same _ b 1 _ 48 _ h).trans rfl
theorem QAt.s2 (h : QAt w b m a n cap p1 p2 p3 z) (v : Bool) : QAt (w.setCell ⟨b, 2, none⟩ (.bool v)) b m a n cap v p2 p3 z := (heap_setCell_same _ b 2 _ 48 _ h).trans rfl
theorem QAt.s3 (h : QAt w b m a n cap p1 p2 p3 z) (v : Bool) : QAt (w.setCell ⟨b, 3, none⟩ (.bool v)) b m a n cap p1 v p3 z := (heap_setCell_same _ b 3 _ 48 _ h).trans rfl
theorem QAt.s4 (h : QAt w b m a n cap p1 p2 p3 z) (v : Bool) : QAt (w.setCell ⟨b, 4, none⟩ (.bool v)) b m a n cap p1 p2 v z := (heap_setCell_same _ b 4 _ 48 _ h).trans rfl
theorem QAt.s5 (h : QAt w b m a n cap p1 p2 p3 z) (v : Nat) : QAt (w.setCell ⟨b, 5, none⟩ (.int .i64 (v : Int))) b m a n cap p1 p2 p3 v := (heap_setCell_same _ b 5 _ 48 _ h).trans rfl
end
/-- a number in memory is not where a sum lies -/
theorem NumAt.sole {w w' : World} {a : Option Addr} {n cap X b : Nat} {m' : Bool} {a1' : Option Addr} {n1' c1' : Nat} {q1 q2 q3 : Bool} {z' : Nat} (h : NumAt w a n cap X) (hq : QAt w b m' a1' n1' c1' q1 q2 q3 z') (hs : Sole b w w') : NumAt w' a n cap X := by
  refine ⟨h.len, h.cap, ⟨h.bs.len, h.bs.small, fun hl => ?_⟩, fun h0 => ?_⟩
  case refine_2 =>
    obtain ⟨g, o, e, cs, fr, ht⟩ := h.ty h0
    have n1 : g ≠ b := by intro e9; subst e9; rw [show w.heap[g]? = _ from hq] at ht; simp at ht
    exact ⟨g, o, e, cs, fr, (hs.block g (Array.getElem?_eq_some_iff.1 ht).1 n1).trans ht⟩
  obtain ⟨g, o, e, hc⟩ := h.bs.at_ hl
  refine ⟨g, o, e, fun j hj => ?_⟩
  have h1 := hc j hj
  have hne : g ≠ b := by
    intro e9
    subst e9
    rw [cell_of_row w g (o + j) _ _ _ hq] at h1
    have hlt : o + j < 6 := by
      have := (Array.getElem?_eq_some_iff.1 h1).1
      simpa [qA_size] using this
    have h6 : o + j = 0 ∨ o + j = 1 ∨ o + j = 2 ∨ o + j = 3 ∨ o + j = 4 ∨ o + j = 5 := by omega
    unfold qA at h1
    rcases h6 with h6 | h6 | h6 | h6 | h6 | h6 <;> rw [h6] at h1 <;> simp at h1
  have h2 := hs.block g (block_lt_of_cell h1) hne
  rw [← h1]
  unfold World.cell?
  rw [h2]
/-- a guarded slot -/
def offV (q : Bool) (v : Value) : Value := if q = true then undef else v
theorem forget {P : Program} {c : Code} {Q : Exit → Act → World → Prop} {w : World} {a0 a1 a2 a3 a4 a5 a6 a7 a8 a9 a10 a11 a12 a13 a14 a15 a16 a17 a18 a19 a20 a21 a22 a23 a24 a25 a26 a27 a28 a29 a30 a31 a32 a33 a34 a35 a36 a37 a38 a39 a40 a41 a42 a43 a44 a45 a46 a47 a48 a49 a50 a51 a52 a53 a54 a55 a56 a57 a58 a59 a60 a61 a62 a63 a64 a65 a66 a67 a68 a69 a70 a71 a72 a73 a74 a75 a76 a77 a78 a79 a80 a81 : Value} {d : List Deferred}
    (h : ∀ u5 u6 u7 u8 u9 u10 u11 u12 u13 u14 u15 u16 u17 u18 u19 u20 u21 u22 u23 u24 u25 u26 u27 u28 u29 u30 u31 u32 u33 u34 u35 u36 u37 u38 : Value, c.wp P Q (Act.mk #[a0, a1, a2, a3, a4, u5, u6, u7, u8, u9, u10, u11, u12, u13, u14, u15, u16, u17, u18, u19, u20, u21, u22, u23, u24, u25, u26, u27, u28, u29, u30, u31, u32, u33, u34, u35, u36, u37, u38, a39, a40, a41, a42, a43, a44, a45, a46, a47, a48, a49, a50, a51, a52, a53, a54, a55, a56, a57, a58, a59, a60, a61, a62, a63, a64, a65, a66, a67, a68, a69, a70, a71, a72, a73, a74, a75, a76, a77, a78, a79, a80, a81] d) w) : c.wp P Q (Act.mk #[a0, a1, a2, a3, a4, a5, a6, a7, a8, a9, a10, a11, a12, a13, a14, a15, a16, a17, a18, a19, a20, a21, a22, a23, a24, a25, a26, a27, a28, a29, a30, a31, a32, a33, a34, a35, a36, a37, a38, a39, a40, a41, a42, a43, a44, a45, a46, a47, a48, a49, a50, a51, a52, a53, a54, a55, a56, a57, a58, a59, a60, a61, a62, a63, a64, a65, a66, a67, a68, a69, a70, a71, a72, a73, a74, a75, a76, a77, a78, a79, a80, a81] d) w := h _ _ _ _ _ _ _ _ _ _ _ _ _ _ _ _ _ _ _ _ _ _ _ _ _ _ _ _ _ _ _ _ _ _
theorem run_max64 {P : Program} (a b : Nat) (t : TypeId) (w : World) : (Builtin.max_ #[3, 3] t #[.int .i64 a, .int .i64 b]).run P w = .ok (.int .i64 ((max a b : Nat) : Int)) w := by
  have e : (if (b : Int) > (a : Int) then (b : Int) else a) = ((max a b : Nat) : Int) := by split <;> omega
  rw [← e]
  rfl
theorem sem_max64 {P : Program} {o : Oper} {a : Act} {w : World} {x y : Operand} {vx vy v : Value} (hop : o.op = .call { callee := .builtin .max, args := #[x, y], argTypes := #[3, 3] }) (hx : a.eval x = vx) (hy : a.eval y = vy)
    (h : (Builtin.max_ #[3, 3] o.type #[vx, vy]).run P w = .ok v w) : (o.semAt none a.eval).run P w = .ok (.value v) w := by
  simp [Oper.semAt, hop, execOp, resolve, invoke, builtin, hx, hy, h, Result.andThen]
theorem merged_any {w : World} {b : Nat} {m m2 : Bool} {a a2 : Option Addr} {n n2 cap cap2 X Y : Nat} {nan nan2 plus plus2 below below2 : Bool} {z z2 : Nat} (h : QAt w b m a n cap nan plus below z) (hx : NumAt w a n cap X) (hy : NumAt w a2 n2 cap2 Y) (hn : n ≤ 300) (hn2 : n2 ≤ 300) :
    Calls Tryz.prog 49 #[.pointer (some ⟨b, 0, none⟩), .agg (qA m2 a2 n2 cap2 nan2 plus2 below2 z2)] w fun e w' => Sole b w w' ∧
      ((280 < (bytesN (addR m X m2 Y)).length ∧ e = .returned (.int .i64 14) ∧ QAt w' b m a n cap nan plus below z) ∨
       ((bytesN (addR m X m2 Y)).length ≤ 280 ∧ e = .returned (.int .i64 0) ∧ ∃ a' n' cap', NumAt w' a' n' cap' (addR m X m2 Y) ∧ QAt w' b (addS m X m2 Y && decide (0 < n')) a' n' cap' (nan || nan2) (plus || plus2) (below || below2) (max z z2))) := by
  have hlt := h.lt
  have h0 : Below w.heap.size w (w.alloc (.cells (qA m2 a2 n2 cap2 nan2 plus2 below2 z2) 48)) := (Below.refl _ _).alloc (Nat.le_refl _) _
  have HB := Lib.hid (h.keep h0)
  have HG : Hid (QAt (w.alloc (.cells (qA m2 a2 n2 cap2 nan2 plus2 below2 z2) 48)) w.heap.size m2 a2 n2 cap2 nan2 plus2 below2 z2) := heap_alloc_new w _
  have HX := Lib.hid (hx.keep h0)
  have HY := Lib.hid (hy.keep h0)
  have HS : Hid (Sole b w (w.alloc (.cells (qA m2 a2 n2 cap2 nan2 plus2 below2 z2) 48))) := .of_below h0
  have hne : w.heap.size ≠ b := by omega
  clear h h0 hx hy
  go_enter Tryz.func49, Tryz.ntmps49
  go_wp2_with fail
  generalize w.alloc (.cells (qA m2 a2 n2 cap2 nan2 plus2 below2 z2) 48) = w2 at *
  refine (wpIn_wide (n := 0)).1 ?_
  refine region_det (by kernel_rfl) (I := fun listed a' w' => ∃ (ar : Option Addr) (nr cr : Nat), Hid (QAt w' b m a n cap nan plus below z) ∧ Hid (QAt w' w.heap.size m2 a2 n2 cap2 nan2 plus2 below2 z2) ∧ Hid (Sole b w w') ∧ Hid (NumAt w' a n cap X) ∧ Hid (NumAt w' a2 n2 cap2 Y) ∧ Hid (listed.getD 12 false = true → NumAt w' ar nr cr (addR m X m2 Y)) ∧ Hid (listed.getD 13 false = true → listed.getD 12 false = true) ∧ Hid (listed.getD 14 false = true → listed.getD 13 false = true) ∧ Hid (listed.getD 15 false = true → listed.getD 13 false = true) ∧ Hid (listed.getD 16 false = true → listed.getD 14 false = true) ∧ Hid (listed.getD 17 false = true → listed.getD 15 false = true) ∧ a' = ⟨#[Value.pointer (some ⟨b, 0, none⟩), Value.agg (qA m2 a2 n2 cap2 nan2 plus2 below2 z2), undef, Value.pointer (some ⟨w.heap.size, 0, none⟩), Value.int IntKind.i64 0, (if listed.getD 16 false = true then Value.bool (addS m X m2 Y) else undef), (if listed.getD 17 false = true then Value.slice ar nr cr else undef), (if listed.getD 13 false = true then Value.tuple #[.bool (addS m X m2 Y), .slice ar nr cr] else undef), (if listed.getD 0 false = true then Value.pointer (some ⟨b, 0, none⟩) else undef), (if listed.getD 1 false = true then Value.pointer (some ⟨b, 0, none⟩) else undef), (if listed.getD 2 false = true then Value.pointer (some ⟨b, 0, none⟩) else undef), (if listed.getD 3 false = true then Value.bool m else undef), (if listed.getD 4 false = true then Value.pointer (some ⟨b, 0, none⟩) else undef), (if listed.getD 5 false = true then Value.pointer (some ⟨b, 0, none⟩) else undef), (if listed.getD 6 false = true then Value.pointer (some ⟨b, 1, none⟩) else undef), (if listed.getD 7 false = true then Value.slice a n cap else undef), (if listed.getD 8 false = true then Value.pointer (some ⟨w.heap.size, 0, none⟩) else undef), (if listed.getD 9 false = true then Value.bool m2 else undef), (if listed.getD 10 false = true then Value.pointer (some ⟨w.heap.size, 1, none⟩) else undef), (if listed.getD 11 false = true then Value.slice a2 n2 cap2 else undef), (if listed.getD 12 false = true then Value.tuple #[.bool (addS m X m2 Y), .slice ar nr cr] else undef), (if listed.getD 14 false = true then Value.bool (addS m X m2 Y) else undef), (if listed.getD 15 false = true then Value.slice ar nr cr else undef), undef, undef, undef, undef, undef, undef, undef, undef, undef, undef, undef, undef, undef, undef, undef, undef, undef, undef, undef, undef, undef, undef, undef, undef, undef, undef, undef, undef, undef, undef, undef, undef, undef, undef, undef, undef, undef, undef, undef, undef, undef, undef, undef, undef, undef, undef, undef, undef, undef, undef, undef, undef, undef, undef, undef, undef, undef, undef, undef], []⟩) (hup_check (by kernel_rfl)) ?h0 ?step ?fin
  case h0 => exact ⟨none, 0, 0, HB.out, HG.out, HS.out.drew, HX.out.keep (Below.refl _ _).drew, HY.out.keep (Below.refl _ _).drew, (fun h => by simp at h), (fun h => by simp at h), (fun h => by simp at h), (fun h => by simp at h), (fun h => by simp at h), (fun h => by simp at h), rfl⟩
  case step =>
    intro listed a' w' i hs hbi hdep hi ⟨ar, nr, cr, IB, IG, IS, IX, IY, IN, J13, J14, J15, J16, J17, ha⟩
    obtain ⟨ls⟩ := listed
    match ls, hs with
    | [x0, x1, x2, x3, x4, x5, x6, x7, x8, x9, x10, x11, x12, x13, x14, x15, x16, x17], _ =>
    subst ha
    have hi' : i = 0 ∨ i = 1 ∨ i = 2 ∨ i = 3 ∨ i = 4 ∨ i = 5 ∨ i = 6 ∨ i = 7 ∨ i = 8 ∨ i = 9 ∨ i = 10 ∨ i = 11 ∨ i = 12 ∨ i = 13 ∨ i = 14 ∨ i = 15 ∨ i = 16 ∨ i = 17 := by simp at hi; omega
    rcases hi' with rfl | rfl | rfl | rfl | rfl | rfl | rfl | rfl | rfl | rfl | rfl | rfl | rfl | rfl | rfl | rfl | rfl | rfl
    · obtain rfl : x0 = false := by simpa using hbi
      refine wpOpIn_plain rfl rfl rfl ?_
      exact ⟨ar, nr, cr, IB, IG, IS, IX, IY, IN, J13, J14, J15, J16, J17, rfl⟩
    · obtain rfl : x1 = false := by simpa using hbi
      obtain rfl : x0 = true := hdep _ rfl ⟨0, .data⟩ (by simp) rfl
      refine wpOpIn_plain (v := Value.pointer (some ⟨b, 0, none⟩)) (w' := w') rfl rfl (by simp [Oper.semAt, execOp, go_sem]) ?_
      exact ⟨ar, nr, cr, IB, IG, IS, IX, IY, IN, J13, J14, J15, J16, J17, rfl⟩
    · obtain rfl : x2 = false := by simpa using hbi
      obtain rfl : x1 = true := hdep _ rfl ⟨1, .data⟩ (by simp) rfl
      refine wpOpIn_plain (v := Value.pointer (some ⟨b, 0, none⟩)) (w' := w') rfl rfl (by simp [Oper.semAt, execOp, go_sem]) ?_
      exact ⟨ar, nr, cr, IB, IG, IS, IX, IY, IN, J13, J14, J15, J16, J17, rfl⟩
    · obtain rfl : x3 = false := by simpa using hbi
      obtain rfl : x2 = true := hdep _ rfl ⟨2, .data⟩ (by simp) rfl
      have c0 := IB.out.c0
      refine wpOpIn_plain (v := Value.bool m) (w' := w') rfl rfl (by simp [Oper.semAt, execOp, go_sem, c0]) ?_
      exact ⟨ar, nr, cr, IB, IG, IS, IX, IY, IN, J13, J14, J15, J16, J17, rfl⟩
    · obtain rfl : x4 = false := by simpa using hbi
      refine wpOpIn_plain rfl rfl rfl ?_
      exact ⟨ar, nr, cr, IB, IG, IS, IX, IY, IN, J13, J14, J15, J16, J17, rfl⟩
    · obtain rfl : x5 = false := by simpa using hbi
      obtain rfl : x4 = true := hdep _ rfl ⟨4, .data⟩ (by simp) rfl
      refine wpOpIn_plain (v := Value.pointer (some ⟨b, 0, none⟩)) (w' := w') rfl rfl (by simp [Oper.semAt, execOp, go_sem]) ?_
      exact ⟨ar, nr, cr, IB, IG, IS, IX, IY, IN, J13, J14, J15, J16, J17, rfl⟩
    · obtain rfl : x6 = false := by simpa using hbi
      obtain rfl : x5 = true := hdep _ rfl ⟨5, .data⟩ (by simp) rfl
      refine wpOpIn_plain (v := Value.pointer (some ⟨b, 1, none⟩)) (w' := w') rfl rfl (by simp [Oper.semAt, execOp, go_sem]) ?_
      exact ⟨ar, nr, cr, IB, IG, IS, IX, IY, IN, J13, J14, J15, J16, J17, rfl⟩
    · obtain rfl : x7 = false := by simpa using hbi
      obtain rfl : x6 = true := hdep _ rfl ⟨6, .data⟩ (by simp) rfl
      have c0 := IB.out.c1
      refine wpOpIn_plain (v := Value.slice a n cap) (w' := w') rfl rfl (by simp [Oper.semAt, execOp, go_sem, c0]) ?_
      exact ⟨ar, nr, cr, IB, IG, IS, IX, IY, IN, J13, J14, J15, J16, J17, rfl⟩
    · obtain rfl : x8 = false := by simpa using hbi
      refine wpOpIn_plain (v := Value.pointer (some ⟨w.heap.size, 0, none⟩)) (w' := w') rfl rfl (by simp [Oper.semAt, execOp, go_sem]) ?_
      exact ⟨ar, nr, cr, IB, IG, IS, IX, IY, IN, J13, J14, J15, J16, J17, rfl⟩
    · obtain rfl : x9 = false := by simpa using hbi
      obtain rfl : x8 = true := hdep _ rfl ⟨8, .data⟩ (by simp) rfl
      have c0 := IG.out.c0
      refine wpOpIn_plain (v := Value.bool m2) (w' := w') rfl rfl (by simp [Oper.semAt, execOp, go_sem, c0]) ?_
      exact ⟨ar, nr, cr, IB, IG, IS, IX, IY, IN, J13, J14, J15, J16, J17, rfl⟩
    · obtain rfl : x10 = false := by simpa using hbi
      refine wpOpIn_plain (v := Value.pointer (some ⟨w.heap.size, 1, none⟩)) (w' := w') rfl rfl (by simp [Oper.semAt, execOp, go_sem]) ?_
      exact ⟨ar, nr, cr, IB, IG, IS, IX, IY, IN, J13, J14, J15, J16, J17, rfl⟩
    · obtain rfl : x11 = false := by simpa using hbi
      obtain rfl : x10 = true := hdep _ rfl ⟨10, .data⟩ (by simp) rfl
      have c0 := IG.out.c1
      refine wpOpIn_plain (v := Value.slice a2 n2 cap2) (w' := w') rfl rfl (by simp [Oper.semAt, execOp, go_sem, c0]) ?_
      exact ⟨ar, nr, cr, IB, IG, IS, IX, IY, IN, J13, J14, J15, J16, J17, rfl⟩
    · obtain rfl : x12 = false := by simpa using hbi
      obtain rfl : x3 = true := hdep _ rfl ⟨3, .data⟩ (by simp) rfl
      obtain rfl : x7 = true := hdep _ rfl ⟨7, .data⟩ (by simp) rfl
      obtain rfl : x9 = true := hdep _ rfl ⟨9, .data⟩ (by simp) rfl
      obtain rfl : x11 = true := hdep _ rfl ⟨11, .data⟩ (by simp) rfl
      obtain rfl : x13 = false := Bool.eq_false_iff.2 fun h => by have := J13.out h; cases this
      obtain rfl : x14 = false := Bool.eq_false_iff.2 fun h => by have := J13.out (J14.out h); cases this
      obtain rfl : x15 = false := Bool.eq_false_iff.2 fun h => by have := J13.out (J15.out h); cases this
      obtain rfl : x16 = false := Bool.eq_false_iff.2 fun h => by have := J13.out (J14.out (J16.out h)); cases this
      obtain rfl : x17 = false := Bool.eq_false_iff.2 fun h => by have := J13.out (J15.out (J17.out h)); cases this
      refine wpOpIn_call (args := #[Value.bool m, Value.slice a n cap, Value.bool m2, Value.slice a2 n2 cap2]) rfl rfl (sem_call4 rfl rfl rfl rfl rfl (enters_of Tryz.func73 (by kernel_rfl) rfl)) (radd_any m m2 IX.out IY.out hn hn2) ?_
      rintro e V ⟨hb, a', n', cap', rfl, hN⟩
      exact ⟨_, rfl, a', n', cap', (IB.out.keep hb), (IG.out.keep hb), (IS.out.trans (.of_below hb)), (IX.out.keep hb), (IY.out.keep hb), (fun _ => hN), (fun _ => rfl), J14, J15, J16, J17, rfl⟩
    · obtain rfl : x13 = false := by simpa using hbi
      obtain rfl : x12 = true := hdep _ rfl ⟨12, .data⟩ (by simp) rfl
      refine wpOpIn_plain rfl rfl rfl ?_
      exact ⟨ar, nr, cr, IB, IG, IS, IX, IY, IN, (fun _ => rfl), (fun _ => rfl), (fun _ => rfl), J16, J17, rfl⟩
    · obtain rfl : x14 = false := by simpa using hbi
      obtain rfl : x13 = true := hdep _ rfl ⟨13, .data⟩ (by simp) rfl
      refine wpOpIn_plain rfl rfl rfl ?_
      exact ⟨ar, nr, cr, IB, IG, IS, IX, IY, IN, J13, (fun _ => rfl), J15, (fun _ => rfl), J17, rfl⟩
    · obtain rfl : x15 = false := by simpa using hbi
      obtain rfl : x13 = true := hdep _ rfl ⟨13, .data⟩ (by simp) rfl
      refine wpOpIn_plain rfl rfl rfl ?_
      exact ⟨ar, nr, cr, IB, IG, IS, IX, IY, IN, J13, J14, (fun _ => rfl), J16, (fun _ => rfl), rfl⟩
    · obtain rfl : x16 = false := by simpa using hbi
      obtain rfl : x14 = true := hdep _ rfl ⟨14, .data⟩ (by simp) rfl
      refine wpOpIn_plain rfl rfl rfl ?_
      exact ⟨ar, nr, cr, IB, IG, IS, IX, IY, IN, J13, J14, J15, (fun _ => rfl), J17, rfl⟩
    · obtain rfl : x17 = false := by simpa using hbi
      obtain rfl : x15 = true := hdep _ rfl ⟨15, .data⟩ (by simp) rfl
      refine wpOpIn_plain rfl rfl rfl ?_
      exact ⟨ar, nr, cr, IB, IG, IS, IX, IY, IN, J13, J14, J15, J16, (fun _ => rfl), rfl⟩
  case fin =>
  intro listed a' Y1 hs hall ⟨ar, nr, cr, IB, IG, IS, IX, IY, IN, J13, J14, J15, J16, J17, ha⟩
  obtain ⟨ls⟩ := listed
  match ls, hs with
  | [x0, x1, x2, x3, x4, x5, x6, x7, x8, x9, x10, x11, x12, x13, x14, x15, x16, x17], _ =>
  obtain rfl : x0 = true := hall 0 (by simp)
  obtain rfl : x1 = true := hall 1 (by simp)
  obtain rfl : x2 = true := hall 2 (by simp)
  obtain rfl : x3 = true := hall 3 (by simp)
  obtain rfl : x4 = true := hall 4 (by simp)
  obtain rfl : x5 = true := hall 5 (by simp)
  obtain rfl : x6 = true := hall 6 (by simp)
  obtain rfl : x7 = true := hall 7 (by simp)
  obtain rfl : x8 = true := hall 8 (by simp)
  obtain rfl : x9 = true := hall 9 (by simp)
  obtain rfl : x10 = true := hall 10 (by simp)
  obtain rfl : x11 = true := hall 11 (by simp)
  obtain rfl : x12 = true := hall 12 (by simp)
  obtain rfl : x13 = true := hall 13 (by simp)
  obtain rfl : x14 = true := hall 14 (by simp)
  obtain rfl : x15 = true := hall 15 (by simp)
  obtain rfl : x16 = true := hall 16 (by simp)
  obtain rfl : x17 = true := hall 17 (by simp)
  subst ha
  have B1 : Hid (QAt Y1 b m a n cap nan plus below z) := IB
  have G1 : Hid (QAt Y1 w.heap.size m2 a2 n2 cap2 nan2 plus2 below2 z2) := IG
  have S1 : Hid (Sole b w Y1) := IS
  have N1 := Lib.hid (IN.out rfl)
  clear J13 J14 J15 J16 J17 IB IG IS IX IY IN HB HG HS HX HY hall hs
  dsimp only [Exit.then, Exit.inBlock]
  have HLN := Lib.hid N1.out.len
  by_cases hbig : 280 < nr
  · have hd1 : decide (280 < nr) = true := decide_eq_true hbig
    have hd2 : decide ((280 : Int) < (nr : Int)) = true := by simp; omega
    go_wp2_with fail
    go_ret
    exact ⟨S1.out, .inl ⟨by rw [← HLN.out]; exact hbig, rfl, B1.out⟩⟩
  have hd1 : decide (280 < nr) = false := decide_eq_false hbig
  have hd2 : decide ((280 : Int) < (nr : Int)) = false := by simp; omega
  have hsm : nr ≤ 280 := by omega
  clear hbig
  have c0 := B1.out.c0
  have c1 := B1.out.c1
  have o0 := B1.out.open_ 0
  have o1 := B1.out.open_ 1
  have l0 := B1.out.lt
  obtain ⟨sv, HSV⟩ : ∃ sv, Hid (sv = (addS m X m2 Y && decide (0 < nr))) := ⟨_, rfl⟩
  obtain ⟨sg, hsg⟩ : ∃ sg, sg = addS m X m2 Y := ⟨_, rfl⟩
  rw [← hsg]
  have HSG := Lib.hid hsg
  clear hsg
  cases sg
  case' false =>
    go_wp2_with fail
    have hsv : sv = false := by rw [HSV.out, ← HSG.out]; rfl
    have SS : Sole b Y1 ((Y1.setCell ⟨b, 0, none⟩ (.bool false)).setCell ⟨b, 1, none⟩ (.slice ar nr cr)) := (Sole.set _).trans (Sole.set _)
    have B4 : Hid (QAt ((Y1.setCell ⟨b, 0, none⟩ (.bool false)).setCell ⟨b, 1, none⟩ (.slice ar nr cr)) b sv ar nr cr nan plus below z) := by rw [hsv]; exact (B1.out.s0 false).s1 ar nr cr
    have G4 : Hid (QAt ((Y1.setCell ⟨b, 0, none⟩ (.bool false)).setCell ⟨b, 1, none⟩ (.slice ar nr cr)) w.heap.size m2 a2 n2 cap2 nan2 plus2 below2 z2) := SS.at_ G1.out hne
    have S4 : Hid (Sole b w ((Y1.setCell ⟨b, 0, none⟩ (.bool false)).setCell ⟨b, 1, none⟩ (.slice ar nr cr))) := S1.out.trans SS
    have N4 : Hid (NumAt ((Y1.setCell ⟨b, 0, none⟩ (.bool false)).setCell ⟨b, 1, none⟩ (.slice ar nr cr)) ar nr cr (addR m X m2 Y)) := N1.out.sole B1.out SS
    clear hsv SS B1 G1 S1 N1 c0 c1 o0 o1
    generalize ((Y1.setCell ⟨b, 0, none⟩ (.bool false)).setCell ⟨b, 1, none⟩ (.slice ar nr cr)) = W at *
  case' true =>
    by_cases hp : 0 < nr
    case' pos =>
      have hd3 : decide (0 < nr) = true := decide_eq_true hp
      have hd4 : decide ((0 : Int) < (nr : Int)) = true := by simp; omega
      clear hp
      go_wp2_with fail
      have hsv : sv = true := by rw [HSV.out, ← HSG.out, hd3]; rfl
      have SS : Sole b Y1 ((Y1.setCell ⟨b, 0, none⟩ (.bool true)).setCell ⟨b, 1, none⟩ (.slice ar nr cr)) := (Sole.set _).trans (Sole.set _)
      have B4 : Hid (QAt ((Y1.setCell ⟨b, 0, none⟩ (.bool true)).setCell ⟨b, 1, none⟩ (.slice ar nr cr)) b sv ar nr cr nan plus below z) := by rw [hsv]; exact (B1.out.s0 true).s1 ar nr cr
      have G4 : Hid (QAt ((Y1.setCell ⟨b, 0, none⟩ (.bool true)).setCell ⟨b, 1, none⟩ (.slice ar nr cr)) w.heap.size m2 a2 n2 cap2 nan2 plus2 below2 z2) := SS.at_ G1.out hne
      have S4 : Hid (Sole b w ((Y1.setCell ⟨b, 0, none⟩ (.bool true)).setCell ⟨b, 1, none⟩ (.slice ar nr cr))) := S1.out.trans SS
      have N4 : Hid (NumAt ((Y1.setCell ⟨b, 0, none⟩ (.bool true)).setCell ⟨b, 1, none⟩ (.slice ar nr cr)) ar nr cr (addR m X m2 Y)) := N1.out.sole B1.out SS
      clear hsv SS B1 G1 S1 N1 c0 c1 o0 o1
      generalize ((Y1.setCell ⟨b, 0, none⟩ (.bool true)).setCell ⟨b, 1, none⟩ (.slice ar nr cr)) = W at *
    case' neg =>
      have hd3 : decide (0 < nr) = false := decide_eq_false hp
      have hd4 : decide ((0 : Int) < (nr : Int)) = false := by simp; omega
      clear hp
      go_wp2_with fail
      have hsv : sv = false := by rw [HSV.out, ← HSG.out, hd3]; rfl
      have SS : Sole b Y1 ((Y1.setCell ⟨b, 0, none⟩ (.bool false)).setCell ⟨b, 1, none⟩ (.slice ar nr cr)) := (Sole.set _).trans (Sole.set _)
      have B4 : Hid (QAt ((Y1.setCell ⟨b, 0, none⟩ (.bool false)).setCell ⟨b, 1, none⟩ (.slice ar nr cr)) b sv ar nr cr nan plus below z) := by rw [hsv]; exact (B1.out.s0 false).s1 ar nr cr
      have G4 : Hid (QAt ((Y1.setCell ⟨b, 0, none⟩ (.bool false)).setCell ⟨b, 1, none⟩ (.slice ar nr cr)) w.heap.size m2 a2 n2 cap2 nan2 plus2 below2 z2) := SS.at_ G1.out hne
      have S4 : Hid (Sole b w ((Y1.setCell ⟨b, 0, none⟩ (.bool false)).setCell ⟨b, 1, none⟩ (.slice ar nr cr))) := S1.out.trans SS
      have N4 : Hid (NumAt ((Y1.setCell ⟨b, 0, none⟩ (.bool false)).setCell ⟨b, 1, none⟩ (.slice ar nr cr)) ar nr cr (addR m X m2 Y)) := N1.out.sole B1.out SS
      clear hsv SS B1 G1 S1 N1 c0 c1 o0 o1
      generalize ((Y1.setCell ⟨b, 0, none⟩ (.bool false)).setCell ⟨b, 1, none⟩ (.slice ar nr cr)) = W at *
  -- TAIL
  all_goals
    refine forget ?_
    intro u5 u6 u7 u8 u9 u10 u11 u12 u13 u14 u15 u16 u17 u18 u19 u20 u21 u22 u23 u24 u25 u26 u27 u28 u29 u30 u31 u32 u33 u34 u35 u36 u37 u38
    refine (wpIn_wide (n := 0)).1 ?_
    refine region_det (by kernel_rfl) (I := fun listed a' w' => Hid (QAt w' b sv ar nr cr (if listed.getD 29 false = true then nan || nan2 else nan) (if listed.getD 32 false = true then plus || plus2 else plus) (if listed.getD 35 false = true then below || below2 else below) z) ∧ Hid (QAt w' w.heap.size m2 a2 n2 cap2 nan2 plus2 below2 z2) ∧ Hid (Sole b W w') ∧ Hid (listed.getD 29 false = true → listed.getD 6 false = true) ∧ Hid (listed.getD 32 false = true → listed.getD 14 false = true) ∧ Hid (listed.getD 35 false = true → listed.getD 22 false = true) ∧ a' = ⟨#[Value.pointer (some ⟨b, 0, none⟩), Value.agg (qA m2 a2 n2 cap2 nan2 plus2 below2 z2), undef, Value.pointer (some ⟨w.heap.size, 0, none⟩), Value.int IntKind.i64 0, u5, u6, u7, u8, u9, u10, u11, u12, u13, u14, u15, u16, u17, u18, u19, u20, u21, u22, u23, u24, u25, u26, u27, u28, u29, u30, u31, u32, u33, u34, u35, u36, u37, u38, (if listed.getD 0 false = true then Value.pointer (some ⟨b, 0, none⟩) else undef), (if listed.getD 1 false = true then Value.pointer (some ⟨b, 0, none⟩) else undef), (if listed.getD 2 false = true then Value.pointer (some ⟨b, 0, none⟩) else undef), (if listed.getD 3 false = true then Value.pointer (some ⟨b, 0, none⟩) else undef), (if listed.getD 4 false = true then Value.pointer (some ⟨b, 0, none⟩) else undef), (if listed.getD 5 false = true then Value.pointer (some ⟨b, 2, none⟩) else undef), (if listed.getD 6 false = true then Value.bool nan else undef), (if listed.getD 7 false = true then Value.bool nan else undef), (if listed.getD 8 false = true then (offV nan (Value.pointer (some ⟨w.heap.size, 2, none⟩))) else undef), (if listed.getD 9 false = true then (offV nan (Value.bool nan2)) else undef), (if listed.getD 10 false = true then Value.bool (nan || nan2) else undef), (if listed.getD 11 false = true then Value.pointer (some ⟨b, 0, none⟩) else undef), (if listed.getD 12 false = true then Value.pointer (some ⟨b, 0, none⟩) else undef), (if listed.getD 13 false = true then Value.pointer (some ⟨b, 3, none⟩) else undef), (if listed.getD 14 false = true then Value.bool plus else undef), (if listed.getD 15 false = true then Value.bool plus else undef), (if listed.getD 16 false = true then (offV plus (Value.pointer (some ⟨w.heap.size, 3, none⟩))) else undef), (if listed.getD 17 false = true then (offV plus (Value.bool plus2)) else undef), (if listed.getD 18 false = true then Value.bool (plus || plus2) else undef), (if listed.getD 19 false = true then Value.pointer (some ⟨b, 0, none⟩) else undef), (if listed.getD 20 false = true then Value.pointer (some ⟨b, 0, none⟩) else undef), (if listed.getD 21 false = true then Value.pointer (some ⟨b, 4, none⟩) else undef), (if listed.getD 22 false = true then Value.bool below else undef), (if listed.getD 23 false = true then Value.bool below else undef), (if listed.getD 24 false = true then (offV below (Value.pointer (some ⟨w.heap.size, 4, none⟩))) else undef), (if listed.getD 25 false = true then (offV below (Value.bool below2)) else undef), (if listed.getD 26 false = true then Value.bool (below || below2) else undef), (if listed.getD 27 false = true then Value.pointer (some ⟨b, 0, none⟩) else undef), (if listed.getD 28 false = true then Value.pointer (some ⟨b, 2, none⟩) else undef), (if listed.getD 30 false = true then Value.pointer (some ⟨b, 0, none⟩) else undef), (if listed.getD 31 false = true then Value.pointer (some ⟨b, 3, none⟩) else undef), (if listed.getD 33 false = true then Value.pointer (some ⟨b, 0, none⟩) else undef), (if listed.getD 34 false = true then Value.pointer (some ⟨b, 4, none⟩) else undef), undef, undef, undef, undef, undef, undef, undef, undef, undef, undef], []⟩) (hup_check (by kernel_rfl)) ?h0 ?step ?fin
    case h0 => exact ⟨B4.out, G4.out, (Sole.refl b W).drew, (fun h => by simp at h), (fun h => by simp at h), (fun h => by simp at h), rfl⟩
    case step =>
      intro listed a' w' i hs hbi hdep hi ⟨IB, IG, IS, J29, J32, J35, ha⟩
      obtain ⟨ls⟩ := listed
      have hs0 : ls.length = 36 := by simpa using hs
      obtain ⟨x0, t0, rfl, hs1⟩ := list_cons ls hs0
      obtain ⟨x1, t1, rfl, hs2⟩ := list_cons t0 hs1
      obtain ⟨x2, t2, rfl, hs3⟩ := list_cons t1 hs2
      obtain ⟨x3, t3, rfl, hs4⟩ := list_cons t2 hs3
      obtain ⟨x4, t4, rfl, hs5⟩ := list_cons t3 hs4
      obtain ⟨x5, t5, rfl, hs6⟩ := list_cons t4 hs5
      obtain ⟨x6, t6, rfl, hs7⟩ := list_cons t5 hs6
      obtain ⟨x7, t7, rfl, hs8⟩ := list_cons t6 hs7
      obtain ⟨x8, t8, rfl, hs9⟩ := list_cons t7 hs8
      obtain ⟨x9, t9, rfl, hs10⟩ := list_cons t8 hs9
      obtain ⟨x10, t10, rfl, hs11⟩ := list_cons t9 hs10
      obtain ⟨x11, t11, rfl, hs12⟩ := list_cons t10 hs11
      obtain ⟨x12, t12, rfl, hs13⟩ := list_cons t11 hs12
      obtain ⟨x13, t13, rfl, hs14⟩ := list_cons t12 hs13
      obtain ⟨x14, t14, rfl, hs15⟩ := list_cons t13 hs14
      obtain ⟨x15, t15, rfl, hs16⟩ := list_cons t14 hs15
      obtain ⟨x16, t16, rfl, hs17⟩ := list_cons t15 hs16
      obtain ⟨x17, t17, rfl, hs18⟩ := list_cons t16 hs17
      obtain ⟨x18, t18, rfl, hs19⟩ := list_cons t17 hs18
      obtain ⟨x19, t19, rfl, hs20⟩ := list_cons t18 hs19
      obtain ⟨x20, t20, rfl, hs21⟩ := list_cons t19 hs20
      obtain ⟨x21, t21, rfl, hs22⟩ := list_cons t20 hs21
      obtain ⟨x22, t22, rfl, hs23⟩ := list_cons t21 hs22
      obtain ⟨x23, t23, rfl, hs24⟩ := list_cons t22 hs23
      obtain ⟨x24, t24, rfl, hs25⟩ := list_cons t23 hs24
      obtain ⟨x25, t25, rfl, hs26⟩ := list_cons t24 hs25
      obtain ⟨x26, t26, rfl, hs27⟩ := list_cons t25 hs26
      obtain ⟨x27, t27, rfl, hs28⟩ := list_cons t26 hs27
      obtain ⟨x28, t28, rfl, hs29⟩ := list_cons t27 hs28
      obtain ⟨x29, t29, rfl, hs30⟩ := list_cons t28 hs29
      obtain ⟨x30, t30, rfl, hs31⟩ := list_cons t29 hs30
      obtain ⟨x31, t31, rfl, hs32⟩ := list_cons t30 hs31
      obtain ⟨x32, t32, rfl, hs33⟩ := list_cons t31 hs32
      obtain ⟨x33, t33, rfl, hs34⟩ := list_cons t32 hs33
      obtain ⟨x34, t34, rfl, hs35⟩ := list_cons t33 hs34
      obtain ⟨x35, t35, rfl, hs36⟩ := list_cons t34 hs35
      obtain rfl : t35 = [] := List.eq_nil_of_length_eq_zero hs36
      clear hs0 hs1 hs2 hs3 hs4 hs5 hs6 hs7 hs8 hs9 hs10 hs11 hs12 hs13 hs14 hs15 hs16 hs17 hs18 hs19 hs20 hs21 hs22 hs23 hs24 hs25 hs26 hs27 hs28 hs29 hs30 hs31 hs32 hs33 hs34 hs35 hs36
      subst ha
      have hi' : i = 0 ∨ i = 1 ∨ i = 2 ∨ i = 3 ∨ i = 4 ∨ i = 5 ∨ i = 6 ∨ i = 7 ∨ i = 8 ∨ i = 9 ∨ i = 10 ∨ i = 11 ∨ i = 12 ∨ i = 13 ∨ i = 14 ∨ i = 15 ∨ i = 16 ∨ i = 17 ∨ i = 18 ∨ i = 19 ∨ i = 20 ∨ i = 21 ∨ i = 22 ∨ i = 23 ∨ i = 24 ∨ i = 25 ∨ i = 26 ∨ i = 27 ∨ i = 28 ∨ i = 29 ∨ i = 30 ∨ i = 31 ∨ i = 32 ∨ i = 33 ∨ i = 34 ∨ i = 35 := by simp at hi; omega
      rcases hi' with rfl | rfl | rfl | rfl | rfl | rfl | rfl | rfl | rfl | rfl | rfl | rfl | rfl | rfl | rfl | rfl | rfl | rfl | rfl | rfl | rfl | rfl | rfl | rfl | rfl | rfl | rfl | rfl | rfl | rfl | rfl | rfl | rfl | rfl | rfl | rfl
      · obtain rfl : x0 = false := by simpa using hbi
        refine wpOpIn_plain rfl rfl rfl ?_
        exact ⟨IB, IG, IS, J29, J32, J35, rfl⟩
      · obtain rfl : x1 = false := by simpa using hbi
        refine wpOpIn_plain rfl rfl rfl ?_
        exact ⟨IB, IG, IS, J29, J32, J35, rfl⟩
      · obtain rfl : x2 = false := by simpa using hbi
        refine wpOpIn_plain rfl rfl rfl ?_
        exact ⟨IB, IG, IS, J29, J32, J35, rfl⟩
      · obtain rfl : x3 = false := by simpa using hbi
        refine wpOpIn_plain rfl rfl rfl ?_
        exact ⟨IB, IG, IS, J29, J32, J35, rfl⟩
      · obtain rfl : x4 = false := by simpa using hbi
        obtain rfl : x3 = true := hdep _ rfl ⟨3, .data⟩ (by simp) rfl
        refine wpOpIn_plain (v := Value.pointer (some ⟨b, 0, none⟩)) (w' := w') rfl rfl (by simp [Oper.semAt, execOp, go_sem]) ?_
        exact ⟨IB, IG, IS, J29, J32, J35, rfl⟩
      · obtain rfl : x5 = false := by simpa using hbi
        obtain rfl : x4 = true := hdep _ rfl ⟨4, .data⟩ (by simp) rfl
        refine wpOpIn_plain (v := Value.pointer (some ⟨b, 2, none⟩)) (w' := w') rfl rfl (by simp [Oper.semAt, execOp, go_sem]) ?_
        exact ⟨IB, IG, IS, J29, J32, J35, rfl⟩
      · obtain rfl : x6 = false := by simpa using hbi
        obtain rfl : x5 = true := hdep _ rfl ⟨5, .data⟩ (by simp) rfl
        obtain rfl : x29 = false := Bool.eq_false_iff.2 fun h => by have := J29.out h; cases this
        have c0 : w'.cell? ⟨b, 2, none⟩ = some (.bool nan) := IB.out.c2
        refine wpOpIn_plain (v := Value.bool nan) (w' := w') rfl rfl (by simp [Oper.semAt, execOp, go_sem, c0]) ?_
        exact ⟨IB, IG, IS, (fun _ => rfl), J32, J35, rfl⟩
      · obtain rfl : x7 = false := by simpa using hbi
        obtain rfl : x6 = true := hdep _ rfl ⟨6, .data⟩ (by simp) rfl
        refine wpOpIn_plain rfl rfl rfl ?_
        exact ⟨IB, IG, IS, J29, J32, J35, rfl⟩
      · obtain rfl : x8 = false := by simpa using hbi
        obtain rfl : x7 = true := hdep _ rfl ⟨7, .guard⟩ (by simp) rfl
        cases nan
        case true => (refine wpOpIn_off rfl rfl rfl ?_; exact ⟨IB, IG, IS, J29, J32, J35, rfl⟩)
        refine wpOpIn_guard (v := Value.pointer (some ⟨w.heap.size, 2, none⟩)) (w' := w') rfl rfl rfl (by simp [Oper.semAt, execOp, go_sem]) ?_
        exact ⟨IB, IG, IS, J29, J32, J35, rfl⟩
      · obtain rfl : x9 = false := by simpa using hbi
        obtain rfl : x8 = true := hdep _ rfl ⟨8, .data⟩ (by simp) rfl
        obtain rfl : x7 = true := hdep _ rfl ⟨7, .guard⟩ (by simp) rfl
        have c0 := IG.out.c2
        cases nan
        case true => (refine wpOpIn_off rfl rfl rfl ?_; exact ⟨IB, IG, IS, J29, J32, J35, rfl⟩)
        refine wpOpIn_guard (v := Value.bool nan2) (w' := w') rfl rfl rfl (by simp [Oper.semAt, execOp, go_sem, c0, offV]) ?_
        exact ⟨IB, IG, IS, J29, J32, J35, rfl⟩
      · obtain rfl : x10 = false := by simpa using hbi
        obtain rfl : x7 = true := hdep _ rfl ⟨7, .data⟩ (by simp) rfl
        obtain rfl : x9 = true := hdep _ rfl ⟨9, .data⟩ (by simp) rfl
        cases nan
        case true => (refine wpOpIn_plain (v := Value.bool true) (w' := w') rfl rfl rfl ?_; exact ⟨IB, IG, IS, J29, J32, J35, rfl⟩)
        refine wpOpIn_plain (v := Value.bool nan2) (w' := w') rfl rfl rfl ?_
        exact ⟨IB, IG, IS, J29, J32, J35, rfl⟩
      · obtain rfl : x11 = false := by simpa using hbi
        refine wpOpIn_plain rfl rfl rfl ?_
        exact ⟨IB, IG, IS, J29, J32, J35, rfl⟩
      · obtain rfl : x12 = false := by simpa using hbi
        obtain rfl : x11 = true := hdep _ rfl ⟨11, .data⟩ (by simp) rfl
        refine wpOpIn_plain (v := Value.pointer (some ⟨b, 0, none⟩)) (w' := w') rfl rfl (by simp [Oper.semAt, execOp, go_sem]) ?_
        exact ⟨IB, IG, IS, J29, J32, J35, rfl⟩
      · obtain rfl : x13 = false := by simpa using hbi
        obtain rfl : x12 = true := hdep _ rfl ⟨12, .data⟩ (by simp) rfl
        refine wpOpIn_plain (v := Value.pointer (some ⟨b, 3, none⟩)) (w' := w') rfl rfl (by simp [Oper.semAt, execOp, go_sem]) ?_
        exact ⟨IB, IG, IS, J29, J32, J35, rfl⟩
      · obtain rfl : x14 = false := by simpa using hbi
        obtain rfl : x13 = true := hdep _ rfl ⟨13, .data⟩ (by simp) rfl
        obtain rfl : x32 = false := Bool.eq_false_iff.2 fun h => by have := J32.out h; cases this
        have c0 : w'.cell? ⟨b, 3, none⟩ = some (.bool plus) := IB.out.c3
        refine wpOpIn_plain (v := Value.bool plus) (w' := w') rfl rfl (by simp [Oper.semAt, execOp, go_sem, c0]) ?_
        exact ⟨IB, IG, IS, J29, (fun _ => rfl), J35, rfl⟩
      · obtain rfl : x15 = false := by simpa using hbi
        obtain rfl : x14 = true := hdep _ rfl ⟨14, .data⟩ (by simp) rfl
        refine wpOpIn_plain rfl rfl rfl ?_
        exact ⟨IB, IG, IS, J29, J32, J35, rfl⟩
      · obtain rfl : x16 = false := by simpa using hbi
        obtain rfl : x15 = true := hdep _ rfl ⟨15, .guard⟩ (by simp) rfl
        cases plus
        case true => (refine wpOpIn_off rfl rfl rfl ?_; exact ⟨IB, IG, IS, J29, J32, J35, rfl⟩)
        refine wpOpIn_guard (v := Value.pointer (some ⟨w.heap.size, 3, none⟩)) (w' := w') rfl rfl rfl (by simp [Oper.semAt, execOp, go_sem]) ?_
        exact ⟨IB, IG, IS, J29, J32, J35, rfl⟩
      · obtain rfl : x17 = false := by simpa using hbi
        obtain rfl : x16 = true := hdep _ rfl ⟨16, .data⟩ (by simp) rfl
        obtain rfl : x15 = true := hdep _ rfl ⟨15, .guard⟩ (by simp) rfl
        have c0 := IG.out.c3
        cases plus
        case true => (refine wpOpIn_off rfl rfl rfl ?_; exact ⟨IB, IG, IS, J29, J32, J35, rfl⟩)
        refine wpOpIn_guard (v := Value.bool plus2) (w' := w') rfl rfl rfl (by simp [Oper.semAt, execOp, go_sem, c0, offV]) ?_
        exact ⟨IB, IG, IS, J29, J32, J35, rfl⟩
      · obtain rfl : x18 = false := by simpa using hbi
        obtain rfl : x15 = true := hdep _ rfl ⟨15, .data⟩ (by simp) rfl
        obtain rfl : x17 = true := hdep _ rfl ⟨17, .data⟩ (by simp) rfl
        cases plus
        case true => (refine wpOpIn_plain (v := Value.bool true) (w' := w') rfl rfl rfl ?_; exact ⟨IB, IG, IS, J29, J32, J35, rfl⟩)
        refine wpOpIn_plain (v := Value.bool plus2) (w' := w') rfl rfl rfl ?_
        exact ⟨IB, IG, IS, J29, J32, J35, rfl⟩
      · obtain rfl : x19 = false := by simpa using hbi
        refine wpOpIn_plain rfl rfl rfl ?_
        exact ⟨IB, IG, IS, J29, J32, J35, rfl⟩
      · obtain rfl : x20 = false := by simpa using hbi
        obtain rfl : x19 = true := hdep _ rfl ⟨19, .data⟩ (by simp) rfl
        refine wpOpIn_plain (v := Value.pointer (some ⟨b, 0, none⟩)) (w' := w') rfl rfl (by simp [Oper.semAt, execOp, go_sem]) ?_
        exact ⟨IB, IG, IS, J29, J32, J35, rfl⟩
      · obtain rfl : x21 = false := by simpa using hbi
        obtain rfl : x20 = true := hdep _ rfl ⟨20, .data⟩ (by simp) rfl
        refine wpOpIn_plain (v := Value.pointer (some ⟨b, 4, none⟩)) (w' := w') rfl rfl (by simp [Oper.semAt, execOp, go_sem]) ?_
        exact ⟨IB, IG, IS, J29, J32, J35, rfl⟩
      · obtain rfl : x22 = false := by simpa using hbi
        obtain rfl : x21 = true := hdep _ rfl ⟨21, .data⟩ (by simp) rfl
        obtain rfl : x35 = false := Bool.eq_false_iff.2 fun h => by have := J35.out h; cases this
        have c0 : w'.cell? ⟨b, 4, none⟩ = some (.bool below) := IB.out.c4
        refine wpOpIn_plain (v := Value.bool below) (w' := w') rfl rfl (by simp [Oper.semAt, execOp, go_sem, c0]) ?_
        exact ⟨IB, IG, IS, J29, J32, (fun _ => rfl), rfl⟩
      · obtain rfl : x23 = false := by simpa using hbi
        obtain rfl : x22 = true := hdep _ rfl ⟨22, .data⟩ (by simp) rfl
        refine wpOpIn_plain rfl rfl rfl ?_
        exact ⟨IB, IG, IS, J29, J32, J35, rfl⟩
      · obtain rfl : x24 = false := by simpa using hbi
        obtain rfl : x23 = true := hdep _ rfl ⟨23, .guard⟩ (by simp) rfl
        cases below
        case true => (refine wpOpIn_off rfl rfl rfl ?_; exact ⟨IB, IG, IS, J29, J32, J35, rfl⟩)
        refine wpOpIn_guard (v := Value.pointer (some ⟨w.heap.size, 4, none⟩)) (w' := w') rfl rfl rfl (by simp [Oper.semAt, execOp, go_sem]) ?_
        exact ⟨IB, IG, IS, J29, J32, J35, rfl⟩
      · obtain rfl : x25 = false := by simpa using hbi
        obtain rfl : x24 = true := hdep _ rfl ⟨24, .data⟩ (by simp) rfl
        obtain rfl : x23 = true := hdep _ rfl ⟨23, .guard⟩ (by simp) rfl
        have c0 := IG.out.c4
        cases below
        case true => (refine wpOpIn_off rfl rfl rfl ?_; exact ⟨IB, IG, IS, J29, J32, J35, rfl⟩)
        refine wpOpIn_guard (v := Value.bool below2) (w' := w') rfl rfl rfl (by simp [Oper.semAt, execOp, go_sem, c0, offV]) ?_
        exact ⟨IB, IG, IS, J29, J32, J35, rfl⟩
      · obtain rfl : x26 = false := by simpa using hbi
        obtain rfl : x23 = true := hdep _ rfl ⟨23, .data⟩ (by simp) rfl
        obtain rfl : x25 = true := hdep _ rfl ⟨25, .data⟩ (by simp) rfl
        cases below
        case true => (refine wpOpIn_plain (v := Value.bool true) (w' := w') rfl rfl rfl ?_; exact ⟨IB, IG, IS, J29, J32, J35, rfl⟩)
        refine wpOpIn_plain (v := Value.bool below2) (w' := w') rfl rfl rfl ?_
        exact ⟨IB, IG, IS, J29, J32, J35, rfl⟩
      · obtain rfl : x27 = false := by simpa using hbi
        obtain rfl : x0 = true := hdep _ rfl ⟨0, .data⟩ (by simp) rfl
        refine wpOpIn_plain (v := Value.pointer (some ⟨b, 0, none⟩)) (w' := w') rfl rfl (by simp [Oper.semAt, execOp, go_sem]) ?_
        exact ⟨IB, IG, IS, J29, J32, J35, rfl⟩
      · obtain rfl : x28 = false := by simpa using hbi
        obtain rfl : x27 = true := hdep _ rfl ⟨27, .data⟩ (by simp) rfl
        refine wpOpIn_plain (v := Value.pointer (some ⟨b, 2, none⟩)) (w' := w') rfl rfl (by simp [Oper.semAt, execOp, go_sem]) ?_
        exact ⟨IB, IG, IS, J29, J32, J35, rfl⟩
      · obtain rfl : x29 = false := by simpa using hbi
        obtain rfl : x28 = true := hdep _ rfl ⟨28, .data⟩ (by simp) rfl
        obtain rfl : x10 = true := hdep _ rfl ⟨10, .data⟩ (by simp) rfl
        obtain rfl : x6 = true := hdep _ rfl ⟨6, .phase⟩ (by simp) rfl
        have c0 : w'.cell? ⟨b, 2, none⟩ = some (.bool nan) := IB.out.c2
        have f0 := IB.out.open_ 2
        have l0 := IB.out.lt
        refine wpOpIn_skip (w' := w'.setCell ⟨b, 2, none⟩ (Value.bool (nan || nan2))) rfl rfl (by simp [Oper.semAt, execOp, go_sem, c0, f0, l0]) ?_
        exact ⟨(IB.out.s2 (nan || nan2)), ((heap_setCell_other _ _ _ _ hne).trans IG.out), (IS.out.trans (Sole.set _)), (fun _ => rfl), J32, J35, rfl⟩
      · obtain rfl : x30 = false := by simpa using hbi
        obtain rfl : x1 = true := hdep _ rfl ⟨1, .data⟩ (by simp) rfl
        refine wpOpIn_plain (v := Value.pointer (some ⟨b, 0, none⟩)) (w' := w') rfl rfl (by simp [Oper.semAt, execOp, go_sem]) ?_
        exact ⟨IB, IG, IS, J29, J32, J35, rfl⟩
      · obtain rfl : x31 = false := by simpa using hbi
        obtain rfl : x30 = true := hdep _ rfl ⟨30, .data⟩ (by simp) rfl
        refine wpOpIn_plain (v := Value.pointer (some ⟨b, 3, none⟩)) (w' := w') rfl rfl (by simp [Oper.semAt, execOp, go_sem]) ?_
        exact ⟨IB, IG, IS, J29, J32, J35, rfl⟩
      · obtain rfl : x32 = false := by simpa using hbi
        obtain rfl : x31 = true := hdep _ rfl ⟨31, .data⟩ (by simp) rfl
        obtain rfl : x18 = true := hdep _ rfl ⟨18, .data⟩ (by simp) rfl
        obtain rfl : x14 = true := hdep _ rfl ⟨14, .phase⟩ (by simp) rfl
        have c0 : w'.cell? ⟨b, 3, none⟩ = some (.bool plus) := IB.out.c3
        have f0 := IB.out.open_ 3
        have l0 := IB.out.lt
        refine wpOpIn_skip (w' := w'.setCell ⟨b, 3, none⟩ (Value.bool (plus || plus2))) rfl rfl (by simp [Oper.semAt, execOp, go_sem, c0, f0, l0]) ?_
        exact ⟨(IB.out.s3 (plus || plus2)), ((heap_setCell_other _ _ _ _ hne).trans IG.out), (IS.out.trans (Sole.set _)), J29, (fun _ => rfl), J35, rfl⟩
      · obtain rfl : x33 = false := by simpa using hbi
        obtain rfl : x2 = true := hdep _ rfl ⟨2, .data⟩ (by simp) rfl
        refine wpOpIn_plain (v := Value.pointer (some ⟨b, 0, none⟩)) (w' := w') rfl rfl (by simp [Oper.semAt, execOp, go_sem]) ?_
        exact ⟨IB, IG, IS, J29, J32, J35, rfl⟩
      · obtain rfl : x34 = false := by simpa using hbi
        obtain rfl : x33 = true := hdep _ rfl ⟨33, .data⟩ (by simp) rfl
        refine wpOpIn_plain (v := Value.pointer (some ⟨b, 4, none⟩)) (w' := w') rfl rfl (by simp [Oper.semAt, execOp, go_sem]) ?_
        exact ⟨IB, IG, IS, J29, J32, J35, rfl⟩
      · obtain rfl : x35 = false := by simpa using hbi
        obtain rfl : x34 = true := hdep _ rfl ⟨34, .data⟩ (by simp) rfl
        obtain rfl : x26 = true := hdep _ rfl ⟨26, .data⟩ (by simp) rfl
        obtain rfl : x22 = true := hdep _ rfl ⟨22, .phase⟩ (by simp) rfl
        have c0 : w'.cell? ⟨b, 4, none⟩ = some (.bool below) := IB.out.c4
        have f0 := IB.out.open_ 4
        have l0 := IB.out.lt
        refine wpOpIn_skip (w' := w'.setCell ⟨b, 4, none⟩ (Value.bool (below || below2))) rfl rfl (by simp [Oper.semAt, execOp, go_sem, c0, f0, l0]) ?_
        exact ⟨(IB.out.s4 (below || below2)), ((heap_setCell_other _ _ _ _ hne).trans IG.out), (IS.out.trans (Sole.set _)), J29, J32, (fun _ => rfl), rfl⟩
    case fin =>
    intro listed a' Y5 hs hall ⟨IB, IG, IS, J29, J32, J35, ha⟩
    obtain ⟨ls⟩ := listed
    have hs0 : ls.length = 36 := by simpa using hs
    obtain ⟨x0, t0, rfl, hs1⟩ := list_cons ls hs0
    obtain ⟨x1, t1, rfl, hs2⟩ := list_cons t0 hs1
    obtain ⟨x2, t2, rfl, hs3⟩ := list_cons t1 hs2
    obtain ⟨x3, t3, rfl, hs4⟩ := list_cons t2 hs3
    obtain ⟨x4, t4, rfl, hs5⟩ := list_cons t3 hs4
    obtain ⟨x5, t5, rfl, hs6⟩ := list_cons t4 hs5
    obtain ⟨x6, t6, rfl, hs7⟩ := list_cons t5 hs6
    obtain ⟨x7, t7, rfl, hs8⟩ := list_cons t6 hs7
    obtain ⟨x8, t8, rfl, hs9⟩ := list_cons t7 hs8
    obtain ⟨x9, t9, rfl, hs10⟩ := list_cons t8 hs9
    obtain ⟨x10, t10, rfl, hs11⟩ := list_cons t9 hs10
    obtain ⟨x11, t11, rfl, hs12⟩ := list_cons t10 hs11
    obtain ⟨x12, t12, rfl, hs13⟩ := list_cons t11 hs12
    obtain ⟨x13, t13, rfl, hs14⟩ := list_cons t12 hs13
    obtain ⟨x14, t14, rfl, hs15⟩ := list_cons t13 hs14
    obtain ⟨x15, t15, rfl, hs16⟩ := list_cons t14 hs15
    obtain ⟨x16, t16, rfl, hs17⟩ := list_cons t15 hs16
    obtain ⟨x17, t17, rfl, hs18⟩ := list_cons t16 hs17
    obtain ⟨x18, t18, rfl, hs19⟩ := list_cons t17 hs18
    obtain ⟨x19, t19, rfl, hs20⟩ := list_cons t18 hs19
    obtain ⟨x20, t20, rfl, hs21⟩ := list_cons t19 hs20
    obtain ⟨x21, t21, rfl, hs22⟩ := list_cons t20 hs21
    obtain ⟨x22, t22, rfl, hs23⟩ := list_cons t21 hs22
    obtain ⟨x23, t23, rfl, hs24⟩ := list_cons t22 hs23
    obtain ⟨x24, t24, rfl, hs25⟩ := list_cons t23 hs24
    obtain ⟨x25, t25, rfl, hs26⟩ := list_cons t24 hs25
    obtain ⟨x26, t26, rfl, hs27⟩ := list_cons t25 hs26
    obtain ⟨x27, t27, rfl, hs28⟩ := list_cons t26 hs27
    obtain ⟨x28, t28, rfl, hs29⟩ := list_cons t27 hs28
    obtain ⟨x29, t29, rfl, hs30⟩ := list_cons t28 hs29
    obtain ⟨x30, t30, rfl, hs31⟩ := list_cons t29 hs30
    obtain ⟨x31, t31, rfl, hs32⟩ := list_cons t30 hs31
    obtain ⟨x32, t32, rfl, hs33⟩ := list_cons t31 hs32
    obtain ⟨x33, t33, rfl, hs34⟩ := list_cons t32 hs33
    obtain ⟨x34, t34, rfl, hs35⟩ := list_cons t33 hs34
    obtain ⟨x35, t35, rfl, hs36⟩ := list_cons t34 hs35
    obtain rfl : t35 = [] := List.eq_nil_of_length_eq_zero hs36
    clear hs0 hs1 hs2 hs3 hs4 hs5 hs6 hs7 hs8 hs9 hs10 hs11 hs12 hs13 hs14 hs15 hs16 hs17 hs18 hs19 hs20 hs21 hs22 hs23 hs24 hs25 hs26 hs27 hs28 hs29 hs30 hs31 hs32 hs33 hs34 hs35 hs36
    obtain rfl : x0 = true := hall 0 (by simp)
    obtain rfl : x1 = true := hall 1 (by simp)
    obtain rfl : x2 = true := hall 2 (by simp)
    obtain rfl : x3 = true := hall 3 (by simp)
    obtain rfl : x4 = true := hall 4 (by simp)
    obtain rfl : x5 = true := hall 5 (by simp)
    obtain rfl : x6 = true := hall 6 (by simp)
    obtain rfl : x7 = true := hall 7 (by simp)
    obtain rfl : x8 = true := hall 8 (by simp)
    obtain rfl : x9 = true := hall 9 (by simp)
    obtain rfl : x10 = true := hall 10 (by simp)
    obtain rfl : x11 = true := hall 11 (by simp)
    obtain rfl : x12 = true := hall 12 (by simp)
    obtain rfl : x13 = true := hall 13 (by simp)
    obtain rfl : x14 = true := hall 14 (by simp)
    obtain rfl : x15 = true := hall 15 (by simp)
    obtain rfl : x16 = true := hall 16 (by simp)
    obtain rfl : x17 = true := hall 17 (by simp)
    obtain rfl : x18 = true := hall 18 (by simp)
    obtain rfl : x19 = true := hall 19 (by simp)
    obtain rfl : x20 = true := hall 20 (by simp)
    obtain rfl : x21 = true := hall 21 (by simp)
    obtain rfl : x22 = true := hall 22 (by simp)
    obtain rfl : x23 = true := hall 23 (by simp)
    obtain rfl : x24 = true := hall 24 (by simp)
    obtain rfl : x25 = true := hall 25 (by simp)
    obtain rfl : x26 = true := hall 26 (by simp)
    obtain rfl : x27 = true := hall 27 (by simp)
    obtain rfl : x28 = true := hall 28 (by simp)
    obtain rfl : x29 = true := hall 29 (by simp)
    obtain rfl : x30 = true := hall 30 (by simp)
    obtain rfl : x31 = true := hall 31 (by simp)
    obtain rfl : x32 = true := hall 32 (by simp)
    obtain rfl : x33 = true := hall 33 (by simp)
    obtain rfl : x34 = true := hall 34 (by simp)
    obtain rfl : x35 = true := hall 35 (by simp)
    subst ha
    have B5 : Hid (QAt Y5 b sv ar nr cr (nan || nan2) (plus || plus2) (below || below2) z) := IB
    have G5 : Hid (QAt Y5 w.heap.size m2 a2 n2 cap2 nan2 plus2 below2 z2) := IG
    have S5 : Hid (Sole b W Y5) := IS
    clear J29 J32 J35 IB IG IS hall hs
    dsimp only [Exit.then, Exit.inBlock]
    go_wp2_with fail
    refine (wpIn_wide (n := 0)).1 ?_
    refine region_det (by kernel_rfl) (I := fun listed a' w' => Hid (QAt w' b sv ar nr cr (nan || nan2) (plus || plus2) (below || below2) (if listed.getD 10 false = true then max z z2 else z)) ∧ Hid (QAt w' w.heap.size m2 a2 n2 cap2 nan2 plus2 below2 z2) ∧ Hid (Sole b W w') ∧ Hid (listed.getD 7 false = true → listed.getD 4 false = true) ∧ Hid (listed.getD 10 false = true → listed.getD 4 false = true) ∧ a' = ⟨#[Value.pointer (some ⟨b, 0, none⟩), Value.agg (qA m2 a2 n2 cap2 nan2 plus2 below2 z2), undef, Value.pointer (some ⟨w.heap.size, 0, none⟩), Value.int IntKind.i64 0, u5, u6, u7, u8, u9, u10, u11, u12, u13, u14, u15, u16, u17, u18, u19, u20, u21, u22, u23, u24, u25, u26, u27, u28, u29, u30, u31, u32, u33, u34, u35, u36, u37, u38, Value.pointer (some ⟨b, 0, none⟩), Value.pointer (some ⟨b, 0, none⟩), Value.pointer (some ⟨b, 0, none⟩), Value.pointer (some ⟨b, 0, none⟩), Value.pointer (some ⟨b, 0, none⟩), Value.pointer (some ⟨b, 2, none⟩), Value.bool nan, Value.bool nan, (offV nan (Value.pointer (some ⟨w.heap.size, 2, none⟩))), (offV nan (Value.bool nan2)), Value.bool (nan || nan2), Value.pointer (some ⟨b, 0, none⟩), Value.pointer (some ⟨b, 0, none⟩), Value.pointer (some ⟨b, 3, none⟩), Value.bool plus, Value.bool plus, (offV plus (Value.pointer (some ⟨w.heap.size, 3, none⟩))), (offV plus (Value.bool plus2)), Value.bool (plus || plus2), Value.pointer (some ⟨b, 0, none⟩), Value.pointer (some ⟨b, 0, none⟩), Value.pointer (some ⟨b, 4, none⟩), Value.bool below, Value.bool below, (offV below (Value.pointer (some ⟨w.heap.size, 4, none⟩))), (offV below (Value.bool below2)), Value.bool (below || below2), Value.pointer (some ⟨b, 0, none⟩), Value.pointer (some ⟨b, 2, none⟩), Value.pointer (some ⟨b, 0, none⟩), Value.pointer (some ⟨b, 3, none⟩), Value.pointer (some ⟨b, 0, none⟩), Value.pointer (some ⟨b, 4, none⟩), (if listed.getD 0 false = true then Value.pointer (some ⟨b, 0, none⟩) else undef), (if listed.getD 1 false = true then Value.pointer (some ⟨b, 0, none⟩) else undef), (if listed.getD 2 false = true then Value.pointer (some ⟨b, 0, none⟩) else undef), (if listed.getD 3 false = true then Value.pointer (some ⟨b, 5, none⟩) else undef), (if listed.getD 4 false = true then Value.int IntKind.i64 (z : Int) else undef), (if listed.getD 5 false = true then Value.pointer (some ⟨w.heap.size, 5, none⟩) else undef), (if listed.getD 6 false = true then Value.int IntKind.i64 (z2 : Int) else undef), (if listed.getD 7 false = true then Value.int IntKind.i64 ((max z z2 : Nat) : Int) else undef), (if listed.getD 8 false = true then Value.pointer (some ⟨b, 0, none⟩) else undef), (if listed.getD 9 false = true then Value.pointer (some ⟨b, 5, none⟩) else undef)], []⟩) (hup_check (by kernel_rfl)) ?h0 ?step ?fin
    case h0 => exact ⟨B5.out, G5.out, S5.out.drew, (fun h => by simp at h), (fun h => by simp at h), rfl⟩
    case step =>
      intro listed a' w' i hs hbi hdep hi ⟨IB, IG, IS, J7, J10, ha⟩
      obtain ⟨ls⟩ := listed
      match ls, hs with
      | [x0, x1, x2, x3, x4, x5, x6, x7, x8, x9, x10], _ =>
      subst ha
      have hi' : i = 0 ∨ i = 1 ∨ i = 2 ∨ i = 3 ∨ i = 4 ∨ i = 5 ∨ i = 6 ∨ i = 7 ∨ i = 8 ∨ i = 9 ∨ i = 10 := by simp at hi; omega
      rcases hi' with rfl | rfl | rfl | rfl | rfl | rfl | rfl | rfl | rfl | rfl | rfl
      · obtain rfl : x0 = false := by simpa using hbi
        refine wpOpIn_plain rfl rfl rfl ?_
        exact ⟨IB, IG, IS, J7, J10, rfl⟩
      · obtain rfl : x1 = false := by simpa using hbi
        refine wpOpIn_plain rfl rfl rfl ?_
        exact ⟨IB, IG, IS, J7, J10, rfl⟩
      · obtain rfl : x2 = false := by simpa using hbi
        obtain rfl : x1 = true := hdep _ rfl ⟨1, .data⟩ (by simp) rfl
        refine wpOpIn_plain (v := Value.pointer (some ⟨b, 0, none⟩)) (w' := w') rfl rfl (by simp [Oper.semAt, execOp, go_sem]) ?_
        exact ⟨IB, IG, IS, J7, J10, rfl⟩
      · obtain rfl : x3 = false := by simpa using hbi
        obtain rfl : x2 = true := hdep _ rfl ⟨2, .data⟩ (by simp) rfl
        refine wpOpIn_plain (v := Value.pointer (some ⟨b, 5, none⟩)) (w' := w') rfl rfl (by simp [Oper.semAt, execOp, go_sem]) ?_
        exact ⟨IB, IG, IS, J7, J10, rfl⟩
      · obtain rfl : x4 = false := by simpa using hbi
        obtain rfl : x3 = true := hdep _ rfl ⟨3, .data⟩ (by simp) rfl
        obtain rfl : x10 = false := Bool.eq_false_iff.2 fun h => by have := J10.out h; cases this
        have c0 : w'.cell? ⟨b, 5, none⟩ = some (.int .i64 (z : Int)) := IB.out.c5
        refine wpOpIn_plain (v := Value.int IntKind.i64 (z : Int)) (w' := w') rfl rfl (by simp [Oper.semAt, execOp, go_sem, c0]) ?_
        exact ⟨IB, IG, IS, (fun _ => rfl), (fun _ => rfl), rfl⟩
      · obtain rfl : x5 = false := by simpa using hbi
        refine wpOpIn_plain (v := Value.pointer (some ⟨w.heap.size, 5, none⟩)) (w' := w') rfl rfl (by simp [Oper.semAt, execOp, go_sem]) ?_
        exact ⟨IB, IG, IS, J7, J10, rfl⟩
      · obtain rfl : x6 = false := by simpa using hbi
        obtain rfl : x5 = true := hdep _ rfl ⟨5, .data⟩ (by simp) rfl
        have c0 := IG.out.c5
        refine wpOpIn_plain (v := Value.int IntKind.i64 (z2 : Int)) (w' := w') rfl rfl (by simp [Oper.semAt, execOp, go_sem, c0]) ?_
        exact ⟨IB, IG, IS, J7, J10, rfl⟩
      · obtain rfl : x7 = false := by simpa using hbi
        obtain rfl : x4 = true := hdep _ rfl ⟨4, .data⟩ (by simp) rfl
        obtain rfl : x6 = true := hdep _ rfl ⟨6, .data⟩ (by simp) rfl
        refine wpOpIn_plain (v := Value.int IntKind.i64 ((max z z2 : Nat) : Int)) (w' := w') rfl rfl (sem_max64 (vx := Value.int IntKind.i64 (z : Int)) (vy := Value.int IntKind.i64 (z2 : Int)) rfl rfl rfl (run_max64 _ _ _ w')) ?_
        exact ⟨IB, IG, IS, (fun _ => rfl), J10, rfl⟩
      · obtain rfl : x8 = false := by simpa using hbi
        obtain rfl : x0 = true := hdep _ rfl ⟨0, .data⟩ (by simp) rfl
        refine wpOpIn_plain (v := Value.pointer (some ⟨b, 0, none⟩)) (w' := w') rfl rfl (by simp [Oper.semAt, execOp, go_sem]) ?_
        exact ⟨IB, IG, IS, J7, J10, rfl⟩
      · obtain rfl : x9 = false := by simpa using hbi
        obtain rfl : x8 = true := hdep _ rfl ⟨8, .data⟩ (by simp) rfl
        refine wpOpIn_plain (v := Value.pointer (some ⟨b, 5, none⟩)) (w' := w') rfl rfl (by simp [Oper.semAt, execOp, go_sem]) ?_
        exact ⟨IB, IG, IS, J7, J10, rfl⟩
      · obtain rfl : x10 = false := by simpa using hbi
        obtain rfl : x9 = true := hdep _ rfl ⟨9, .data⟩ (by simp) rfl
        obtain rfl : x7 = true := hdep _ rfl ⟨7, .data⟩ (by simp) rfl
        have c0 : w'.cell? ⟨b, 5, none⟩ = some (.int .i64 (z : Int)) := IB.out.c5
        have f0 := IB.out.open_ 5
        have l0 := IB.out.lt
        refine wpOpIn_skip (w' := w'.setCell ⟨b, 5, none⟩ (Value.int IntKind.i64 ((max z z2 : Nat) : Int))) rfl rfl (by simp [Oper.semAt, execOp, go_sem, c0, f0, l0]) ?_
        exact ⟨(IB.out.s5 (max z z2)), ((heap_setCell_other _ _ _ _ hne).trans IG.out), (IS.out.trans (Sole.set _)), J7, (fun _ => J7.out rfl), rfl⟩
    case fin =>
    intro listed a' Y6 hs hall ⟨IB, IG, IS, J7, J10, ha⟩
    obtain ⟨ls⟩ := listed
    match ls, hs with
    | [x0, x1, x2, x3, x4, x5, x6, x7, x8, x9, x10], _ =>
    obtain rfl : x0 = true := hall 0 (by simp)
    obtain rfl : x1 = true := hall 1 (by simp)
    obtain rfl : x2 = true := hall 2 (by simp)
    obtain rfl : x3 = true := hall 3 (by simp)
    obtain rfl : x4 = true := hall 4 (by simp)
    obtain rfl : x5 = true := hall 5 (by simp)
    obtain rfl : x6 = true := hall 6 (by simp)
    obtain rfl : x7 = true := hall 7 (by simp)
    obtain rfl : x8 = true := hall 8 (by simp)
    obtain rfl : x9 = true := hall 9 (by simp)
    obtain rfl : x10 = true := hall 10 (by simp)
    subst ha
    have B6 : Hid (QAt Y6 b sv ar nr cr (nan || nan2) (plus || plus2) (below || below2) (max z z2)) := IB
    have S6 : Hid (Sole b W Y6) := IS
    clear J7 J10 IB IG IS hall hs B5 G5 S5
    dsimp only [Exit.then, Exit.inBlock]
    go_wp2_with fail
    go_ret
    exact ⟨S4.out.trans S6.out, .inr ⟨by rw [← HLN.out]; exact hsm, rfl, ar, nr, cr, N4.out.sole B4.out S6.out, by rw [← HSV.out]; exact B6.out⟩⟩
end Go.Proofs.YtjcdnaandbockaaGreat
