/-
  NetSides returns true at every description of a network and every list of truth values, and its arguments read afterwards as they read before. Conditions: none.
-/
import Derived.Test.YtbhkenphcahifaaGreatQSE
import Derived.Test.YtbhkenphcahifaaGreatProg
import Derived.WalkKit
import Derived.WalkSpells
import Derived.LoopTactic
import Derived.Lib.Hide
import Derived.BigQuiet
import Derived.Deep.QuietTactic
import Derived.Shelf.Abstract
import Derived.Lib.AppendZeros
import Derived.Laws.AppendOwnNone
import Derived.RangeFuncNested
import Derived.RangeFuncBound
import Derived.RangeFuncCalls
import Derived.RangeFuncLeaves
import Derived.RangeFuncOne
import Derived.Shelf.RegionOpen
import Derived.OwnWalkIn
import Derived.TacticsInMore
import Derived.LoopNIn
import Derived.LoopIn
import Derived.Test.YtbhkenphcahifaaGreatRows
import Derived.ProofKit
import Derived.OpenShut
import Derived.Carry
import Derived.SizedLaws
import Derived.OrdersIn
import Derived.Laws.Rows
import Derived.Laws.Tables
import Derived.Deep.AppendLies
import Derived.Laws.StructEq
import Derived.ChangeKeysEq
import Derived.Shelf.Small.Bits
import Derived.Shelf.Small.Wraps
import Derived.Shelf.Strconv.Itoa0
import Derived.Shelf.Sort.Plain
import Derived.Shelf.Bits.Mul64
import Derived.Ground.Names2Prog
import Derived.Shelf.Slices.CompactI
import Derived.Shelf.Slices.SearchI
import Derived.Shelf.Slices.Cells
import Derived.Shelf.Slices.In.SortNone
import Derived.Lib.OwnBridge
import Derived.Sort.OwnSortedInts
import Derived.BigRegion
import Init
import Derived.Deep.Grids
namespace Go.Proofs.YtbhkenphcahifaaGreat
open Go.RowKit Go.Shelf
attribute [local go_sem] Oper.semAt_some
set_option maxRecDepth 100000
set_option maxHeartbeats 4000000
theorem numK_zero (l : List Int) (m : Nat) : ∀ k, numK l (List.replicate m 0) k = 0
  | 0 => rfl
  | k + 1 => by rw [numK, numK_zero l m k, getD_zeros]; simp
theorem num_zero (l : List Int) : numI l (snC l 0) = 0 := numK_zero l l.length l.length
theorem dir_zero (l : List Int) : dirL l (snC l 0) = List.replicate l.length 1 := by
  refine List.ext_getElem (by simp [dirL]) fun i h1 h2 => ?_
  simp only [dirL, List.getElem_map, List.getElem_range, List.getElem_replicate]
  unfold dirB
  rw [snC, even_zero, if_pos rfl]
theorem torusSnake_any {w : World} {sa : Option Addr} {l : List Int} (h : Ints w sa l) (hl1 : 1 ≤ l.length) (hl4 : l.length ≤ 4) (hb : ∀ i, i < l.length → 2 ≤ l.getD i 0 ∧ l.getD i 0 ≤ 16) (n : Nat) (hp : prodI l = (n : Int)) (hn : n ≤ 256) (hn1 : 1 ≤ n) (sc : Nat) :
    Calls Tryz.prog 145 #[.agg #[.slice sa l.length sc, .int .i64 (prodI l)]] w fun e w' => ∃ v, e = .returned v ∧ NewInts w.heap.size w' v (snL l n) ∧ Below w.heap.size w w' := by
  obtain ⟨N, hN⟩ : ∃ N, N = l.length := ⟨_, rfl⟩
  have HN := Lib.hid hN
  have HL := Lib.hid h
  have HBB := Lib.hid hb
  rw [hp, ← hN]
  rw [← hN] at hl1 hl4
  have HMK := Lib.hid (make_ints N (by omega))
  have Q0 := Lib.hid (heap_alloc_new w (.cells #[.slice sa N sc, .int .i64 (n : Int)] 138))
  have HB := Lib.hid ((Below.refl w.heap.size w).alloc (Nat.le_refl _) (.cells #[.slice sa N sc, .int .i64 (n : Int)] 138))
  have HXZ : Hid ((w.alloc (.cells #[.slice sa N sc, .int .i64 (n : Int)] 138)).heap.size = w.heap.size + 1) := by show _ = _; simp
  have HP := Lib.hid hp
  have HL1 := Lib.hid hl1
  have HL4 := Lib.hid hl4
  have HRP := Lib.hid (fun (W : World) (b : Nat) (hc : W.cell? ⟨b, 0, none⟩ = some (.int .i64 1)) => repeat_one b 1 hc N hl1 (by omega))
  clear h hb hN hp hl1 hl4
  refine (callsIn_wide (n := 4)).1 ?_
  refine callsIn_of_wp_marks Tryz.func145 rfl trivial ?_ rfl
  simp only [Tryz.ntmps145, List.size_toArray, List.length_cons, List.length_nil, Nat.reduceAdd, Nat.reduceSub, Array.replicate_succ, Array.replicate_zero, List.push_toArray, List.append_toArray, List.nil_append, List.cons_append]
  gi_wp2
  generalize w.alloc (.cells #[.slice sa N sc, .int .i64 (n : Int)] 138) = X at *
  refine region_det (by kernel_rfl) (I := fun listed a' w' => ∃ ga gq gr b3 b4 : Nat, Hid (Below X.heap.size X w') ∧ Hid (listed.getD 3 false = true → w.heap.size + 1 ≤ ga ∧ RowAt w' ga (List.replicate N 0)) ∧ Hid (listed.getD 4 false = true → w'.heap[gq]? = some (.cells #[.int .i64 1] 3 (0, 0))) ∧ Hid (listed.getD 8 false = true → w.heap.size + 1 ≤ gr ∧ RowAt w' gr (List.replicate N 1) ∧ (listed.getD 3 false = true → ga ≠ gr)) ∧ Hid (listed.getD 9 false = true → w.heap.size + 1 ≤ b3 ∧ w'.heap[b3]? = some (.cells #[if listed.getD 11 false = true then Value.slice (some ⟨ga, 0, none⟩) N N else Value.slice none 0 0] 22 (0, 0))) ∧ Hid (listed.getD 10 false = true → w.heap.size + 1 ≤ b4 ∧ w'.heap[b4]? = some (.cells #[if listed.getD 12 false = true then Value.slice (some ⟨gr, 0, none⟩) N N else Value.slice none 0 0] 22 (0, 0)) ∧ (listed.getD 9 false = true → b3 ≠ b4)) ∧ Hid (listed.getD 12 false = true → listed.getD 11 false = true) ∧ Hid (listed.getD 8 false = true → listed.getD 4 false = true) ∧ Hid (listed.getD 11 false = true → listed.getD 3 false = true ∧ listed.getD 9 false = true) ∧ Hid (listed.getD 12 false = true → listed.getD 8 false = true ∧ listed.getD 10 false = true) ∧ a' = ⟨#[Value.agg #[Value.slice sa N sc, Value.int IntKind.i64 ↑n], Value.pointer (some (Addr.mk w.heap.size 0 none)), Value.slice none 0 0, (if listed.getD 9 false = true then Value.pointer (some ⟨b3, 0, none⟩) else undef), (if listed.getD 10 false = true then Value.pointer (some ⟨b4, 0, none⟩) else undef), undef, undef, undef, undef, (if listed.getD 0 false = true then Value.pointer (some ⟨w.heap.size, 0, none⟩) else undef), (if listed.getD 1 false = true then Value.slice sa N sc else undef), (if listed.getD 2 false = true then Value.int IntKind.i64 (N : Int) else undef), (if listed.getD 3 false = true then Value.slice (some ⟨ga, 0, none⟩) N N else undef), (if listed.getD 4 false = true then Value.slice (some ⟨gq, 0, none⟩) 1 1 else undef), (if listed.getD 5 false = true then Value.pointer (some ⟨w.heap.size, 0, none⟩) else undef), (if listed.getD 6 false = true then Value.slice sa N sc else undef), (if listed.getD 7 false = true then Value.int IntKind.i64 (N : Int) else undef), (if listed.getD 8 false = true then Value.slice (some ⟨gr, 0, none⟩) N N else undef), undef, undef, undef, undef, undef, undef, undef, undef, undef, undef, undef, undef, undef, undef, undef, undef, undef, undef, undef, undef, undef, undef, undef, undef, undef, undef, undef, undef, undef, undef, undef, undef, undef, undef, undef, undef, undef, undef, undef, undef, undef, undef, undef, undef], []⟩) (hup_check (by kernel_rfl)) ?h0 ?step ?fin
  case h0 => exact ⟨0, 0, 0, 0, 0, (Below.refl _ _).drew, (fun h => by simp at h), (fun h => by simp at h), (fun h => by simp at h), (fun h => by simp at h), (fun h => by simp at h), (fun h => by simp at h), (fun h => by simp at h), (fun h => by simp at h), (fun h => by simp at h), rfl⟩
  case step => as_aux_lemma =>
    intro listed a' w' i hs hbi hdep hi ⟨ga, gq, gr, b3, b4, IB, I3, I4, I8, I9, IA, J13, J8, J11, J12, ha⟩
    obtain ⟨ls⟩ := listed
    match ls, hs with
    | [x0, x1, x2, x3, x4, x5, x6, x7, x8, x9, x10, x11, x12], _ =>
    subst ha
    have hi' : i = 0 ∨ i = 1 ∨ i = 2 ∨ i = 3 ∨ i = 4 ∨ i = 5 ∨ i = 6 ∨ i = 7 ∨ i = 8 ∨ i = 9 ∨ i = 10 ∨ i = 11 ∨ i = 12 := by simp at hi; omega
    rcases hi' with rfl | rfl | rfl | rfl | rfl | rfl | rfl | rfl | rfl | rfl | rfl | rfl | rfl
    · obtain rfl : x0 = false := by simpa using hbi
      refine wpOpIn_plain rfl rfl rfl ?_
      exact ⟨ga, gq, gr, b3, b4, IB, I3, I4, I8, I9, IA, J13, J8, J11, J12, rfl⟩
    · obtain rfl : x1 = false := by simpa using hbi
      obtain rfl : x0 = true := hdep _ rfl ⟨0, .data⟩ (by simp) rfl
      have c9 := kcell IB.out (cellR 0 Q0.out rfl)
      refine wpOpIn_plain (v := Value.slice sa N sc) (w' := w') rfl rfl (by simp [Oper.semAt, execOp, go_sem, c9]) ?_
      exact ⟨ga, gq, gr, b3, b4, IB, I3, I4, I8, I9, IA, J13, J8, J11, J12, rfl⟩
    · obtain rfl : x2 = false := by simpa using hbi
      obtain rfl : x1 = true := hdep _ rfl ⟨1, .data⟩ (by simp) rfl
      refine wpOpIn_plain (v := Value.int IntKind.i64 (N : Int)) (w' := w') rfl rfl (by simp [Oper.semAt, execOp, go_sem]) ?_
      exact ⟨ga, gq, gr, b3, b4, IB, I3, I4, I8, I9, IA, J13, J8, J11, J12, rfl⟩
    · obtain rfl : x3 = false := by simpa using hbi
      obtain rfl : x2 = true := hdep _ rfl ⟨2, .data⟩ (by simp) rfl
      obtain rfl : x11 = false := Bool.eq_false_iff.2 fun h => by have := (J11.out h).1; cases this
      have hmk := HMK.out w'
      refine wpOpIn_plain (v := Value.slice (some ⟨w'.heap.size, 0, none⟩) N N) (w' := (w'.alloc (.cells (rowA (List.replicate N 0)) 3))) rfl rfl (by simp [Oper.semAt, execOp, go_sem, hmk]) ?_
      exact ⟨w'.heap.size, gq, gr, b3, b4, (IB.out.trans (((Below.refl w'.heap.size w').alloc (Nat.le_refl _) (.cells (rowA (List.replicate N 0)) 3)).mono IB.out.size)), (fun _ => ⟨(by have := HXZ.out; have := IB.out.size; omega), heap_alloc_new w' (.cells (rowA (List.replicate N 0)) 3)⟩), (fun h => heapB ((Below.refl w'.heap.size w').alloc (Nat.le_refl _) (.cells (rowA (List.replicate N 0)) 3)) (I4.out h)), (fun h => ⟨(I8.out h).1, (I8.out h).2.1.keep ((Below.refl w'.heap.size w').alloc (Nat.le_refl _) (.cells (rowA (List.replicate N 0)) 3)), fun _ => by have := (I8.out h).2.1.lt; omega⟩), (fun h => ⟨(I9.out h).1, heapB ((Below.refl w'.heap.size w').alloc (Nat.le_refl _) (.cells (rowA (List.replicate N 0)) 3)) (I9.out h).2⟩), (fun h => ⟨(IA.out h).1, heapB ((Below.refl w'.heap.size w').alloc (Nat.le_refl _) (.cells (rowA (List.replicate N 0)) 3)) (IA.out h).2.1, (IA.out h).2.2⟩), J13, J8, (fun h => ⟨rfl, (J11.out h).2⟩), J12, rfl⟩
    · obtain rfl : x4 = false := by simpa using hbi
      obtain rfl : x8 = false := Bool.eq_false_iff.2 fun h => by have := J8.out h; cases this
      refine wpOpIn_plain (v := Value.slice (some ⟨w'.heap.size, 0, none⟩) 1 1) (w' := (w'.alloc (.cells #[Value.int IntKind.i64 1] 3))) rfl rfl (by simp [Oper.semAt, execOp, go_sem]) ?_
      exact ⟨ga, w'.heap.size, gr, b3, b4, (IB.out.trans (((Below.refl w'.heap.size w').alloc (Nat.le_refl _) (.cells #[Value.int IntKind.i64 1] 3)).mono IB.out.size)), (fun h => ⟨(I3.out h).1, (I3.out h).2.keep ((Below.refl w'.heap.size w').alloc (Nat.le_refl _) (.cells #[Value.int IntKind.i64 1] 3))⟩), (fun _ => heap_alloc_new w' (.cells #[Value.int IntKind.i64 1] 3)), (fun h => ⟨(I8.out h).1, (I8.out h).2.1.keep ((Below.refl w'.heap.size w').alloc (Nat.le_refl _) (.cells #[Value.int IntKind.i64 1] 3)), (I8.out h).2.2⟩), (fun h => ⟨(I9.out h).1, heapB ((Below.refl w'.heap.size w').alloc (Nat.le_refl _) (.cells #[Value.int IntKind.i64 1] 3)) (I9.out h).2⟩), (fun h => ⟨(IA.out h).1, heapB ((Below.refl w'.heap.size w').alloc (Nat.le_refl _) (.cells #[Value.int IntKind.i64 1] 3)) (IA.out h).2.1, (IA.out h).2.2⟩), J13, (fun _ => rfl), J11, J12, rfl⟩
    · obtain rfl : x5 = false := by simpa using hbi
      refine wpOpIn_plain rfl rfl rfl ?_
      exact ⟨ga, gq, gr, b3, b4, IB, I3, I4, I8, I9, IA, J13, J8, J11, J12, rfl⟩
    · obtain rfl : x6 = false := by simpa using hbi
      obtain rfl : x5 = true := hdep _ rfl ⟨5, .data⟩ (by simp) rfl
      have c9 := kcell IB.out (cellR 0 Q0.out rfl)
      refine wpOpIn_plain (v := Value.slice sa N sc) (w' := w') rfl rfl (by simp [Oper.semAt, execOp, go_sem, c9]) ?_
      exact ⟨ga, gq, gr, b3, b4, IB, I3, I4, I8, I9, IA, J13, J8, J11, J12, rfl⟩
    · obtain rfl : x7 = false := by simpa using hbi
      obtain rfl : x6 = true := hdep _ rfl ⟨6, .data⟩ (by simp) rfl
      refine wpOpIn_plain (v := Value.int IntKind.i64 (N : Int)) (w' := w') rfl rfl (by simp [Oper.semAt, execOp, go_sem]) ?_
      exact ⟨ga, gq, gr, b3, b4, IB, I3, I4, I8, I9, IA, J13, J8, J11, J12, rfl⟩
    · obtain rfl : x8 = false := by simpa using hbi
      obtain rfl : x4 = true := hdep _ rfl ⟨4, .data⟩ (by simp) rfl
      obtain rfl : x7 = true := hdep _ rfl ⟨7, .data⟩ (by simp) rfl
      obtain rfl : x12 = false := Bool.eq_false_iff.2 fun h => by have := (J12.out h).1; cases this
      refine wpOpIn_call (args := #[Value.slice (some ⟨gq, 0, none⟩) 1 1, Value.int IntKind.i64 (N : Int)]) rfl rfl (sem_call2 rfl rfl rfl (enters_of Tryz.func155 (by kernel_rfl) rfl)) (HRP.out w' gq (cellR 0 (I4.out rfl) rfl)) ?_
      rintro e V ⟨gb, rfl, hgb, hRb, hb⟩
      exact ⟨_, rfl, ga, gq, gb, b3, b4, (IB.out.trans (hb.mono IB.out.size)), (fun h => ⟨(I3.out h).1, (I3.out h).2.keep hb⟩), (fun h => heapB hb (I4.out h)), (fun _ => ⟨by have := HXZ.out; have := IB.out.size; omega, hRb, fun h => by have := (I3.out h).2.lt; omega⟩), (fun h => ⟨(I9.out h).1, heapB hb (I9.out h).2⟩), (fun h => ⟨(IA.out h).1, heapB hb (IA.out h).2.1, (IA.out h).2.2⟩), J13, (fun _ => rfl), J11, (fun h => ⟨rfl, (J12.out h).2⟩), rfl⟩
    · obtain rfl : x9 = false := by simpa using hbi
      obtain rfl : x11 = false := Bool.eq_false_iff.2 fun h => by have := (J11.out h).2; cases this
      refine wpOpIn_plain (v := Value.pointer (some ⟨w'.heap.size, 0, none⟩)) (w' := (w'.alloc (.cells #[Value.slice none 0 0] 22))) rfl rfl (by simp [Oper.semAt, execOp, go_sem]) ?_
      exact ⟨ga, gq, gr, w'.heap.size, b4, (IB.out.trans (((Below.refl w'.heap.size w').alloc (Nat.le_refl _) (.cells #[Value.slice none 0 0] 22)).mono IB.out.size)), (fun h => ⟨(I3.out h).1, (I3.out h).2.keep ((Below.refl w'.heap.size w').alloc (Nat.le_refl _) (.cells #[Value.slice none 0 0] 22))⟩), (fun h => heapB ((Below.refl w'.heap.size w').alloc (Nat.le_refl _) (.cells #[Value.slice none 0 0] 22)) (I4.out h)), (fun h => ⟨(I8.out h).1, (I8.out h).2.1.keep ((Below.refl w'.heap.size w').alloc (Nat.le_refl _) (.cells #[Value.slice none 0 0] 22)), (I8.out h).2.2⟩), (fun _ => ⟨(by have := HXZ.out; have := IB.out.size; omega), heap_alloc_new w' (.cells #[Value.slice none 0 0] 22)⟩), (fun h => ⟨(IA.out h).1, heapB ((Below.refl w'.heap.size w').alloc (Nat.le_refl _) (.cells #[Value.slice none 0 0] 22)) (IA.out h).2.1, fun _ => by have := (Array.getElem?_eq_some_iff.1 (IA.out h).2.1).1; omega⟩), J13, J8, (fun h => ⟨(J11.out h).1, rfl⟩), J12, rfl⟩
    · obtain rfl : x10 = false := by simpa using hbi
      obtain rfl : x12 = false := Bool.eq_false_iff.2 fun h => by have := (J12.out h).2; cases this
      refine wpOpIn_plain (v := Value.pointer (some ⟨w'.heap.size, 0, none⟩)) (w' := (w'.alloc (.cells #[Value.slice none 0 0] 22))) rfl rfl (by simp [Oper.semAt, execOp, go_sem]) ?_
      exact ⟨ga, gq, gr, b3, w'.heap.size, (IB.out.trans (((Below.refl w'.heap.size w').alloc (Nat.le_refl _) (.cells #[Value.slice none 0 0] 22)).mono IB.out.size)), (fun h => ⟨(I3.out h).1, (I3.out h).2.keep ((Below.refl w'.heap.size w').alloc (Nat.le_refl _) (.cells #[Value.slice none 0 0] 22))⟩), (fun h => heapB ((Below.refl w'.heap.size w').alloc (Nat.le_refl _) (.cells #[Value.slice none 0 0] 22)) (I4.out h)), (fun h => ⟨(I8.out h).1, (I8.out h).2.1.keep ((Below.refl w'.heap.size w').alloc (Nat.le_refl _) (.cells #[Value.slice none 0 0] 22)), (I8.out h).2.2⟩), (fun h => ⟨(I9.out h).1, heapB ((Below.refl w'.heap.size w').alloc (Nat.le_refl _) (.cells #[Value.slice none 0 0] 22)) (I9.out h).2⟩), (fun _ => ⟨(by have := HXZ.out; have := IB.out.size; omega), heap_alloc_new w' (.cells #[Value.slice none 0 0] 22), fun h => by have := (Array.getElem?_eq_some_iff.1 (I9.out h).2).1; omega⟩), J13, J8, J11, (fun h => ⟨(J12.out h).1, rfl⟩), rfl⟩
    · obtain rfl : x11 = false := by simpa using hbi
      obtain rfl : x0 = true := hdep _ rfl ⟨0, .phase⟩ (by simp) rfl
      obtain rfl : x1 = true := hdep _ rfl ⟨1, .phase⟩ (by simp) rfl
      obtain rfl : x2 = true := hdep _ rfl ⟨2, .phase⟩ (by simp) rfl
      obtain rfl : x3 = true := hdep _ rfl ⟨3, .data⟩ (by simp) rfl
      obtain rfl : x8 = true := hdep _ rfl ⟨8, .chain⟩ (by simp) rfl
      obtain rfl : x9 = true := hdep _ rfl ⟨9, .data⟩ (by simp) rfl
      obtain rfl : x10 = true := hdep _ rfl ⟨10, .phase⟩ (by simp) rfl
      obtain rfl : x12 = false := Bool.eq_false_iff.2 fun h => by have := J13.out h; cases this
      have k3 := (I9.out rfl).2
      have c3 : w'.cell? ⟨b3, 0, none⟩ = some (Value.slice none 0 0) := cellR 0 k3 rfl
      have f3 := frozen_of_row w' b3 0 _ _ k3
      have n3 : ga ≠ b3 := by rintro rfl; have := (I3.out rfl).2; unfold RowAt at this; rw [k3] at this; simp at this
      have n8 : gr ≠ b3 := by rintro rfl; have := (I8.out rfl).2.1; unfold RowAt at this; rw [k3] at this; simp at this
      refine wpOpIn_skip (w' := (w'.setCell ⟨b3, 0, none⟩ (Value.slice (some ⟨ga, 0, none⟩) N N))) rfl rfl (by simp [Oper.semAt, execOp, go_sem, c3, f3]) ?_
      exact ⟨ga, gq, gr, b3, b4, (IB.out.setCell (p := ⟨b3, 0, none⟩) (by have := HXZ.out; have := (I9.out rfl).1; show X.heap.size ≤ b3; omega) _), (fun h => ⟨(I3.out h).1, (I3.out h).2.set_other _ _ _ n3⟩), (fun h => (heap_setCell_other _ _ _ _ (by rintro rfl; have := I4.out h; rw [k3] at this; simp at this)).trans (I4.out h)), (fun h => ⟨(I8.out h).1, (I8.out h).2.1.set_other _ _ _ n8, (I8.out h).2.2⟩), (fun h => ⟨(I9.out h).1, by rw [heap_setCell_same w' b3 0 _ 22 _ k3]; rfl⟩), (fun h => ⟨(IA.out h).1, (heap_setCell_other _ _ _ _ (Ne.symm ((IA.out h).2.2 rfl))).trans (IA.out h).2.1, (IA.out h).2.2⟩), (fun _ => rfl), J8, (fun _ => ⟨rfl, rfl⟩), J12, rfl⟩
    · obtain rfl : x12 = false := by simpa using hbi
      obtain rfl : x3 = true := hdep _ rfl ⟨3, .phase⟩ (by simp) rfl
      obtain rfl : x8 = true := hdep _ rfl ⟨8, .data⟩ (by simp) rfl
      obtain rfl : x9 = true := hdep _ rfl ⟨9, .phase⟩ (by simp) rfl
      obtain rfl : x10 = true := hdep _ rfl ⟨10, .data⟩ (by simp) rfl
      obtain rfl : x11 = true := hdep _ rfl ⟨11, .chain⟩ (by simp) rfl
      have k4 := (IA.out rfl).2.1
      have c4 : w'.cell? ⟨b4, 0, none⟩ = some (Value.slice none 0 0) := cellR 0 k4 rfl
      have f4 := frozen_of_row w' b4 0 _ _ k4
      have n3 : ga ≠ b4 := by rintro rfl; have := (I3.out rfl).2; unfold RowAt at this; rw [k4] at this; simp at this
      have n8 : gr ≠ b4 := by rintro rfl; have := (I8.out rfl).2.1; unfold RowAt at this; rw [k4] at this; simp at this
      refine wpOpIn_skip (w' := (w'.setCell ⟨b4, 0, none⟩ (Value.slice (some ⟨gr, 0, none⟩) N N))) rfl rfl (by simp [Oper.semAt, execOp, go_sem, c4, f4]) ?_
      exact ⟨ga, gq, gr, b3, b4, (IB.out.setCell (p := ⟨b4, 0, none⟩) (by have := HXZ.out; have := (IA.out rfl).1; show X.heap.size ≤ b4; omega) _), (fun h => ⟨(I3.out h).1, (I3.out h).2.set_other _ _ _ n3⟩), (fun h => (heap_setCell_other _ _ _ _ (by rintro rfl; have := I4.out h; rw [k4] at this; simp at this)).trans (I4.out h)), (fun h => ⟨(I8.out h).1, (I8.out h).2.1.set_other _ _ _ n8, (I8.out h).2.2⟩), (fun h => ⟨(I9.out h).1, (heap_setCell_other _ _ _ _ ((IA.out rfl).2.2 h)).trans (I9.out h).2⟩), (fun h => ⟨(IA.out h).1, by rw [heap_setCell_same w' b4 0 _ 22 _ k4]; rfl, (IA.out h).2.2⟩), (fun _ => rfl), J8, J11, (fun _ => ⟨rfl, rfl⟩), rfl⟩
  case fin =>
  intro listed a' Z hs hall ⟨ga, gq, gr, b3, b4, IB, I3, I4, I8, I9, IA, J13, J8, J11, J12, ha⟩
  obtain ⟨ls⟩ := listed
  match ls, hs with
  | [x0, x1, x2, x3, x4, x5, x6, x7, x8, x9, x10, x11, x12], _ =>
  obtain rfl : x0 = true := hall 0 (by simp)
  obtain rfl : x1 = true := hall 1 (by simp)
  obtain rfl : x2 = true := hall 2 (by simp)
  obtain rfl : x3 = true := hall 3 (by simp)
  obtain rfl : x4 = true := hall 4 (by simp)
  obtain rfl : x5 = true := hall 5 (by simp)
  obtain rfl : x6 = true := hall 6 (by simp)
  obtain rfl : x7 = true := hall 7 (by simp)
  obtain rfl : x8 = true := hall 8 (by simp)
  obtain rfl : x9 = true := hall 9 (by simp)
  obtain rfl : x10 = true := hall 10 (by simp)
  obtain rfl : x11 = true := hall 11 (by simp)
  obtain rfl : x12 = true := hall 12 (by simp)
  subst ha
  have HZ : Hid (Below w.heap.size w Z ∧ Below X.heap.size X Z) := ⟨HB.out.trans (IB.out.mono (by have := HXZ.out; omega)), IB.out⟩
  have HGA := Lib.hid (I3.out rfl)
  have HGR := Lib.hid (I8.out rfl)
  have HB3 := Lib.hid (I9.out rfl)
  have HB4 := Lib.hid (IA.out rfl)
  have c0 := kcell HZ.out.2 (cellR 0 Q0.out rfl)
  have c1 := kcell HZ.out.2 (cellR 1 Q0.out rfl)
  have k1 := kcell ((Below.refl Z.heap.size Z).alloc (Nat.le_refl _) (.cells #[.int .i64 0] 3)) c1
  clear IB I3 I4 I8 I9 IA J13 J8 J11 J12 hall hs HRP HMK
  dsimp only [Exit.then, Exit.inBlock]
  gi_wp2
  obtain ⟨z, hz⟩ : ∃ z, z = Z.heap.size := ⟨_, rfl⟩
  obtain ⟨O0, hO⟩ : ∃ O0 : Obj, O0 = (.cells #[.slice sa N sc, .int .i64 (n : Int)] 138 (0, 0)) := ⟨_, rfl⟩
  have HO := Lib.hid hO
  have HOK : Hid (SnB.Ok (SnB.mk O0 w.heap.size ga gr b3 b4 z N)) := by
    have a1 := HGA.out.1
    have a2 := HGR.out.1
    have a3 := HB3.out.1
    have a4 := HB4.out.1
    have q1 := HGA.out.2
    have q2 := HGR.out.2.1
    have q3 := HB3.out.2
    have q4 := HB4.out.2.1
    have e1 := q1.lt
    have e2 := q2.lt
    have e3 := (Array.getElem?_eq_some_iff.1 q3).1
    have e4 := (Array.getElem?_eq_some_iff.1 q4).1
    refine ⟨⟨by show w.heap.size < ga; omega, by show w.heap.size < gr; omega, by show w.heap.size < b3; omega, by show w.heap.size < b4; omega⟩, ⟨by show ga < z; omega, by show gr < z; omega, by show b3 < z; omega, by show b4 < z; omega⟩, HGR.out.2.2 rfl, ?_, ?_, ?_, ?_⟩
    · rintro e; simp only at e; subst e; unfold RowAt at q1; rw [q3] at q1; simp at q1
    · rintro e; simp only at e; subst e; unfold RowAt at q1; rw [q4] at q1; simp at q1
    · rintro e; simp only at e; subst e; unfold RowAt at q2; rw [q3] at q2; simp at q2
    · rintro e; simp only at e; subst e; unfold RowAt at q2; rw [q4] at q2; simp at q2
  have hbz : Below Z.heap.size Z (Z.alloc (.cells #[.int .i64 0] 3)) := (Below.refl _ _).alloc (Nat.le_refl _) _
  have HI0 : Hid (SnS (SnB.mk O0 w.heap.size ga gr b3 b4 z N) w l [] (.slice (some ⟨z, 0, none⟩) 1 1) 0 (Z.alloc (.cells #[.int .i64 0] 3))) := by
    have hm : SnM (SnB.mk O0 w.heap.size ga gr b3 b4 z N) w (snC l 0) (dirL l (snC l 0)) Z := by
      refine ⟨?_, ?_, HB3.out.2, HB4.out.2.1, ?_, HZ.out.1, by show z ≤ _; omega⟩
      · have := HGA.out.2; rw [HN.out] at this; exact this
      · have := HGR.out.2.1; rw [HN.out] at this; rw [dir_zero]; exact this
      · rw [HO.out]; exact (HZ.out.2.block _ (by have := HXZ.out; show w.heap.size < _; omega)).trans Q0.out
    refine ⟨hm.keep HOK.out (by rw [hz]; exact hbz), ?_, Marks.nil _ _⟩
    have h0 : snL l (0 + 1) = [0] := by rw [snL_succ, num_zero]; rfl
    rw [h0, hz]
    refine ⟨⟨rfl, .inr ⟨Z.heap.size, 1, #[.int .i64 0], rfl, Nat.le_refl _, heap_alloc_new Z _, by decide, by unfold maxLen; omega, rfl, rfl⟩⟩, by simp⟩
  have HWN : Hid (w.heap.size + 1 ≤ z) := by have h1 := HZ.out.2.size; have h2 := HXZ.out; rw [hz]; show _ ≤ _; omega
  rw [← hz]
  clear hz hbz hO HGA HGR HB3 HB4 HZ HXZ Q0 HB c0 c1 k1 h
  generalize Z.alloc (.cells #[.int .i64 0] 3) = Y at *
  clear Z X
  have HBK : Hid (∀ W, Below w.heap.size w W → z ≤ W.heap.size → Calls Tryz.prog 150 #[.slice sa N sc] W fun e w' => ∃ lb, e = .returned (.func (.func 159) #[] lb) ∧ Below W.heap.size W w' ∧ BIter l lb (fun j => j = ga ∨ j = gr) w') := by
    intro W hW hzW
    have hok := HOK.out
    have l1 := hok.lz.1
    have l2 := hok.lz.2.1
    have l3 := hok.l0.1
    have l4 := hok.l0.2.1
    simp only at l1 l2 l3 l4
    have := backward_any (w := W) (fun j => j = ga ∨ j = gr) (by omega) sa l sc (HL.out.keep hW) (fun g off e hne => by
      obtain ⟨g', off', e', hc⟩ := HL.out.at_ hne
      rw [e] at e'; cases e'
      have := block_lt_of_cell (hc 0 (by cases l with | nil => exact absurd rfl hne | cons x l => simp))
      simp only at this
      omega)
    rw [← HN.out] at this
    exact this
  refine wpIn_loop (fun a W => ∃ (k : Nat) (v : Value) (Ds : List Nat) (u23 u24 u25 u26 u54 u55 u56 u57 u58 u59 u60 : Value), k + 1 ≤ n ∧ Hid (SnS (SnB.mk O0 w.heap.size ga gr b3 b4 z N) w l Ds v k W) ∧ a = ⟨#[Value.agg #[Value.slice sa N sc, Value.int IntKind.i64 (n : Int)], Value.pointer (some ⟨w.heap.size, 0, none⟩), Value.slice none 0 0, Value.pointer (some ⟨b3, 0, none⟩), Value.pointer (some ⟨b4, 0, none⟩), v, undef, undef, undef, Value.pointer (some ⟨w.heap.size, 0, none⟩), Value.slice sa N sc, Value.int IntKind.i64 (N : Int), Value.slice (some ⟨ga, 0, none⟩) N N, Value.slice (some ⟨gq, 0, none⟩) 1 1, Value.pointer (some ⟨w.heap.size, 0, none⟩), Value.slice sa N sc, Value.int IntKind.i64 (N : Int), Value.slice (some ⟨gr, 0, none⟩) N N, Value.slice (some ⟨z, 0, none⟩) 1 1, Value.pointer (some ⟨w.heap.size, 1, none⟩), Value.int IntKind.i64 (n : Int), Value.int IntKind.i64 ((n : Int) - 1), Value.int IntKind.i64 (k : Int), u23, u24, u25, u26, undef, undef, undef, undef, undef, undef, undef, undef, undef, undef, undef, undef, undef, undef, undef, undef, undef, undef, undef, undef, undef, undef, undef, undef, undef, undef, undef, u54, u55, u56, u57, u58, u59, u60, undef], Ds.map mk⟩) (fun a _ => n - (intOf (a.tmps.getD 22 undef)).toNat) ⟨0, _, [], undef, undef, undef, undef, undef, undef, undef, undef, undef, undef, undef, hn1, HI0, rfl⟩ ?_
  clear HI0
  rintro a wr ⟨k, v, Ds, u23, u24, u25, u26, u54, u55, u56, u57, u58, u59, u60, hk, HS, rfl⟩
  have q0 := HS.out.m.q0
  rw [HO.out] at q0
  have c0 : wr.cell? ⟨w.heap.size, 0, none⟩ = some (Value.slice sa N sc) := cellR 0 q0 rfl
  by_cases hlt : k + 1 < n
  · have d1 : decide ((k : Int) < (n : Int) - 1) = true := decide_eq_true (by omega)
    clear q0
    gi_wp2
    refine ⟨trivial, callsIn_wide.2 ((HBK.out wr HS.out.m.bl HS.out.m.sz).mono ?_)⟩
    rintro e w1 ⟨lb, rfl, hb1, hit⟩
    have HS1 := Lib.hid (HS.out.keep HOK.out hb1)
    clear HS c0 hb1
    have HCI : Hid (InT l (snC l k) ∧ rkS l (snC l k) l.length = k) := sn_rank (by rw [← HN.out]; exact HL1.out) HBB.out k (by rw [HP.out]; omega)
    have HDL : Hid ((dirL l (snC l k)).length = l.length) := dirL_len _ _
    gi_wp2
    have HM := Lib.hid HS1.out.m
    obtain ⟨c, hc⟩ : ∃ c, c = snC l k := ⟨_, rfl⟩
    rw [← hc] at HM HCI HDL
    have HC := Lib.hid hc
    obtain ⟨d0, hd0⟩ : ∃ d0, d0 = dirL l c := ⟨_, rfl⟩
    rw [← hd0] at HM HDL
    have HD0 := Lib.hid hd0
    clear hc hd0
    refine wpIn_rangeFunc_ownH rfl (by omega) (gf := 159) (lb := lb) rfl trivial hit.1 (hit.2 _) (fun h k => h.trans k) (fun W l o o' h1 h2 h3 h4 => KeepP.putObj W l o o' h2 h3) (Below.refl _ _) (fun _ => rfl)
      (fun pre W => RowAt W ga c ∧ RowAt W gr (turnF d0 (pre.map (·.1))) ∧ But2 w1.heap.size ga gr w1 W ∧ Pas l c d0 (pre.map (·.1)))
      (fun cd pre W => cd = Code.exit 2 ∧ ∃ (p : List Nat) (x : Nat), pre.map (·.1) = p ++ [x] ∧ Pas l c d0 p ∧ x < l.length ∧ goesB l c (turnF d0 p) x = true ∧ RowAt W ga (c.set x (wrap64 (c.getD x 0 + (turnF d0 p).getD x 0))) ∧ RowAt W gr (turnF d0 p) ∧ But2 w1.heap.size ga gr w1 W)
      ?hI ?hIx ?h0 (fun x a' _ => a' = ⟨#[Value.agg #[Value.slice sa N sc, Value.int IntKind.i64 (n : Int)], Value.pointer (some ⟨w.heap.size, 0, none⟩), Value.slice none 0 0, Value.pointer (some ⟨b3, 0, none⟩), Value.pointer (some ⟨b4, 0, none⟩), v, Value.int IntKind.i64 (x.1 : Int), Value.int IntKind.i64 (l.getD x.1 0), undef, Value.pointer (some ⟨w.heap.size, 0, none⟩), Value.slice sa N sc, Value.int IntKind.i64 (N : Int), Value.slice (some ⟨ga, 0, none⟩) N N, Value.slice (some ⟨gq, 0, none⟩) 1 1, Value.pointer (some ⟨w.heap.size, 0, none⟩), Value.slice sa N sc, Value.int IntKind.i64 (N : Int), Value.slice (some ⟨gr, 0, none⟩) N N, Value.slice (some ⟨z, 0, none⟩) 1 1, Value.pointer (some ⟨w.heap.size, 1, none⟩), Value.int IntKind.i64 (n : Int), Value.int IntKind.i64 ((n : Int) - 1), Value.int IntKind.i64 (k : Int), Value.bool true, Value.pointer (some ⟨w.heap.size, 0, none⟩), Value.slice sa N sc, Value.func (Fn.func 159) #[] lb, Value.int IntKind.i64 (x.1 : Int), Value.int IntKind.i64 (l.getD x.1 0), undef, undef, undef, undef, undef, undef, undef, undef, undef, undef, undef, undef, undef, undef, undef, undef, undef, undef, undef, undef, undef, undef, undef, undef, undef, u54, u55, u56, u57, u58, u59, u60, undef], []⟩) ?hAx ?assign ?body ?done ?stop
    case hI => exact OwnFrom.and (own_blk _ _ _ (fun _ => rfl)) (OwnFrom.and (own_blk _ _ (fun pre : List (Fin l.length) => .cells (rowA (turnF d0 (pre.map (·.1)))) 3 (0, 0)) (fun _ => rfl)) (OwnFrom.and But2.own (ownFrom_pure _ _)))
    case hIx =>
      rintro cd s1 X1 Y1 row ⟨h1, p, x, e1, e2, e3, e4, e5, e6, e7⟩ hg hr
      exact ⟨h1, p, x, e1, e2, e3, e4, own_blk (β := Unit) w1.heap.size ga (fun _ => .cells (rowA (c.set x (wrap64 (c.getD x 0 + (turnF d0 p).getD x 0)))) 3 (0, 0)) (fun _ => rfl) () X1 Y1 row e5 hg hr, own_blk (β := Unit) w1.heap.size gr (fun _ => .cells (rowA (turnF d0 p)) 3 (0, 0)) (fun _ => rfl) () X1 Y1 row e6 hg hr, But2.own (β := Unit) () X1 Y1 row e7 hg hr⟩
    case h0 => exact ⟨HM.out.ra, HM.out.rd, But2.refl (Nat.le_refl _), Pas.nil _ _ _⟩
    case hAx => exact fun x a' => ownFrom_pure _ _
    case assign =>
      rintro ll pre x W K hI hK
      gi_wp2
      exact hK _ _ (KeepsFrom.refl _ _) (KeepP.refl _ _) hI (by simp)
    case body => as_aux_lemma =>
      rintro ll pre x a' W hl ⟨rr, hrr⟩ ⟨hA, hR, hB2, hPas⟩ rfl hlt2
      have hx := x.2
      have HPM : Hid ((pre ++ [x]).map (·.1) = pre.map (·.1) ++ [x.1]) := by show _ = _; simp
      clear hrr hlt2
      obtain ⟨P, hP⟩ : ∃ P, P = pre.map (·.1) := ⟨_, rfl⟩
      rw [← hP] at hR hPas HPM
      obtain ⟨d, hd⟩ : ∃ d, d = turnF d0 P := ⟨_, rfl⟩
      rw [← hd] at hR
      have HD := Lib.hid hd
      have hcl : x.1 < c.length := by rw [HCI.out.1.1]; exact hx
      have hdl : x.1 < d.length := by rw [hd, turnF_len, HDL.out]; exact hx
      have t0 : W.cell? ⟨ga, x.1, none⟩ = some (.int .i64 (c.getD x.1 0)) := by have := hA.cell x.1 hcl; rwa [show c[x.1] = c.getD x.1 0 by simp [List.getD, hcl]] at this
      have t1 : W.cell? ⟨gr, x.1, none⟩ = some (.int .i64 (d.getD x.1 0)) := by have := hR.cell x.1 hdl; rwa [show d[x.1] = d.getD x.1 0 by simp [List.getD, hdl]] at this
      have o0 := hA.open_ x.1
      have o1 := hR.open_ x.1
      have hok := HOK.out
      have hz1 := HM.out.sz
      have k3 : W.heap[b3]? = some (.cells #[.slice (some ⟨ga, 0, none⟩) N N] 22 (0, 0)) := (hB2.block b3 (by have := hok.lz.2.2.1; simp only at this hz1; omega) (Ne.symm hok.nn.2.1) (Ne.symm hok.nn.2.2.2.1)).trans HM.out.k3
      have k4 : W.heap[b4]? = some (.cells #[.slice (some ⟨gr, 0, none⟩) N N] 22 (0, 0)) := (hB2.block b4 (by have := hok.lz.2.2.2; simp only at this hz1; omega) (Ne.symm hok.nn.2.2.1) (Ne.symm hok.nn.2.2.2.2)).trans HM.out.k4
      have v3 : W.cell? ⟨b3, 0, none⟩ = some (.slice (some ⟨ga, 0, none⟩) N N) := cellR 0 k3 rfl
      have v4 : W.cell? ⟨b4, 0, none⟩ = some (.slice (some ⟨gr, 0, none⟩) N N) := cellR 0 k4 rfl
      have hxN : x.1 < N := by rw [HN.out]; exact hx
      have HGO : Hid (goesB l c d x.1 = decide (0 ≤ wrap64 (c.getD x.1 0 + d.getD x.1 0) ∧ wrap64 (c.getD x.1 0 + d.getD x.1 0) ≤ wrap64 (l.getD x.1 0 - 1))) := rfl
      have HTF : Hid (turnF d0 (P ++ [x.1]) = d.set x.1 (wrap64 (-(d.getD x.1 0)))) := by show _ = _; rw [turnF_snoc, ← hd]
      have HSX : Hid (c.set x.1 (wrap64 (c.getD x.1 0 + d.getD x.1 0)) = c.set x.1 (wrap64 (c.getD x.1 0 + d.getD x.1 0))) := rfl
      obtain ⟨cx, hcx⟩ : ∃ cx, cx = c.getD x.1 0 := ⟨_, rfl⟩
      obtain ⟨dx, hdx⟩ : ∃ dx, dx = d.getD x.1 0 := ⟨_, rfl⟩
      obtain ⟨s, hs⟩ : ∃ s, s = l.getD x.1 0 := ⟨_, rfl⟩
      rw [← hs]
      rw [← hcx] at t0
      rw [← hdx] at t1
      rw [← hcx, ← hdx, ← hs] at HGO
      rw [← hdx] at HTF
      have HCX := Lib.hid hcx
      have HDX := Lib.hid hdx
      have HA := Lib.hid hA
      have HR := Lib.hid hR
      have HB2 := Lib.hid hB2
      have HPA := Lib.hid hPas
      have HPR := Lib.hid hP
      have HXL := Lib.hid hx
      clear hP hd hcl hdl k3 k4 hok hz1 hcx hdx hs hA hR hB2 hPas hx HSX
      gi_wp2
      refine region_det (by kernel_rfl) (I := fun listed a' w' => w' = W.drew ∧ a' = ⟨#[Value.agg #[Value.slice sa N sc, Value.int IntKind.i64 (n : Int)], Value.pointer (some ⟨w.heap.size, 0, none⟩), Value.slice none 0 0, Value.pointer (some ⟨b3, 0, none⟩), Value.pointer (some ⟨b4, 0, none⟩), v, Value.int IntKind.i64 (x.1 : Int), Value.int IntKind.i64 s, (if listed.getD 9 false = true then Value.int IntKind.i64 (wrap64 (cx + dx)) else undef), Value.pointer (some ⟨w.heap.size, 0, none⟩), Value.slice sa N sc, Value.int IntKind.i64 (N : Int), Value.slice (some ⟨ga, 0, none⟩) N N, Value.slice (some ⟨gq, 0, none⟩) 1 1, Value.pointer (some ⟨w.heap.size, 0, none⟩), Value.slice sa N sc, Value.int IntKind.i64 (N : Int), Value.slice (some ⟨gr, 0, none⟩) N N, Value.slice (some ⟨z, 0, none⟩) 1 1, Value.pointer (some ⟨w.heap.size, 1, none⟩), Value.int IntKind.i64 (n : Int), Value.int IntKind.i64 ((n : Int) - 1), Value.int IntKind.i64 (k : Int), Value.bool true, Value.pointer (some ⟨w.heap.size, 0, none⟩), Value.slice sa N sc, Value.func (Fn.func 159) #[] lb, Value.int IntKind.i64 (x.1 : Int), Value.int IntKind.i64 s, (if listed.getD 0 false = true then Value.slice (some ⟨ga, 0, none⟩) N N else undef), (if listed.getD 1 false = true then Value.int IntKind.i64 (x.1 : Int) else undef), (if listed.getD 2 false = true then Value.pointer (some ⟨ga, x.1, none⟩) else undef), (if listed.getD 3 false = true then Value.int IntKind.i64 cx else undef), (if listed.getD 4 false = true then Value.slice (some ⟨gr, 0, none⟩) N N else undef), (if listed.getD 5 false = true then Value.int IntKind.i64 (x.1 : Int) else undef), (if listed.getD 6 false = true then Value.pointer (some ⟨gr, x.1, none⟩) else undef), (if listed.getD 7 false = true then Value.int IntKind.i64 dx else undef), (if listed.getD 8 false = true then Value.int IntKind.i64 (wrap64 (cx + dx)) else undef), undef, undef, undef, undef, undef, undef, undef, undef, undef, undef, undef, undef, undef, undef, undef, undef, u54, u55, u56, u57, u58, u59, u60, undef], []⟩) (hup_check (by kernel_rfl)) ?h0 ?step ?fin
      case h0 => exact ⟨rfl, rfl⟩
      case step => as_aux_lemma =>
        intro listed a' w' i hs hbi hdep hi ⟨IW, ha⟩
        obtain ⟨ls⟩ := listed
        match ls, hs with
        | [x0, x1, x2, x3, x4, x5, x6, x7, x8, x9], _ =>
        subst ha
        have hi' : i = 0 ∨ i = 1 ∨ i = 2 ∨ i = 3 ∨ i = 4 ∨ i = 5 ∨ i = 6 ∨ i = 7 ∨ i = 8 ∨ i = 9 := by simp at hi; omega
        subst IW
        rcases hi' with rfl | rfl | rfl | rfl | rfl | rfl | rfl | rfl | rfl | rfl
        · obtain rfl : x0 = false := by simpa using hbi
          refine wpOpIn_step rfl (fun K' hK => ?_)
          rw [if_pos (by rfl)]
          refine wpInF_plain (fun _ _ => trivial) (v := Value.slice (some ⟨ga, 0, none⟩) N N) (w' := W.drew) ?_ (hK _ _ ?_)
          · go_simp <;> first | rfl | (unfold wrap64; exact IntKind.wrap_i64 _)
          exact ⟨rfl, rfl⟩
        · obtain rfl : x1 = false := by simpa using hbi
          refine wpOpIn_step rfl (fun K' hK => ?_)
          rw [if_pos (by rfl)]
          refine wpInF_plain (fun _ _ => trivial) (v := Value.int IntKind.i64 (x.1 : Int)) (w' := W.drew) ?_ (hK _ _ ?_)
          · go_simp <;> first | rfl | (unfold wrap64; exact IntKind.wrap_i64 _)
          exact ⟨rfl, rfl⟩
        · obtain rfl : x2 = false := by simpa using hbi
          obtain rfl : x0 = true := hdep _ rfl ⟨0, .data⟩ (by simp) rfl
          obtain rfl : x1 = true := hdep _ rfl ⟨1, .data⟩ (by simp) rfl
          refine wpOpIn_step rfl (fun K' hK => ?_)
          rw [if_pos (by rfl)]
          refine wpInF_plain (fun _ _ => trivial) (v := Value.pointer (some ⟨ga, x.1, none⟩)) (w' := W.drew) ?_ (hK _ _ ?_)
          · go_simp <;> first | rfl | (unfold wrap64; exact IntKind.wrap_i64 _)
          exact ⟨rfl, rfl⟩
        · obtain rfl : x3 = false := by simpa using hbi
          obtain rfl : x2 = true := hdep _ rfl ⟨2, .data⟩ (by simp) rfl
          refine wpOpIn_step rfl (fun K' hK => ?_)
          rw [if_pos (by rfl)]
          refine wpInF_plain (fun _ _ => trivial) (v := Value.int IntKind.i64 cx) (w' := W.drew) ?_ (hK _ _ ?_)
          · go_simp <;> first | rfl | (unfold wrap64; exact IntKind.wrap_i64 _)
          exact ⟨rfl, rfl⟩
        · obtain rfl : x4 = false := by simpa using hbi
          refine wpOpIn_step rfl (fun K' hK => ?_)
          rw [if_pos (by rfl)]
          refine wpInF_plain (fun _ _ => trivial) (v := Value.slice (some ⟨gr, 0, none⟩) N N) (w' := W.drew) ?_ (hK _ _ ?_)
          · go_simp <;> first | rfl | (unfold wrap64; exact IntKind.wrap_i64 _)
          exact ⟨rfl, rfl⟩
        · obtain rfl : x5 = false := by simpa using hbi
          refine wpOpIn_step rfl (fun K' hK => ?_)
          rw [if_pos (by rfl)]
          refine wpInF_plain (fun _ _ => trivial) (v := Value.int IntKind.i64 (x.1 : Int)) (w' := W.drew) ?_ (hK _ _ ?_)
          · go_simp <;> first | rfl | (unfold wrap64; exact IntKind.wrap_i64 _)
          exact ⟨rfl, rfl⟩
        · obtain rfl : x6 = false := by simpa using hbi
          obtain rfl : x4 = true := hdep _ rfl ⟨4, .data⟩ (by simp) rfl
          obtain rfl : x5 = true := hdep _ rfl ⟨5, .data⟩ (by simp) rfl
          refine wpOpIn_step rfl (fun K' hK => ?_)
          rw [if_pos (by rfl)]
          refine wpInF_plain (fun _ _ => trivial) (v := Value.pointer (some ⟨gr, x.1, none⟩)) (w' := W.drew) ?_ (hK _ _ ?_)
          · go_simp <;> first | rfl | (unfold wrap64; exact IntKind.wrap_i64 _)
          exact ⟨rfl, rfl⟩
        · obtain rfl : x7 = false := by simpa using hbi
          obtain rfl : x6 = true := hdep _ rfl ⟨6, .data⟩ (by simp) rfl
          refine wpOpIn_step rfl (fun K' hK => ?_)
          rw [if_pos (by rfl)]
          refine wpInF_plain (fun _ _ => trivial) (v := Value.int IntKind.i64 dx) (w' := W.drew) ?_ (hK _ _ ?_)
          · go_simp <;> first | rfl | (unfold wrap64; exact IntKind.wrap_i64 _)
          exact ⟨rfl, rfl⟩
        · obtain rfl : x8 = false := by simpa using hbi
          obtain rfl : x3 = true := hdep _ rfl ⟨3, .data⟩ (by simp) rfl
          obtain rfl : x7 = true := hdep _ rfl ⟨7, .data⟩ (by simp) rfl
          refine wpOpIn_step rfl (fun K' hK => ?_)
          rw [if_pos (by rfl)]
          refine wpInF_plain (fun _ _ => trivial) (v := Value.int IntKind.i64 (wrap64 (cx + dx))) (w' := W.drew) ?_ (hK _ _ ?_)
          · go_simp <;> first | rfl | (unfold wrap64; exact IntKind.wrap_i64 _)
          exact ⟨rfl, rfl⟩
        · obtain rfl : x9 = false := by simpa using hbi
          obtain rfl : x8 = true := hdep _ rfl ⟨8, .data⟩ (by simp) rfl
          refine wpOpIn_step rfl (fun K' hK => ?_)
          rw [if_pos (by rfl)]
          refine wpInF_plain (fun _ _ => trivial) (v := Value.int IntKind.i64 (wrap64 (cx + dx))) (w' := W.drew) ?_ (hK _ _ ?_)
          · go_simp <;> first | rfl | (unfold wrap64; exact IntKind.wrap_i64 _)
          exact ⟨rfl, rfl⟩
      case fin =>
      intro listed a' Z hs hall ⟨IW, ha⟩
      obtain ⟨ls⟩ := listed
      match ls, hs with
      | [x0, x1, x2, x3, x4, x5, x6, x7, x8, x9], _ =>
      obtain rfl : x0 = true := hall 0 (by simp)
      obtain rfl : x1 = true := hall 1 (by simp)
      obtain rfl : x2 = true := hall 2 (by simp)
      obtain rfl : x3 = true := hall 3 (by simp)
      obtain rfl : x4 = true := hall 4 (by simp)
      obtain rfl : x5 = true := hall 5 (by simp)
      obtain rfl : x6 = true := hall 6 (by simp)
      obtain rfl : x7 = true := hall 7 (by simp)
      obtain rfl : x8 = true := hall 8 (by simp)
      obtain rfl : x9 = true := hall 9 (by simp)
      subst ha
      subst IW
      clear hall hs
      dsimp only [Exit.then, Exit.inBlock]
      gi_wp2
      refine ⟨trivial, CallsIn.inRound ll (callsIn_wide.2 ((within_any _ _ _ _).mono ?_))⟩
      rintro e wq ⟨rfl, rfl⟩
      rw [← HGO.out]
      cases hgb : goesB l c d x.1 with
      | false =>
        have HPN : Hid (Pas l c d0 (P ++ [x.1])) := HPA.out.snoc (by rw [← HD.out]; exact hgb)
        clear HGO hgb
        gi_wp2
        refine region_det (by kernel_rfl) (I := fun listed a' w' => w' = (if listed.getD 8 false = true then W.drew.drew.setCell ⟨gr, x.1, none⟩ (.int .i64 (wrap64 (-dx))) else W.drew.drew) ∧ Hid (listed.getD 8 false = true → listed.getD 0 false = true ∧ listed.getD 1 false = true ∧ listed.getD 2 false = true ∧ listed.getD 3 false = true ∧ listed.getD 4 false = true ∧ listed.getD 5 false = true ∧ listed.getD 6 false = true ∧ listed.getD 7 false = true) ∧ a' = ⟨#[Value.agg #[Value.slice sa N sc, Value.int IntKind.i64 (n : Int)], Value.pointer (some ⟨w.heap.size, 0, none⟩), Value.slice none 0 0, Value.pointer (some ⟨b3, 0, none⟩), Value.pointer (some ⟨b4, 0, none⟩), v, Value.int IntKind.i64 (x.1 : Int), Value.int IntKind.i64 s, Value.int IntKind.i64 (wrap64 (cx + dx)), Value.pointer (some ⟨w.heap.size, 0, none⟩), Value.slice sa N sc, Value.int IntKind.i64 (N : Int), Value.slice (some ⟨ga, 0, none⟩) N N, Value.slice (some ⟨gq, 0, none⟩) 1 1, Value.pointer (some ⟨w.heap.size, 0, none⟩), Value.slice sa N sc, Value.int IntKind.i64 (N : Int), Value.slice (some ⟨gr, 0, none⟩) N N, Value.slice (some ⟨z, 0, none⟩) 1 1, Value.pointer (some ⟨w.heap.size, 1, none⟩), Value.int IntKind.i64 (n : Int), Value.int IntKind.i64 ((n : Int) - 1), Value.int IntKind.i64 (k : Int), Value.bool true, Value.pointer (some ⟨w.heap.size, 0, none⟩), Value.slice sa N sc, Value.func (Fn.func 159) #[] lb, Value.int IntKind.i64 (x.1 : Int), Value.int IntKind.i64 s, Value.slice (some ⟨ga, 0, none⟩) N N, Value.int IntKind.i64 (x.1 : Int), Value.pointer (some ⟨ga, x.1, none⟩), Value.int IntKind.i64 cx, Value.slice (some ⟨gr, 0, none⟩) N N, Value.int IntKind.i64 (x.1 : Int), Value.pointer (some ⟨gr, x.1, none⟩), Value.int IntKind.i64 dx, Value.int IntKind.i64 (wrap64 (cx + dx)), Value.int IntKind.i64 (wrap64 (cx + dx)), Value.int IntKind.i64 s, Value.int IntKind.i64 (wrap64 (s - 1)), Value.bool false, undef, undef, undef, undef, (if listed.getD 0 false = true then Value.slice (some ⟨gr, 0, none⟩) N N else undef), (if listed.getD 1 false = true then Value.int IntKind.i64 (x.1 : Int) else undef), (if listed.getD 2 false = true then Value.slice (some ⟨gr, 0, none⟩) N N else undef), (if listed.getD 3 false = true then Value.int IntKind.i64 (x.1 : Int) else undef), (if listed.getD 4 false = true then Value.pointer (some ⟨gr, x.1, none⟩) else undef), (if listed.getD 5 false = true then Value.int IntKind.i64 dx else undef), (if listed.getD 6 false = true then Value.int IntKind.i64 (wrap64 (-dx)) else undef), (if listed.getD 7 false = true then Value.pointer (some ⟨gr, x.1, none⟩) else undef), u54, u55, u56, u57, u58, u59, u60, undef], []⟩) (hup_check (by kernel_rfl)) ?h0 ?step ?fin
        case h0 => exact ⟨rfl, (fun h => by simp at h), rfl⟩
        case step => as_aux_lemma =>
          intro listed a' w' i hs hbi hdep hi ⟨IW, J8, ha⟩
          obtain ⟨ls⟩ := listed
          match ls, hs with
          | [x0, x1, x2, x3, x4, x5, x6, x7, x8], _ =>
          subst ha
          have hi' : i = 0 ∨ i = 1 ∨ i = 2 ∨ i = 3 ∨ i = 4 ∨ i = 5 ∨ i = 6 ∨ i = 7 ∨ i = 8 := by simp at hi; omega
          rcases hi' with rfl | rfl | rfl | rfl | rfl | rfl | rfl | rfl | rfl
          · obtain rfl : x0 = false := by simpa using hbi
            obtain rfl : x8 = false := Bool.eq_false_iff.2 fun h => by have := (J8.out h).1; cases this
            obtain rfl : w' = W.drew.drew := IW
            refine wpOpIn_step rfl (fun K' hK => ?_)
            rw [if_pos (by rfl)]
            refine wpInF_plain (fun _ _ => trivial) (v := Value.slice (some ⟨gr, 0, none⟩) N N) (w' := W.drew.drew) ?_ (hK _ _ ?_)
            · go_simp <;> first | rfl | (unfold wrap64; exact IntKind.wrap_i64 _)
            exact ⟨rfl, (fun h => ⟨rfl, (J8.out h).2.1, (J8.out h).2.2.1, (J8.out h).2.2.2.1, (J8.out h).2.2.2.2.1, (J8.out h).2.2.2.2.2.1, (J8.out h).2.2.2.2.2.2.1, (J8.out h).2.2.2.2.2.2.2⟩), rfl⟩
          · obtain rfl : x1 = false := by simpa using hbi
            obtain rfl : x8 = false := Bool.eq_false_iff.2 fun h => by have := (J8.out h).2.1; cases this
            obtain rfl : w' = W.drew.drew := IW
            refine wpOpIn_step rfl (fun K' hK => ?_)
            rw [if_pos (by rfl)]
            refine wpInF_plain (fun _ _ => trivial) (v := Value.int IntKind.i64 (x.1 : Int)) (w' := W.drew.drew) ?_ (hK _ _ ?_)
            · go_simp <;> first | rfl | (unfold wrap64; exact IntKind.wrap_i64 _)
            exact ⟨rfl, (fun h => ⟨(J8.out h).1, rfl, (J8.out h).2.2.1, (J8.out h).2.2.2.1, (J8.out h).2.2.2.2.1, (J8.out h).2.2.2.2.2.1, (J8.out h).2.2.2.2.2.2.1, (J8.out h).2.2.2.2.2.2.2⟩), rfl⟩
          · obtain rfl : x2 = false := by simpa using hbi
            obtain rfl : x8 = false := Bool.eq_false_iff.2 fun h => by have := (J8.out h).2.2.1; cases this
            obtain rfl : w' = W.drew.drew := IW
            refine wpOpIn_step rfl (fun K' hK => ?_)
            rw [if_pos (by rfl)]
            refine wpInF_plain (fun _ _ => trivial) (v := Value.slice (some ⟨gr, 0, none⟩) N N) (w' := W.drew.drew) ?_ (hK _ _ ?_)
            · go_simp <;> first | rfl | (unfold wrap64; exact IntKind.wrap_i64 _)
            exact ⟨rfl, (fun h => ⟨(J8.out h).1, (J8.out h).2.1, rfl, (J8.out h).2.2.2.1, (J8.out h).2.2.2.2.1, (J8.out h).2.2.2.2.2.1, (J8.out h).2.2.2.2.2.2.1, (J8.out h).2.2.2.2.2.2.2⟩), rfl⟩
          · obtain rfl : x3 = false := by simpa using hbi
            obtain rfl : x8 = false := Bool.eq_false_iff.2 fun h => by have := (J8.out h).2.2.2.1; cases this
            obtain rfl : w' = W.drew.drew := IW
            refine wpOpIn_step rfl (fun K' hK => ?_)
            rw [if_pos (by rfl)]
            refine wpInF_plain (fun _ _ => trivial) (v := Value.int IntKind.i64 (x.1 : Int)) (w' := W.drew.drew) ?_ (hK _ _ ?_)
            · go_simp <;> first | rfl | (unfold wrap64; exact IntKind.wrap_i64 _)
            exact ⟨rfl, (fun h => ⟨(J8.out h).1, (J8.out h).2.1, (J8.out h).2.2.1, rfl, (J8.out h).2.2.2.2.1, (J8.out h).2.2.2.2.2.1, (J8.out h).2.2.2.2.2.2.1, (J8.out h).2.2.2.2.2.2.2⟩), rfl⟩
          · obtain rfl : x4 = false := by simpa using hbi
            obtain rfl : x2 = true := hdep _ rfl ⟨2, .data⟩ (by simp) rfl
            obtain rfl : x3 = true := hdep _ rfl ⟨3, .data⟩ (by simp) rfl
            obtain rfl : x8 = false := Bool.eq_false_iff.2 fun h => by have := (J8.out h).2.2.2.2.1; cases this
            obtain rfl : w' = W.drew.drew := IW
            refine wpOpIn_step rfl (fun K' hK => ?_)
            rw [if_pos (by rfl)]
            refine wpInF_plain (fun _ _ => trivial) (v := Value.pointer (some ⟨gr, x.1, none⟩)) (w' := W.drew.drew) ?_ (hK _ _ ?_)
            · go_simp <;> first | rfl | (unfold wrap64; exact IntKind.wrap_i64 _)
            exact ⟨rfl, (fun h => ⟨(J8.out h).1, (J8.out h).2.1, (J8.out h).2.2.1, (J8.out h).2.2.2.1, rfl, (J8.out h).2.2.2.2.2.1, (J8.out h).2.2.2.2.2.2.1, (J8.out h).2.2.2.2.2.2.2⟩), rfl⟩
          · obtain rfl : x5 = false := by simpa using hbi
            obtain rfl : x4 = true := hdep _ rfl ⟨4, .data⟩ (by simp) rfl
            obtain rfl : x8 = false := Bool.eq_false_iff.2 fun h => by have := (J8.out h).2.2.2.2.2.1; cases this
            obtain rfl : w' = W.drew.drew := IW
            refine wpOpIn_step rfl (fun K' hK => ?_)
            rw [if_pos (by rfl)]
            refine wpInF_plain (fun _ _ => trivial) (v := Value.int IntKind.i64 dx) (w' := W.drew.drew) ?_ (hK _ _ ?_)
            · go_simp <;> first | rfl | (unfold wrap64; exact IntKind.wrap_i64 _)
            exact ⟨rfl, (fun h => ⟨(J8.out h).1, (J8.out h).2.1, (J8.out h).2.2.1, (J8.out h).2.2.2.1, (J8.out h).2.2.2.2.1, rfl, (J8.out h).2.2.2.2.2.2.1, (J8.out h).2.2.2.2.2.2.2⟩), rfl⟩
          · obtain rfl : x6 = false := by simpa using hbi
            obtain rfl : x5 = true := hdep _ rfl ⟨5, .data⟩ (by simp) rfl
            obtain rfl : x8 = false := Bool.eq_false_iff.2 fun h => by have := (J8.out h).2.2.2.2.2.2.1; cases this
            obtain rfl : w' = W.drew.drew := IW
            refine wpOpIn_step rfl (fun K' hK => ?_)
            rw [if_pos (by rfl)]
            refine wpInF_plain (fun _ _ => trivial) (v := Value.int IntKind.i64 (wrap64 (-dx))) (w' := W.drew.drew) ?_ (hK _ _ ?_)
            · go_simp <;> first | rfl | (unfold wrap64; exact IntKind.wrap_i64 _)
            exact ⟨rfl, (fun h => ⟨(J8.out h).1, (J8.out h).2.1, (J8.out h).2.2.1, (J8.out h).2.2.2.1, (J8.out h).2.2.2.2.1, (J8.out h).2.2.2.2.2.1, rfl, (J8.out h).2.2.2.2.2.2.2⟩), rfl⟩
          · obtain rfl : x7 = false := by simpa using hbi
            obtain rfl : x0 = true := hdep _ rfl ⟨0, .data⟩ (by simp) rfl
            obtain rfl : x1 = true := hdep _ rfl ⟨1, .data⟩ (by simp) rfl
            obtain rfl : x2 = true := hdep _ rfl ⟨2, .phase⟩ (by simp) rfl
            obtain rfl : x3 = true := hdep _ rfl ⟨3, .phase⟩ (by simp) rfl
            obtain rfl : x4 = true := hdep _ rfl ⟨4, .phase⟩ (by simp) rfl
            obtain rfl : x5 = true := hdep _ rfl ⟨5, .phase⟩ (by simp) rfl
            obtain rfl : x6 = true := hdep _ rfl ⟨6, .phase⟩ (by simp) rfl
            obtain rfl : x8 = false := Bool.eq_false_iff.2 fun h => by have := (J8.out h).2.2.2.2.2.2.2; cases this
            obtain rfl : w' = W.drew.drew := IW
            refine wpOpIn_step rfl (fun K' hK => ?_)
            rw [if_pos (by rfl)]
            refine wpInF_plain (fun _ _ => trivial) (v := Value.pointer (some ⟨gr, x.1, none⟩)) (w' := W.drew.drew) ?_ (hK _ _ ?_)
            · go_simp <;> first | rfl | (unfold wrap64; exact IntKind.wrap_i64 _)
            exact ⟨rfl, (fun h => ⟨(J8.out h).1, (J8.out h).2.1, (J8.out h).2.2.1, (J8.out h).2.2.2.1, (J8.out h).2.2.2.2.1, (J8.out h).2.2.2.2.2.1, (J8.out h).2.2.2.2.2.2.1, rfl⟩), rfl⟩
          · obtain rfl : x8 = false := by simpa using hbi
            obtain rfl : x0 = true := hdep _ rfl ⟨0, .phase⟩ (by simp) rfl
            obtain rfl : x1 = true := hdep _ rfl ⟨1, .phase⟩ (by simp) rfl
            obtain rfl : x2 = true := hdep _ rfl ⟨2, .phase⟩ (by simp) rfl
            obtain rfl : x3 = true := hdep _ rfl ⟨3, .phase⟩ (by simp) rfl
            obtain rfl : x4 = true := hdep _ rfl ⟨4, .phase⟩ (by simp) rfl
            obtain rfl : x5 = true := hdep _ rfl ⟨5, .phase⟩ (by simp) rfl
            obtain rfl : x6 = true := hdep _ rfl ⟨6, .data⟩ (by simp) rfl
            obtain rfl : x7 = true := hdep _ rfl ⟨7, .data⟩ (by simp) rfl
            obtain rfl : w' = W.drew.drew := IW
            refine wpOpIn_step rfl (fun K' hK => ?_)
            rw [if_pos (by rfl)]
            refine wpInF_skip (fun _ _ => trivial) (w' := W.drew.drew.setCell ⟨gr, x.1, none⟩ (.int .i64 (wrap64 (-dx)))) ?_ (hK _ _ ?_)
            · go_simp <;> first | rfl | (unfold wrap64; exact IntKind.wrap_i64 _)
            exact ⟨rfl, (fun _ => ⟨rfl, rfl, rfl, rfl, rfl, rfl, rfl, rfl⟩), rfl⟩
        case fin =>
        intro listed a' Z2 hs hall ⟨IW, J8, ha⟩
        obtain ⟨ls⟩ := listed
        match ls, hs with
        | [x0, x1, x2, x3, x4, x5, x6, x7, x8], _ =>
        obtain rfl : x0 = true := hall 0 (by simp)
        obtain rfl : x1 = true := hall 1 (by simp)
        obtain rfl : x2 = true := hall 2 (by simp)
        obtain rfl : x3 = true := hall 3 (by simp)
        obtain rfl : x4 = true := hall 4 (by simp)
        obtain rfl : x5 = true := hall 5 (by simp)
        obtain rfl : x6 = true := hall 6 (by simp)
        obtain rfl : x7 = true := hall 7 (by simp)
        obtain rfl : x8 = true := hall 8 (by simp)
        subst ha
        obtain rfl : Z2 = W.drew.drew.setCell ⟨gr, x.1, none⟩ (.int .i64 (wrap64 (-dx))) := IW
        clear J8 hall hs
        dsimp only [Exit.then, Exit.inBlock]
        have hR2 : RowAt (W.drew.drew.setCell ⟨gr, x.1, none⟩ (.int .i64 (wrap64 (-dx)))) gr (d.set x.1 (wrap64 (-dx))) := RowAt.set (w := W.drew.drew) HR.out x.1 _
        have hA2 : RowAt (W.drew.drew.setCell ⟨gr, x.1, none⟩ (.int .i64 (wrap64 (-dx)))) ga c := RowAt.set_other (w := W.drew.drew) HA.out gr x.1 _ (HOK.out.nn.1)
        refine ⟨((KeepsOthers.drew W).trans ((KeepsOthers.drew _).trans (KeepsOthers.setCell _ _ _))).from _, (KeepP.refl _ _).drew.drew.setCell _ _ (.inr rfl) _, hA2, ?_, HB2.out.drew.drew.set (.inr rfl) _ _, ?_⟩
        · rw [HPM.out, HTF.out]; exact hR2
        · rw [HPM.out]; exact HPN.out
      | true =>
        have HGB := Lib.hid hgb
        clear HGO hgb
        gi_wp2
        have hA2 : RowAt (W.drew.setCell ⟨ga, x.1, none⟩ (.int .i64 (wrap64 (cx + dx)))) ga (c.set x.1 (wrap64 (cx + dx))) := RowAt.set (w := W.drew) HA.out x.1 _
        have hR2 : RowAt (W.drew.setCell ⟨ga, x.1, none⟩ (.int .i64 (wrap64 (cx + dx)))) gr d := RowAt.set_other (w := W.drew) HR.out ga x.1 _ (Ne.symm HOK.out.nn.1)
        refine ⟨((KeepsOthers.drew W).trans (KeepsOthers.setCell _ _ _)).from _, rfl, P, x.1, HPM.out, HPA.out, HXL.out, by rw [← HD.out]; exact HGB.out, ?_, by rw [← HD.out]; exact hR2, HB2.out.drew.set (.inl rfl) _ _⟩
        rw [← HD.out, ← HCX.out, ← HDX.out]; exact hA2
    case done =>
      rintro D xs W hD hS ⟨hA, hR, hB2, hPas⟩ hK
      exfalso
      have h1 := hPas
      rw [hS, HD0.out] at h1
      have h2 := pas_last HBB.out HCI.out.1 h1
      rw [HCI.out.2, HP.out] at h2
      omega
    case stop =>
      rintro D cd pre W hD hSp ⟨rfl, p, x, e1, e2, e3, e4, e5, e6, e7⟩ hK
      rw [e1] at hSp
      rw [HD0.out] at e2 e4 e5 e6
      obtain ⟨g1, g2, g3⟩ := goes_next HBB.out HCI.out.1 e3 hSp e2 e4
      rw [g2] at e5
      rw [g3] at e6
      have hcn : nextC c x = snC l (k + 1) := by rw [snC, ← HC.out, g1]
      rw [hcn] at e5 e6
      have hok := HOK.out
      have HM2 : Hid (SnM (SnB.mk O0 w.heap.size ga gr b3 b4 z N) w (snC l (k + 1)) (dirL l (snC l (k + 1))) W) := HM.out.turned hok (Nat.le_refl _) e7 e5 e6
      have HNV : Hid (NewInts z W v (snL l (k + 1))) := HS1.out.nv.but2 e7 rfl hok.lz.1 hok.lz.2.1
      have HMS : Hid (Marks z (D :: Ds) W) := by
        have h1 := HS1.out.ms.but2 e7 rfl hok.lz.1 hok.lz.2.1
        refine (HS1.out.ms).push hD (fun E hE => ?_) hK HM.out.sz
        exact ((h1.open_ E hE).2).trans ((HS1.out.ms).open_ E hE).2.symm
      clear e1 e2 e3 e4 e5 e6 e7 g1 g2 g3 hSp hcn hok HS1 HM HC HD0 HCI HDL hit
      have q0 := HM2.out.q0
      rw [HO.out] at q0
      have c0 : W.cell? ⟨w.heap.size, 0, none⟩ = some (Value.slice sa N sc) := cellR 0 q0 rfl
      have c1 : W.cell? ⟨w.heap.size, 1, none⟩ = some (.int .i64 (n : Int)) := cellR 1 q0 rfl
      have c3 : W.cell? ⟨b3, 0, none⟩ = some (.slice (some ⟨ga, 0, none⟩) N N) := cellR 0 HM2.out.k3 rfl
      have HNUM : Hid (Calls Tryz.prog 152 #[.agg #[.slice sa N sc, .int .i64 (n : Int)], .slice (some ⟨ga, 0, none⟩) N N] W fun e w' => e = .returned (.int .i64 (numI l (snC l (k + 1)))) ∧ Below W.heap.size W w') := by
        have hin := (sn_rank (by rw [← HN.out]; exact HL1.out) HBB.out (k + 1) (by rw [HP.out]; omega)).1
        have h1 := number_any (HL.out.keep HM2.out.bl) (HM2.out.ra.ints (by rw [hin.1, ← HN.out]; have := HL4.out; omega)) hin.1 (by rw [← HN.out]; exact HL4.out) HBB.out hin.2 sc N (n : Int)
        rw [hin.1, ← HN.out] at h1
        exact h1
      clear q0 hK
      gi_wp2
      refine ⟨trivial, callsIn_wide.2 (HNUM.out.mono ?_)⟩
      rintro e w2 ⟨rfl, hb2⟩
      have HM3 := Lib.hid (HM2.out.keep HOK.out (hb2.mono HM2.out.sz))
      obtain ⟨v', w3, hr, hm3, hn3, hk3⟩ := HM3.out.app HOK.out (HNV.out.keep2 hb2) (HMS.out.below (z := 0) hb2) (numI l (snC l (k + 1))) (by rw [snL_len]; omega)
      have HS3 : Hid (SnS (SnB.mk O0 w.heap.size ga gr b3 b4 z N) w l (D :: Ds) v' (k + 1) w3) := ⟨hm3, by rw [snL_succ]; exact hn3, hk3⟩
      have HR := Lib.hid hr
      have hsl : (snL l (k + 1)).length = k + 1 := snL_len _ _
      clear hr hm3 hn3 hk3 hb2 HM2 HM3 HNV HMS HNUM c0 c1 c3 hsl
      have HWI := Lib.hid (wrap_small ((k : Int) + 1) (by omega) (by omega))
      have HCS : Hid (((k : Int) + 1) = ((k + 1 : Nat) : Int)) := by show _ = _; rw [Int.natCast_add]; rfl
      have HME : Hid (n - (intOf (.int .i64 ((k : Int) + 1))).toNat < n - (intOf (.int .i64 (k : Int))).toNat) := by show _ < _; simp [intOf]; omega
      have HMO : Hid (n - (intOf (.int .i64 (wrap64 ((k : Int) + 1)))).toNat < n - (intOf (.int .i64 (k : Int))).toNat) := by show _ < _; rw [HWI.out]; exact HME.out
      have HK1 : Hid (k + 1 + 1 ≤ n) := hlt
      gi_wp2_with (gi_at_builtin; refine wpListIn_append_run rfl _ _ 22 rfl rfl rfl HR.out ?_)
      refine ⟨?_, HME.out⟩
      rw [HCS.out]
      exact ⟨k + 1, v', D :: Ds, _, _, _, _, _, _, _, _, _, _, _, HK1.out, HS3, rfl⟩
  · have hkn : k + 1 = n := by omega
    have d1 : decide ((k : Int) < (n : Int) - 1) = false := decide_eq_false (by omega)
    have HS2 := HS
    clear c0 q0
    gi_wp2
    refine leaves_marks Ds _ HS.out.ms fun w' hw => ?_
    obtain ⟨r1, r2⟩ := HS.out.out HOK.out (by have := HWN.out; show w.heap.size ≤ z; omega) rfl hw
    rw [hkn] at r1
    refine ⟨v, ?_, v, rfl, r1, r2⟩
    simp [results, Tryz.results145, go_sem]
end Go.Proofs.YtbhkenphcahifaaGreat
namespace Go.Proofs.YtbhkenphcahifaaGreat
open Go.RowKit Go.Shelf
attribute [local go_sem] Oper.semAt_some
set_option maxRecDepth 100000
set_option maxHeartbeats 4000000
/-- the length of a slice -/
def lenV : Value → Nat
  | .slice _ n _ => n
  | _ => 0
/-- the reference's snake in memory: coordinates, directions, what it says -/
structure RS (b0 ga gr z : Nat) (o0 : Obj) (w : World) (c d : List Int) (v : Value) (L : List Int) (W : World) : Prop where
  ra : RowAt W ga c
  rd : RowAt W gr d
  q0 : W.heap[b0]? = some o0
  bl : Below b0 w W
  nv : NewInts z W v L
  sz : z ≤ W.heap.size
  g0 : b0 = w.heap.size ∧ b0 < ga ∧ b0 < gr ∧ ga < z ∧ gr < z ∧ ga ≠ gr
theorem RS.keep {b0 ga gr z : Nat} {o0 : Obj} {w W W' : World} {c d L : List Int} {v : Value} (h : RS b0 ga gr z o0 w c d v L W) (hb : Below W.heap.size W W') : RS b0 ga gr z o0 w c d v L W' := by
  have h1 := h.sz
  obtain ⟨e0, e1, e2, e3, e4, e5⟩ := h.g0
  exact ⟨h.ra.keep hb, h.rd.keep hb, heapB hb h.q0, h.bl.trans (hb.mono (by omega)), h.nv.keep2 hb, Nat.le_trans h.sz hb.size, h.g0⟩
theorem RS.setA {b0 ga gr z : Nat} {o0 : Obj} {w W : World} {c d L : List Int} {v : Value} (h : RS b0 ga gr z o0 w c d v L W) (i : Nat) (x : Int) : RS b0 ga gr z o0 w (c.set i x) d v L (W.setCell ⟨ga, i, none⟩ (.int .i64 x)) := by
  have h1 := h.sz
  obtain ⟨e0, e1, e2, e3, e4, e5⟩ := h.g0
  have hb : But2 W.heap.size ga gr W (W.setCell ⟨ga, i, none⟩ (.int .i64 x)) := (But2.refl (Nat.le_refl _)).set (.inl rfl) i _
  exact ⟨h.ra.set i x, h.rd.set_other _ _ _ (Ne.symm e5), (hb.block _ (by omega) (by omega) (by omega)).trans h.q0, hb.below h.bl rfl (by omega) (by omega) (by omega), h.nv.but2 hb rfl e3 e4, Nat.le_trans h1 hb.size, h.g0⟩
theorem RS.setD {b0 ga gr z : Nat} {o0 : Obj} {w W : World} {c d L : List Int} {v : Value} (h : RS b0 ga gr z o0 w c d v L W) (i : Nat) (x : Int) : RS b0 ga gr z o0 w c (d.set i x) v L (W.setCell ⟨gr, i, none⟩ (.int .i64 x)) := by
  have h1 := h.sz
  obtain ⟨e0, e1, e2, e3, e4, e5⟩ := h.g0
  have hb : But2 W.heap.size ga gr W (W.setCell ⟨gr, i, none⟩ (.int .i64 x)) := (But2.refl (Nat.le_refl _)).set (.inr rfl) i _
  exact ⟨h.ra.set_other _ _ _ e5, h.rd.set i x, (hb.block _ (by omega) (by omega) (by omega)).trans h.q0, hb.below h.bl rfl (by omega) (by omega) (by omega), h.nv.but2 hb rfl e3 e4, Nat.le_trans h1 hb.size, h.g0⟩
theorem RS.app {b0 ga gr z : Nat} {o0 : Obj} {w W : World} {c d L : List Int} {v : Value} (h : RS b0 ga gr z o0 w c d v L W) (x : Int) (hl : L.length ≤ 1000000) : ∃ v' w2, (Builtin.append_ #[22, 22] 22 #[v, .slice (some ⟨W.heap.size, 0, none⟩) 1 1]).run Tryz.prog (W.alloc (.cells #[.int .i64 x] 3)) = .ok v' w2 ∧ RS b0 ga gr z o0 w c d v' (L ++ [x]) w2 := by
  obtain ⟨v', w2, hr, hn, hb⟩ := appOne h.nv x hl h.sz
  obtain ⟨e0, e1, e2, e3, e4, e5⟩ := h.g0
  exact ⟨v', w2, hr, ⟨(hb.block _ e3).trans h.ra, (hb.block _ e4).trans h.rd, (hb.block _ (by omega)).trans h.q0, h.bl.trans (hb.mono (by omega)), hn, Nat.le_trans h.sz hb.size, h.g0⟩⟩
theorem RS.done {b0 ga gr z : Nat} {o0 : Obj} {w W : World} {c d L : List Int} {v : Value} (h : RS b0 ga gr z o0 w c d v L W) : NewInts w.heap.size W v L ∧ Below w.heap.size w W := by
  obtain ⟨e0, e1, e2, e3, e4, e5⟩ := h.g0
  refine ⟨⟨ownsRow_low h.nv.own (by omega), h.nv.len⟩, ?_⟩
  have := h.bl
  rwa [e0] at this
/-- the directions, turned behind i as far as k -/
def turnR (c : List Int) (n i k : Nat) : List Int := (List.range n).map fun j => if i < j ∧ j < k then - dirB c j else dirB c j
theorem turnR_len (c : List Int) (n i k : Nat) : (turnR c n i k).length = n := by simp [turnR]
theorem turnR_at (c : List Int) {n i k j : Nat} (h : j < n) : (turnR c n i k).getD j 0 = if i < j ∧ j < k then - dirB c j else dirB c j := by simp [turnR, List.getD, h]
theorem turnR_start (l c : List Int) (i : Nat) : turnR c l.length i (i + 1) = dirL l c := by
  unfold turnR dirL
  refine List.map_congr_left fun j _ => ?_
  rw [if_neg (by omega)]
theorem turnR_step (c : List Int) {n i k : Nat} (hi : i < k) (hk : k < n) : (turnR c n i k).set k (- dirB c k) = turnR c n i (k + 1) := by
  refine List.ext_getElem (by simp [turnR]) fun j h1 h2 => ?_
  simp only [turnR, List.getElem_set, List.getElem_map, List.getElem_range]
  by_cases hj : k = j
  · subst hj; rw [if_pos rfl, if_pos (by omega)]
  · rw [if_neg hj]
    by_cases h : i < j ∧ j < k
    · rw [if_pos h, if_pos (by omega)]
    · rw [if_neg h, if_neg (by omega)]
theorem turnR_end (l : List Int) {c : List Int} {i : Nat} (hi : i < c.length) : turnR c l.length i l.length = dirL l (nextC c i) := by
  unfold turnR dirL
  refine List.map_congr_left fun j hj => ?_
  have hj := List.mem_range.1 hj
  rw [dir_next hi]
  by_cases h : i < j
  · rw [if_pos ⟨h, hj⟩, if_pos h]
  · rw [if_neg (by omega), if_neg h]
/-- a row of ones as far as k -/
def onesR (n k : Nat) : List Int := (List.range n).map fun j => if j < k then 1 else 0
theorem onesR_len (n k : Nat) : (onesR n k).length = n := by simp [onesR]
theorem onesR_zero (n : Nat) : onesR n 0 = List.replicate n 0 := by
  refine List.ext_getElem (by simp [onesR]) fun j h1 h2 => by simp [onesR]
theorem onesR_full (n : Nat) : onesR n n = List.replicate n 1 := by
  refine List.ext_getElem (by simp [onesR]) fun j h1 h2 => ?_
  have : j < n := by simpa [onesR] using h1
  simp [onesR, this]
theorem onesR_set {n k : Nat} (hk : k < n) : (onesR n k).set k 1 = onesR n (k + 1) := by
  refine List.ext_getElem (by simp [onesR]) fun j h1 h2 => ?_
  simp only [onesR, List.getElem_set, List.getElem_map, List.getElem_range]
  by_cases hj : k = j
  · subst hj; simp
  · rw [if_neg hj]
    by_cases h : j < k
    · rw [if_pos h, if_pos (by omega)]
    · rw [if_neg h, if_neg (by omega)]
theorem sn_last {l : List Int} (hl : 1 ≤ l.length) (hb : ∀ i, i < l.length → 2 ≤ l.getD i 0 ∧ l.getD i 0 ≤ 16) {k n : Nat} (hp : prodI l = (n : Int)) (hk : k < n) (h : ∀ j, j < l.length → dgI l (snC l k) j = l.getD j 0 - 1) : k + 1 = n := by
  have h1 := (sn_rank hl hb k (by omega)).2
  have h2 := rk_last (l := l) (c := snC l k) ⟨fun j _ h2 => h j h2, fun h0 => h 0 h0⟩
  omega
theorem sn_goes {l : List Int} (hl : 1 ≤ l.length) (hb : ∀ i, i < l.length → 2 ≤ l.getD i 0 ∧ l.getD i 0 ≤ 16) {k n i : Nat} (hp : prodI l = (n : Int)) (hk : k < n) (hi : i < l.length) (hd : dgI l (snC l k) i < l.getD i 0 - 1) (he : ∀ j, i < j → j < l.length → dgI l (snC l k) j = l.getD j 0 - 1) : k + 1 < n ∧ snC l (k + 1) = nextC (snC l k) i := by
  obtain ⟨hin, h1⟩ := sn_rank hl hb k (by omega)
  have h2 := rk_next hin hi hd he
  have h3 := rk_bound h2.1 l.length (Nat.le_refl _)
  rw [List.take_length] at h3
  refine ⟨by omega, ?_⟩
  rw [snC, ld_eq l.length hi hd he]
end Go.Proofs.YtbhkenphcahifaaGreat
namespace Go.Proofs.YtbhkenphcahifaaGreat
open Go.RowKit Go.Shelf
attribute [local go_sem] Oper.semAt_some
set_option maxRecDepth 100000
set_option maxHeartbeats 4000000
/-- the reference's Snake, in a torus -/
theorem rSnake1_ok {w : World} {sa : Option Addr} {l : List Int} (h : Ints w sa l) (hl1 : 1 ≤ l.length) (hl4 : l.length ≤ 4) (hb : ∀ i, i < l.length → 2 ≤ l.getD i 0 ∧ l.getD i 0 ≤ 16) (n : Nat) (hp : prodI l = (n : Int)) (hn : n ≤ 256) (hn1 : 1 ≤ n) (sc : Nat) (hosts : Int) (hv : vOk 1 l hosts) :
    Calls Tryz.prog 21 #[.agg #[.int .i64 1, .slice sa l.length sc, .int .i64 hosts]] w fun e w' => ∃ v, e = .returned (.tuple #[v, .int .i64 0]) ∧ NewInts w.heap.size w' v (snL l n) ∧ Below w.heap.size w w' := by
  obtain ⟨N, hN⟩ : ∃ N, N = l.length := ⟨_, rfl⟩
  have HN := Lib.hid hN
  have HL := Lib.hid h
  have HBB := Lib.hid hb
  have HP := Lib.hid hp
  have HCK : Hid (∀ W, Below w.heap.size w W → Calls Tryz.prog 50 #[.agg #[.int .i64 1, .slice sa l.length sc, .int .i64 hosts]] W fun e w' => e = .returned (.int .i64 0) ∧ Below W.heap.size W w') := fun W hW => by
    have := rCheck_any (h.keep hW) sc 1 hosts
    rwa [show errI 1 l hosts = 0 from if_pos hv] at this
  have HNM : Hid (∀ (W : World) (ga : Nat) (c : List Int), Below w.heap.size w W → RowAt W ga c → InT l c → Calls Tryz.prog 61 #[.agg #[.int .i64 1, .slice sa l.length sc, .int .i64 hosts], .slice (some ⟨ga, 0, none⟩) l.length l.length] W fun e w' => e = .returned (.int .i64 (numI l c)) ∧ Below W.heap.size W w') := fun W ga c hW hr hc =>
    rNumber_any (h.keep hW) (hr.ints (by rw [hc.1]; omega)) hc.1 hl4 hb hc.2 sc l.length 1 hosts
  have hmk := make_ints N (by omega)
  rw [← hN] at HCK HNM ⊢
  have hl4' : N ≤ 4 := by omega
  have hl1' : 1 ≤ N := by omega
  have HB := Lib.hid ((Below.refl w.heap.size w).alloc (Nat.le_refl _) (.cells #[.int .i64 1, .slice sa N sc, .int .i64 hosts] 34))
  have Q0 := Lib.hid (heap_alloc_new w (.cells #[.int .i64 1, .slice sa N sc, .int .i64 hosts] 34))
  have HZ : Hid ((w.alloc (.cells #[.int .i64 1, .slice sa N sc, .int .i64 hosts] 34)).heap.size = w.heap.size + 1) := by show _ = _; simp
  have c0 := cellR 0 Q0.out rfl
  have c1 := cellR 1 Q0.out rfl
  have c2 := cellR 2 Q0.out rfl
  clear h hb hp hN hl1 hl4 hv
  go_enter Tryz.func21, Tryz.ntmps21
  go_wp2_with fail
  generalize w.alloc (.cells #[.int .i64 1, .slice sa N sc, .int .i64 hosts] 34) = X at *
  refine (HCK.out _ HB.out).mono ?_
  rintro e w1 ⟨rfl, hb1⟩
  replace Q0 := Lib.hid (heapB hb1 Q0.out)
  replace HB := Lib.hid (HB.out.trans (hb1.mono HB.out.size))
  have HZ1 : Hid (w.heap.size < w1.heap.size) := by show _ < _; have := HZ.out; have := hb1.size; omega
  clear hb1 c0 c1 c2 HCK HZ
  have c0 := cellR 0 Q0.out rfl
  have c1 := cellR 1 Q0.out rfl
  have c2 := cellR 2 Q0.out rfl
  have hm1 := hmk w1
  have hm2 := hmk (w1.alloc (.cells (rowA (List.replicate N 0)) 3))
  rw [World.size_alloc] at hm2
  have k1 := kcell ((Below.refl w1.heap.size w1).alloc (Nat.le_refl _) (.cells (rowA (List.replicate N 0)) 3)) c1
  obtain ⟨ga, hga⟩ : ∃ g, g = w1.heap.size := ⟨_, rfl⟩
  obtain ⟨gr, hgr⟩ : ∃ g, g = w1.heap.size + 1 := ⟨_, rfl⟩
  obtain ⟨Y, hY⟩ : ∃ Y, Y = (w1.alloc (.cells (rowA (List.replicate N 0)) 3)).alloc (.cells (rowA (List.replicate N 0)) 3) := ⟨_, rfl⟩
  have HR0 : Hid (RS w.heap.size ga gr (gr + 1) (.cells #[.int .i64 1, .slice sa N sc, .int .i64 hosts] 34 (0, 0)) w (List.replicate N 0) (onesR N 0) (.slice none 0 0) (snL l 0) Y) := by
    have hz := HZ1.out
    have hb1 : Below w1.heap.size w1 (w1.alloc (.cells (rowA (List.replicate N 0)) 3)) := (Below.refl _ _).alloc (Nat.le_refl _) _
    have hbY : Below w1.heap.size w1 Y := by rw [hY]; exact hb1.alloc (by simp) _
    have q1 : RowAt (w1.alloc (.cells (rowA (List.replicate N 0)) 3)) ga (List.replicate N 0) := by rw [hga]; exact heap_alloc_new w1 _
    have q2 : RowAt Y ga (List.replicate N 0) := by rw [hY]; exact q1.alloc _
    have q3 : RowAt Y gr (List.replicate N 0) := by
      rw [hY, hgr]
      have := heap_alloc_new (w1.alloc (.cells (rowA (List.replicate N 0)) 3)) (.cells (rowA (List.replicate N 0)) 3)
      rw [World.size_alloc] at this
      exact this
    refine ⟨q2, by rw [onesR_zero]; exact q3, heapB hbY Q0.out, HB.out.trans (hbY.mono HB.out.size), ⟨World.ownsRow_nil _ _ _ _, by simp [snL]⟩, by rw [hY, hgr]; simp, ?_⟩
    omega
  have HYE := Lib.hid hY
  have HGA := Lib.hid hga
  have HGR := Lib.hid hgr
  clear HB Q0 hY hga hgr HZ1
  go_wp2_with fail
  rw [← HYE.out, ← HGR.out, ← HGA.out]
  clear hm1 hm2 hmk HYE HGA HGR c0 c1 c2 k1
  go_loopw [9] (fun iv wr => ∃ (m : Nat), m ≤ N ∧ iv = .int .i64 (m : Int) ∧ Hid (RS w.heap.size ga gr (gr + 1) (.cells #[.int .i64 1, .slice sa N sc, .int .i64 hosts] 34 (0, 0)) w (List.replicate N 0) (onesR N m) (.slice none 0 0) (snL l 0) wr)) (fun iv _ => N - (intOf iv).toNat)
  case atStart => exact ⟨0, Nat.zero_le _, rfl, HR0⟩
  case round =>
    clear HR0
    obtain ⟨m, hm, rfl, HR⟩ := hrel
    by_cases hlt : m < N
    · have d1 : decide ((m : Int) < (N : Int)) = true := decide_eq_true (by omega)
      have cm := HR.out.rd.cell m (by rw [onesR_len]; exact hlt)
      have fm := HR.out.rd.open_ m
      have lm := HR.out.rd.lt
      have HS := Lib.hid (HR.out.setD m 1)
      rw [onesR_set hlt] at HS
      clear HR
      go_wp2_with fail
      go_roundw
      case rel => exact ⟨m + 1, by omega, by go_num, HS⟩
      case measure => simp [intOf]; omega
    · have hin : m = N := by omega
      have d1 : decide ((m : Int) < (N : Int)) = false := decide_eq_false (by omega)
      have HT0 : Hid (RS w.heap.size ga gr (gr + 1) (.cells #[.int .i64 1, .slice sa N sc, .int .i64 hosts] 34 (0, 0)) w (snC l 0) (dirL l (snC l 0)) (.slice none 0 0) (snL l 0) wr) := by
        have h1 := HR.out
        rw [hin, onesR_full] at h1
        rw [dir_zero, ← HN.out]
        rw [show snC l 0 = List.replicate N 0 by rw [snC, ← HN.out]]
        exact h1
      clear HR hin hm
      go_wp2_with fail
      clear d1 hlt
      go_loopw [5, 10, 11] (fun ov _ _ wr => ∃ k, k < n ∧ Hid (RS w.heap.size ga gr (gr + 1) (.cells #[.int .i64 1, .slice sa N sc, .int .i64 hosts] 34 (0, 0)) w (snC l k) (dirL l (snC l k)) ov (snL l k) wr)) (fun ov _ _ _ => n - lenV ov)
      case atStart => exact ⟨0, by omega, HT0⟩
      case round =>
        clear HT0
        obtain ⟨k, hk, HR⟩ := hrel
        have hlv : lenV u5 = k := by
          obtain ⟨a, c, h1, _⟩ := HR.out.nv.ints
          rw [h1, snL_len]; rfl
        have HLV := Lib.hid hlv
        clear hlv
        have hin := (sn_rank (by rw [← HN.out]; exact hl1') HBB.out k (by rw [HP.out]; omega)).1
        have HCI := Lib.hid hin
        clear hin
        have HKN : Hid (k < n) := hk
        obtain ⟨wo, rfl⟩ : ∃ wo, wo = wr := ⟨_, rfl⟩
        obtain ⟨c, hc⟩ : ∃ c, c = snC l k := ⟨_, rfl⟩
        have HC := Lib.hid hc
        rw [← hc] at HR HCI
        have c0 := cellR 0 HR.out.q0 rfl
        have c1 := cellR 1 HR.out.q0 rfl
        have c2 := cellR 2 HR.out.q0 rfl
        clear hc hk
        go_wp2_with fail
        have HCL := HNM.out wo ga c (by have h1 := HR.out.bl; exact h1) HR.out.ra HCI.out
        refine HCL.mono ?_
        rintro e w2 ⟨rfl, hb2⟩
        clear HCL c0 c1 c2
        have HR2 := Lib.hid (HR.out.keep hb2)
        clear HR hb2
        obtain ⟨v', w3, hr, hr3⟩ := HR2.out.app (numI l c) (by rw [snL_len]; have := HKN.out; omega)
        rw [HC.out, ← snL_succ, ← HC.out] at hr3
        have HR3 := Lib.hid hr3
        have HRR := Lib.hid hr
        clear hr hr3 HR2
        have hw1 : wrap64 ((N : Int) - 1) = (N : Int) - 1 := wrap_small _ (by omega) (by omega)
        have HE0 : Hid (∀ j, N ≤ j → j < l.length → dgI l c j = l.getD j 0 - 1) := fun j h1 h2 => by have := HN.out; omega
        have HI0 : Hid (RS w.heap.size ga gr (gr + 1) (.cells #[.int .i64 1, .slice sa N sc, .int .i64 hosts] 34 (0, 0)) w c (dirL l c) v' (snL l (k + 1)) w3) := HR3
        clear HR3
        go_wp2_with (at_builtin; refine Lib.wpList_append_run _ rfl (.tmp 48) (.tmp 52) 22 22 rfl _ _ rfl rfl _ _ HRR.out ?_)
        clear hw1 HRR
        go_loopw [10] (fun iv wr => ∃ i : Nat, i ≤ N ∧ iv = .int .i64 ((i : Int) - 1) ∧ Hid (RS w.heap.size ga gr (gr + 1) (.cells #[.int .i64 1, .slice sa N sc, .int .i64 hosts] 34 (0, 0)) w c (dirL l c) v' (snL l (k + 1)) wr ∧ ∀ j, i ≤ j → j < l.length → dgI l c j = l.getD j 0 - 1)) (fun iv _ => (intOf iv + 1).toNat)
        case atStart => exact ⟨N, Nat.le_refl _, rfl, HI0.out, HE0.out⟩
        case round =>
          clear HI0 HE0
          obtain ⟨i, hi, rfl, HI⟩ := hrel
          cases i with
          | zero =>
            have HKE : Hid (k + 1 = n) := sn_last (by rw [← HN.out]; exact hl1') HBB.out HP.out HKN.out (by rw [← HC.out]; exact fun j hj => HI.out.2 j (Nat.zero_le _) hj)
            have HF : Hid (NewInts w.heap.size wr v' (snL l n) ∧ Below w.heap.size w wr) := by
              have := HI.out.1.done
              rwa [HKE.out] at this
            rw [show (((0 : Nat) : Int) - 1) = -1 by rfl]
            clear HI hi
            go_wp2_with fail
            go_quiet (fail)
            replace HF : Hid (NewInts w.heap.size (wr.drewN nq) v' (snL l n) ∧ Below w.heap.size w (wr.drewN nq)) := ⟨HF.out.1.keep2 (below_drewN (Below.refl _ _) _), below_drewN HF.out.2 _⟩
            generalize wr.drewN nq = W9 at *
            go_wp2_with fail
            go_ret2
            exact ⟨v', rfl, HF.out.1, HF.out.2⟩
          | succ i =>
            rw [show (((i + 1 : Nat) : Int) - 1) = (i : Int) by omega]
            have hiN : i < N := by omega
            have hil : i < l.length := by rw [← HN.out]; exact hiN
            obtain ⟨s0, s1⟩ := HBB.out i hil
            obtain ⟨x0, x1⟩ := HCI.out.2 i hil
            have hdx := dirB_or c i
            have HDW := Lib.hid (dir_within HCI.out hil)
            have ca := HI.out.1.ra.cell i (by rw [HCI.out.1]; exact hil)
            rw [show c[i]'(by rw [HCI.out.1]; exact hil) = c.getD i 0 by simp [List.getD, HCI.out.1, hil]] at ca
            have cd := HI.out.1.rd.cell i (by rw [dirL_len]; exact hil)
            rw [show (dirL l c)[i]'(by rw [dirL_len]; exact hil) = dirB c i by rw [← dirL_at l c hil]; simp [List.getD, dirL_len, hil]] at cd
            obtain ⟨g, off, rfl, hcs⟩ := (HL.out.keep (show Below w.heap.size w wr from HI.out.1.bl)).at_ (ne_nil_of_lt hil)
            have e0 := hcs i hil
            rw [show l[i] = l.getD i 0 by simp [List.getD, hil]] at e0
            have q1 := cellR 1 HI.out.1.q0 rfl
            have HCX : Hid (∃ cx, cx = c.getD i 0) := ⟨_, rfl⟩
            obtain ⟨cx, hcx⟩ := HCX.out
            obtain ⟨dx, hdxe⟩ : ∃ dx, dx = dirB c i := ⟨_, rfl⟩
            obtain ⟨s, hs⟩ : ∃ s, s = l.getD i 0 := ⟨_, rfl⟩
            rw [← hcx, ← hdxe, ← hs] at HDW
            rw [← hcx] at ca x0 x1
            rw [← hs] at e0 s0 s1 x1
            rw [← hdxe] at cd hdx
            have HCXE := Lib.hid hcx
            have HDXE := Lib.hid hdxe
            have HSE := Lib.hid hs
            have hwa : wrap64 (cx + dx) = cx + dx := wrap_small _ (by omega) (by omega)
            have hwi : wrap64 ((i : Int) - 1) = (i : Int) - 1 := wrap_small _ (by omega) (by omega)
            have hi0 : decide ((i : Int) ≥ 0) = true := decide_eq_true (by omega)
            have hi1 : decide (0 ≤ (i : Int)) = true := decide_eq_true (by omega)
            have HEN : Hid (¬ dgI l c i < s - 1 → ∀ j, i ≤ j → j < l.length → dgI l c j = l.getD j 0 - 1) := fun hn j h1 h2 => by
              by_cases hij : i = j
              · subst hij
                have := (dg_in HCI.out h2).2
                rw [HSE.out] at hn
                omega
              · exact HI.out.2 j (by omega) h2
            clear hcs hcx hdxe hs hi
            by_cases hA : cx + dx < 0
            · have d2 : decide (cx + dx < 0) = true := decide_eq_true hA
              have HNG : Hid (¬ dgI l c i < s - 1) := fun h => by have := HDW.out.2 h; omega
              have h3 := hA
              clear hA
              go_wp2_with fail
              go_quiet (fail)
              have HI2 : Hid (RS w.heap.size ga gr (gr + 1) (.cells #[.int .i64 1, .slice (some ⟨g, off, none⟩) N sc, .int .i64 hosts] 34 (0, 0)) w c (dirL l c) v' (snL l (k + 1)) (wr.drewN nq) ∧ ∀ j, i ≤ j → j < l.length → dgI l c j = l.getD j 0 - 1) := ⟨HI.out.1.keep (below_drewN (Below.refl _ _) _), HEN.out HNG.out⟩
              clear HI ca cd e0
              generalize wr.drewN nq = W9 at *
              go_wp2_with fail
              go_roundw
              case rel => exact ⟨i, by omega, by go_num, HI2⟩
              case measure => simp [intOf]
            · by_cases hB : cx + dx ≥ s
              · have d2 : decide (cx + dx < 0) = false := decide_eq_false hA
                have d3 : decide (cx + dx ≥ s) = true := decide_eq_true hB
                have d4 : decide (s ≤ cx + dx) = true := decide_eq_true hB
                have HNG : Hid (¬ dgI l c i < s - 1) := fun h => by have := HDW.out.2 h; omega
                clear hA hB
                go_wp2_with fail
                go_quiet (fail)
                have HI2 : Hid (RS w.heap.size ga gr (gr + 1) (.cells #[.int .i64 1, .slice (some ⟨g, off, none⟩) N sc, .int .i64 hosts] 34 (0, 0)) w c (dirL l c) v' (snL l (k + 1)) (wr.drewN nq) ∧ ∀ j, i ≤ j → j < l.length → dgI l c j = l.getD j 0 - 1) := ⟨HI.out.1.keep (below_drewN (Below.refl _ _) _), HEN.out HNG.out⟩
                clear HI ca cd e0
                generalize wr.drewN nq = W9 at *
                go_wp2_with fail
                go_roundw
                case rel => exact ⟨i, by omega, by go_num, HI2⟩
                case measure => simp [intOf]
              · have d2 : decide (cx + dx < 0) = false := decide_eq_false hA
                have d3 : decide (cx + dx ≥ s) = false := decide_eq_false hB
                have d4 : decide (s ≤ cx + dx) = false := decide_eq_false hB
                have HGO : Hid (dgI l c i < s - 1) := HDW.out.1 (by omega)
                clear hA hB
                go_wp2_with fail
                go_quiet (fail)
                have HI2 : Hid (RS w.heap.size ga gr (gr + 1) (.cells #[.int .i64 1, .slice (some ⟨g, off, none⟩) N sc, .int .i64 hosts] 34 (0, 0)) w c (dirL l c) v' (snL l (k + 1)) (wr.drewN nq) ∧ ∀ j, i + 1 ≤ j → j < l.length → dgI l c j = l.getD j 0 - 1) := ⟨HI.out.1.keep (below_drewN (Below.refl _ _) _), HI.out.2⟩
                have ca9 : (wr.drewN nq).cell? ⟨ga, i, none⟩ = some (.int .i64 cx) := ca
                have cd9 : (wr.drewN nq).cell? ⟨gr, i, none⟩ = some (.int .i64 dx) := cd
                clear HI ca cd e0 q1
                generalize wr.drewN nq = W9 at *
                have fa := HI2.out.1.ra.open_ i
                have la := HI2.out.1.ra.lt
                have HN2 : Hid (RS w.heap.size ga gr (gr + 1) (.cells #[.int .i64 1, .slice (some ⟨g, off, none⟩) N sc, .int .i64 hosts] 34 (0, 0)) w (c.set i (cx + dx)) (turnR c N i (i + 1)) v' (snL l (k + 1)) ((W9.setCell ⟨ga, i, none⟩ (.int .i64 (cx + dx))).drew)) := by
                  have h1 := (HI2.out.1.setA i (cx + dx)).keep (Below.refl _ _).drew
                  rw [← turnR_start l c i, ← HN.out] at h1
                  exact h1
                have HSN : Hid (k + 1 < n ∧ snC l (k + 1) = nextC c i) := by
                  have h1 := sn_goes (k := k) (by rw [← HN.out]; exact hl1') HBB.out HP.out HKN.out hil (by rw [← HC.out, ← HSE.out]; exact HGO.out) (by rw [← HC.out]; exact fun j h1 h2 => HI2.out.2 j (by omega) h2)
                  rw [← HC.out] at h1
                  exact h1
                have HNX : Hid (nextC c i = c.set i (cx + dx)) := by
                  show _ = _
                  unfold nextC
                  rw [HCXE.out, HDXE.out]; rfl
                clear HI2
                go_wp2_with fail
                go_region
                clear ca9 cd9 fa la
                generalize (W9.setCell ⟨ga, i, none⟩ (.int .i64 (cx + dx))).drew = V9 at *
                have hwp : wrap64 ((i : Int) + 1) = ((i + 1 : Nat) : Int) := by rw [wrap_small _ (by omega) (by omega)]; rfl
                go_wp2_with fail
                clear hwp
                have HC2 : Hid (i < c.length) := by show _ < _; rw [HCI.out.1]; exact hil
                go_loopw [11] (fun jv wr => ∃ j : Nat, i + 1 ≤ j ∧ j ≤ N ∧ jv = .int .i64 (j : Int) ∧ Hid (RS w.heap.size ga gr (gr + 1) (.cells #[.int .i64 1, .slice (some ⟨g, off, none⟩) N sc, .int .i64 hosts] 34 (0, 0)) w (c.set i (cx + dx)) (turnR c N i j) v' (snL l (k + 1)) wr)) (fun jv _ => N - (intOf jv).toNat)
                case atStart => exact ⟨i + 1, Nat.le_refl _, hiN, rfl, HN2⟩
                case round =>
                  clear HN2
                  obtain ⟨j, hj0, hj, rfl, HJ⟩ := hrel
                  by_cases hjl : j < N
                  · have d7 : decide ((j : Int) < (N : Int)) = true := decide_eq_true (by omega)
                    have cj := HJ.out.rd.cell j (by rw [turnR_len]; exact hjl)
                    rw [show (turnR c N i j)[j]'(by rw [turnR_len]; exact hjl) = dirB c j by
                      have h1 := turnR_at c (n := N) (i := i) (k := j) hjl
                      rw [if_neg (by omega)] at h1
                      rw [← h1]; simp [List.getD, turnR_len, hjl]] at cj
                    have fj := HJ.out.rd.open_ j
                    have lj := HJ.out.rd.lt
                    have hneg := wrap_neg (dirB_or c j)
                    have HS := Lib.hid (HJ.out.setD j (- dirB c j))
                    rw [turnR_step c (by omega) hjl] at HS
                    generalize dirB c j = dy at *
                    clear HJ
                    go_wp2_with fail
                    go_roundw
                    case rel => exact ⟨j + 1, by omega, by omega, by go_num, HS⟩
                    case measure => simp [intOf]; omega
                  · have hjn : j = N := by omega
                    have d7 : decide ((j : Int) < (N : Int)) = false := decide_eq_false (by omega)
                    have HF : Hid (RS w.heap.size ga gr (gr + 1) (.cells #[.int .i64 1, .slice (some ⟨g, off, none⟩) N sc, .int .i64 hosts] 34 (0, 0)) w (snC l (k + 1)) (dirL l (snC l (k + 1))) v' (snL l (k + 1)) wr) := by
                      have h1 := HJ.out
                      rw [hjn, HN.out, turnR_end l HC2.out, ← HNX.out, ← HSN.out.2] at h1
                      show RS _ _ _ _ _ _ _ _ _ _ _
                      rw [HN.out]; exact h1
                    have HLW : Hid (lenV v' = k + 1) := by
                      obtain ⟨a, c, h1, _⟩ := HF.out.nv.ints
                      show _ = _
                      rw [h1, snL_len]; rfl
                    clear HJ hjn hj hj0
                    go_wp2_with fail
                    go_roundw
                    case rel => exact ⟨k + 1, HSN.out.1, HF⟩
                    case measure =>
                      show n - lenV v' < n - lenV u5
                      rw [HLW.out, HLV.out]; have := HKN.out; omega
end Go.Proofs.YtbhkenphcahifaaGreat
namespace Go.Proofs.YtbhkenphcahifaaGreat
open Go.RowKit Go.Shelf
attribute [local go_sem] Oper.semAt_some
set_option maxRecDepth 100000
set_option maxHeartbeats 4000000
theorem rSnake_bad {w : World} {sa : Option Addr} {l : List Int} (h : Ints w sa l) (sc : Nat) (kind hosts : Int) (hv : ¬ vOk kind l hosts) :
    Calls Tryz.prog 21 #[.agg #[.int .i64 kind, .slice sa l.length sc, .int .i64 hosts]] w fun e w' => e = .returned (.tuple #[.slice none 0 0, .int .i64 2]) ∧ Below w.heap.size w w' := by
  have HB := Lib.hid ((Below.refl w.heap.size w).alloc (Nat.le_refl _) (.cells #[.int .i64 kind, .slice sa l.length sc, .int .i64 hosts] 34))
  have Q0 := Lib.hid (heap_alloc_new w (.cells #[.int .i64 kind, .slice sa l.length sc, .int .i64 hosts] 34))
  have c0 := cellR 0 Q0.out rfl
  have c1 := cellR 1 Q0.out rfl
  have c2 := cellR 2 Q0.out rfl
  have H1 := Lib.hid (rCheck_any (h.keep HB.out) sc kind hosts)
  rw [show errI kind l hosts = 2 from if_neg hv] at H1
  clear h hv Q0
  go_enter Tryz.func21, Tryz.ntmps21
  go_wp2_with fail
  generalize w.alloc (.cells #[.int .i64 kind, .slice sa l.length sc, .int .i64 hosts] 34) = X at *
  refine H1.out.mono ?_
  rintro e w1 ⟨rfl, hb1⟩
  have HB1 := Lib.hid (HB.out.trans (hb1.mono HB.out.size))
  clear H1 hb1 HB c0 c1 c2
  go_wp2_with fail
  go_ret2
  exact ⟨rfl, HB1.out⟩
theorem rSides_bad {w : World} {sa : Option Addr} {l : List Int} (h : Ints w sa l) (sc : Nat) (kind hosts : Int) (hv : ¬ vOk kind l hosts) :
    Calls Tryz.prog 25 #[.agg #[.int .i64 kind, .slice sa l.length sc, .int .i64 hosts]] w fun e w' => e = .returned (.tuple #[.slice none 0 0, .int .i64 2]) ∧ Below w.heap.size w w' := by
  have HB := Lib.hid ((Below.refl w.heap.size w).alloc (Nat.le_refl _) (.cells #[.int .i64 kind, .slice sa l.length sc, .int .i64 hosts] 34))
  have Q0 := Lib.hid (heap_alloc_new w (.cells #[.int .i64 kind, .slice sa l.length sc, .int .i64 hosts] 34))
  have c0 := cellR 0 Q0.out rfl
  have c1 := cellR 1 Q0.out rfl
  have c2 := cellR 2 Q0.out rfl
  have H1 := Lib.hid (rCheck_any (h.keep HB.out) sc kind hosts)
  rw [show errI kind l hosts = 2 from if_neg hv] at H1
  clear h hv Q0
  go_enter Tryz.func25, Tryz.ntmps25
  go_wp2_with fail
  generalize w.alloc (.cells #[.int .i64 kind, .slice sa l.length sc, .int .i64 hosts] 34) = X at *
  refine H1.out.mono ?_
  rintro e w1 ⟨rfl, hb1⟩
  have HB1 := Lib.hid (HB.out.trans (hb1.mono HB.out.size))
  clear H1 hb1 HB c0 c1 c2
  go_wp2_with fail
  go_ret2
  exact ⟨rfl, HB1.out⟩
/-- the numbers below m -/
def ascL (m : Nat) : List Int := (List.range m).map fun (j : Nat) => (j : Int)
theorem ascL_succ (m : Nat) : ascL (m + 1) = ascL m ++ [(m : Int)] := by simp [ascL, List.range_succ]
theorem ascL_len (m : Nat) : (ascL m).length = m := by simp [ascL]
theorem ascL_eq (m : Nat) : ascL m = ascI m m := by
  unfold ascL ascI
  refine List.map_congr_left fun j hj => ?_
  rw [if_pos (List.mem_range.1 hj)]
/-- the reference's Snake, not in a torus -/
theorem rSnake2_ok {w : World} {sa : Option Addr} {l : List Int} (h : Ints w sa l) (sc : Nat) (kind hosts : Int) {n : Nat} (hk : kind ≠ 1) (hv : vOk kind l hosts) (hn : hoI kind l = (n : Int)) :
    Calls Tryz.prog 21 #[.agg #[.int .i64 kind, .slice sa l.length sc, .int .i64 hosts]] w fun e w' => ∃ v, e = .returned (.tuple #[v, .int .i64 0]) ∧ NewInts w.heap.size w' v (ascI n n) ∧ Below w.heap.size w w' := by
  have hz : w.heap.size < (w.alloc (.cells #[.int .i64 kind, .slice sa l.length sc, .int .i64 hosts] 34)).heap.size := by simp
  have HB := Lib.hid ((Below.refl w.heap.size w).alloc (Nat.le_refl _) (.cells #[.int .i64 kind, .slice sa l.length sc, .int .i64 hosts] 34))
  have Q0 := Lib.hid (heap_alloc_new w (.cells #[.int .i64 kind, .slice sa l.length sc, .int .i64 hosts] 34))
  have c0 := cellR 0 Q0.out rfl
  have c1 := cellR 1 Q0.out rfl
  have c2 := cellR 2 Q0.out rfl
  have HHO : Hid (∀ W, Below w.heap.size w W → Calls Tryz.prog 60 #[.agg #[.int .i64 kind, .slice sa l.length sc, .int .i64 hosts]] W fun e w' => e = .returned (.int .i64 (n : Int)) ∧ Below W.heap.size W w') := fun W hb => by
    have := rHomes_any (h.keep hb) sc kind hosts hv
    rwa [hn] at this
  have H1 := Lib.hid (rCheck_any (h.keep HB.out) sc kind hosts)
  rw [show errI kind l hosts = 0 from if_pos hv] at H1
  have HN : Hid (n ≤ 256) := by have := v_bound hv; show _ ≤ _; omega
  have hk1 : (kind != 1) = true := bne_iff_ne.2 hk
  have hk2 : (kind == 1) = false := by simpa using hk
  clear h hv hn hk
  rw [← ascL_eq]
  go_enter Tryz.func21, Tryz.ntmps21
  go_wp2_with fail
  generalize w.alloc (.cells #[.int .i64 kind, .slice sa l.length sc, .int .i64 hosts] 34) = X at *
  refine H1.out.mono ?_
  rintro e w1 ⟨rfl, hb1⟩
  replace Q0 := Lib.hid (heapB hb1 Q0.out)
  replace HB := Lib.hid (HB.out.trans (hb1.mono HB.out.size))
  have HS0 : Hid (NewInts (w.heap.size + 1) w1 (.slice none 0 0) (ascL 0) ∧ Below w.heap.size w w1 ∧ w1.heap[w.heap.size]? = some (.cells #[.int .i64 kind, .slice sa l.length sc, .int .i64 hosts] 34 (0, 0)) ∧ w.heap.size < w1.heap.size) :=
    ⟨⟨World.ownsRow_nil _ _ _ _, by simp [ascL]⟩, HB.out, Q0.out, by have := hb1.size; omega⟩
  clear hb1 c0 c1 c2 H1 hz HB
  have c0 := cellR 0 Q0.out rfl
  have c1 := cellR 1 Q0.out rfl
  have c2 := cellR 2 Q0.out rfl
  clear Q0
  go_wp2_with fail
  clear c0 c1 c2 hk1 hk2
  go_loopw [5, 6] (fun v iv wr => ∃ (i : Nat), i ≤ n ∧ iv = .int .i64 (i : Int) ∧ Hid (NewInts (w.heap.size + 1) wr v (ascL i) ∧ Below w.heap.size w wr ∧ wr.heap[w.heap.size]? = some (.cells #[.int .i64 kind, .slice sa l.length sc, .int .i64 hosts] 34 (0, 0)) ∧ w.heap.size < wr.heap.size)) (fun _ iv _ => n - (intOf iv).toNat)
  case atStart => exact ⟨0, Nat.zero_le _, rfl, HS0⟩
  case round =>
    clear HS0
    obtain ⟨i, hi, rfl, HI⟩ := hrel
    have c0 := cellR 0 HI.out.2.2.1 rfl
    have c1 := cellR 1 HI.out.2.2.1 rfl
    have c2 := cellR 2 HI.out.2.2.1 rfl
    go_wp2_with fail
    refine (HHO.out _ HI.out.2.1).mono ?_
    rintro e W2 ⟨rfl, hb⟩
    replace HI : Hid (NewInts (w.heap.size + 1) W2 u5 (ascL i) ∧ Below w.heap.size w W2 ∧ W2.heap[w.heap.size]? = some (.cells #[.int .i64 kind, .slice sa l.length sc, .int .i64 hosts] 34 (0, 0)) ∧ w.heap.size < W2.heap.size) := ⟨HI.out.1.keep2 hb, HI.out.2.1.trans (hb.mono HI.out.2.1.size), heapB hb HI.out.2.2.1, Nat.lt_of_lt_of_le HI.out.2.2.2 hb.size⟩
    clear hb c0 c1 c2
    have hn9 := HN.out
    by_cases hlt : i < n
    · have d1 : decide ((i : Int) < (n : Int)) = true := decide_eq_true (by omega)
      have HWI := Lib.hid (wrap_small ((i : Int) + 1) (by omega) (by omega))
      have HCS : Hid (((i : Int) + 1) = ((i + 1 : Nat) : Int)) := by show _ = _; rw [Int.natCast_add]; rfl
      have HME : Hid (n - (intOf (.int .i64 ((i : Int) + 1))).toNat < n - (intOf (.int .i64 (i : Int))).toNat) := by show _ < _; simp [intOf]; omega
      have HMO : Hid (n - (intOf (.int .i64 (wrap64 ((i : Int) + 1)))).toNat < n - (intOf (.int .i64 (i : Int))).toNat) := by show _ < _; rw [HWI.out]; exact HME.out
      have HK1 : Hid (i + 1 ≤ n) := hlt
      obtain ⟨v', w2, hr, hn2, hb2⟩ := appOne HI.out.1 (i : Int) (by rw [ascL_len]; omega) HI.out.2.2.2
      have HI2 : Hid (NewInts (w.heap.size + 1) w2 v' (ascL (i + 1)) ∧ Below w.heap.size w w2 ∧ w2.heap[w.heap.size]? = some (.cells #[.int .i64 kind, .slice sa l.length sc, .int .i64 hosts] 34 (0, 0)) ∧ w.heap.size < w2.heap.size) := by
        refine ⟨?_, HI.out.2.1.trans (hb2.mono (by omega)), (hb2.block _ (by omega)).trans HI.out.2.2.1, Nat.lt_of_lt_of_le HI.out.2.2.2 hb2.size⟩
        rw [ascL_succ]; exact hn2
      have HR := Lib.hid hr
      clear hr hn2 hb2
      go_wp2_with (at_builtin; refine Lib.wpList_append_run _ rfl (.tmp 26) (.tmp 28) 22 22 rfl _ _ rfl rfl _ _ HR.out ?_)
      go_roundw
      case rel => exact ⟨i + 1, HK1.out, by first | rw [HWI.out, HCS.out] | rw [HCS.out], HI2⟩
      case measure => first | exact HMO.out | exact HME.out
    · have hin : i = n := by omega
      have d1 : decide ((i : Int) < (n : Int)) = false := decide_eq_false (by omega)
      have HF : Hid (NewInts w.heap.size W2 u5 (ascL n) ∧ Below w.heap.size w W2) := ⟨by
        have := HI.out.1
        rw [hin] at this
        exact ⟨ownsRow_low this.own (by omega), this.len⟩, HI.out.2.1⟩
      clear HI hin
      go_wp2_with fail
      go_ret2
      exact ⟨_, rfl, HF.out.1, HF.out.2⟩
end Go.Proofs.YtbhkenphcahifaaGreat
namespace Go.Proofs.YtbhkenphcahifaaGreat
open Go.RowKit Go.Shelf
attribute [local go_sem] Oper.semAt_some
set_option maxRecDepth 100000
set_option maxHeartbeats 4000000
theorem few_two {w : World} {sa : Option Addr} {l : List Int} (h : Ints w sa l) (sc : Nat) (kind hosts n : Int) : ∀ W, Below w.heap.size w W → Calls Tryz.prog 8 #[.agg #[.int .i64 kind, .slice sa l.length sc, .int .i64 hosts], .int .i64 n] W fun e w' => ∃ b, e = .returned (.bool b) ∧ Below W.heap.size W w' := fun W hb => few_any (h.keep hb) sc kind hosts n
theorem NetSides_core {w : World} {sa : Option Addr} {l : List Int} (h : Ints w sa l) (sc : Nat) (kind hosts E E2 cn : Int) (L : List Int) (S : List (Nat → Bool)) (sw : Nat) (bv : Value) (bl : Nat) (hb : ∃ ba bc, bv = .slice ba bl bc) (hsw : sw ≤ 1000) (hS : S.length ≤ 2000)
    (H20 : Hid (∀ W, Below w.heap.size w W → Calls Tryz.prog 20 #[.agg #[.int .i64 kind, .slice sa l.length sc, .int .i64 hosts]] W fun e w' => ∃ v, e = .returned (.tuple #[v, .int .i64 E]) ∧ (∃ a cap, v = .slice a L.length cap ∧ Ints w' a L) ∧ Below W.heap.size W w'))
    (H21 : Hid (∀ W, Below w.heap.size w W → Calls Tryz.prog 21 #[.agg #[.int .i64 kind, .slice sa l.length sc, .int .i64 hosts]] W fun e w' => ∃ v, e = .returned (.tuple #[v, .int .i64 E]) ∧ (∃ a cap, v = .slice a L.length cap ∧ Ints w' a L) ∧ Below W.heap.size W w'))
    (H22 : Hid (∀ W, Below w.heap.size w W → Calls Tryz.prog 22 #[.agg #[.int .i64 kind, .slice sa l.length sc, .int .i64 hosts], bv] W fun e w' => e = .returned (.tuple #[.int .i64 cn, .int .i64 E2]) ∧ Below W.heap.size W w'))
    (H23 : Hid (∀ W, Below w.heap.size w W → Calls Tryz.prog 23 #[.agg #[.int .i64 kind, .slice sa l.length sc, .int .i64 hosts], bv] W fun e w' => e = .returned (.tuple #[.int .i64 cn, .int .i64 E2]) ∧ Below W.heap.size W w'))
    (H24 : Hid (∀ W, Below w.heap.size w W → Calls Tryz.prog 24 #[.agg #[.int .i64 kind, .slice sa l.length sc, .int .i64 hosts]] W fun e w' => ∃ v, e = .returned (.tuple #[v, .int .i64 E]) ∧ RowsB w' v sw S ∧ Below W.heap.size W w'))
    (H25 : Hid (∀ W, Below w.heap.size w W → Calls Tryz.prog 25 #[.agg #[.int .i64 kind, .slice sa l.length sc, .int .i64 hosts]] W fun e w' => ∃ v, e = .returned (.tuple #[v, .int .i64 E]) ∧ RowsB w' v sw S ∧ Below W.heap.size W w')) :
    Calls Tryz.prog 5 #[.agg #[.int .i64 kind, .slice sa l.length sc, .int .i64 hosts], bv] w fun e w' => e = .returned (.bool true) ∧ Below w.heap.size w w' := by
  have HB := Lib.hid ((Below.refl w.heap.size w).alloc (Nat.le_refl _) (.cells #[.int .i64 kind, .slice sa l.length sc, .int .i64 hosts] 24))
  have Q0 := Lib.hid (heap_alloc_new w (.cells #[.int .i64 kind, .slice sa l.length sc, .int .i64 hosts] 24))
  have c0 := cellR 0 Q0.out rfl
  have c1 := cellR 1 Q0.out rfl
  have c2 := cellR 2 Q0.out rfl
  have HSP := Lib.hid (fun W => spec_any sa l.length sc kind hosts W)
  have HFW := Lib.hid (few_two h sc kind hosts 64)
  have HWK := Lib.hid works_any
  have HSW := Lib.hid hsw
  have HSS := Lib.hid hS
  obtain ⟨ba, bc, rfl⟩ := hb
  clear h hsw hS
  generalize l.length = M at *
  go_enter Tryz.func5, Tryz.ntmps5
  go_wp2_with fail
  generalize w.alloc (.cells #[.int .i64 kind, .slice sa M sc, .int .i64 hosts] 24) = X at *
  refine (HFW.out _ HB.out).mono ?_
  rintro e w1 ⟨b, rfl, hb1⟩
  replace Q0 := Lib.hid (heapB hb1 Q0.out)
  replace HB := Lib.hid (HB.out.trans (hb1.mono HB.out.size))
  clear hb1 c0 c1 c2
  have c0 := cellR 0 Q0.out rfl
  have c1 := cellR 1 Q0.out rfl
  have c2 := cellR 2 Q0.out rfl
  clear HFW
  have hend : ∀ W, Below w.heap.size w W → Calls Tryz.prog 9 #[] W fun e w' => e = .returned (.bool true) ∧ Below w.heap.size w w' := fun W hW => (HWK.out W).mono (by rintro e w' ⟨rfl, hb⟩; exact ⟨rfl, hW.trans (hb.mono hW.size)⟩)
  have HEND := Lib.hid hend
  clear hend HWK
  by_cases hbl : (bl : Int) > 300
  · have d1 : decide ((bl : Int) > 300) = true := decide_eq_true hbl
    have d2 : decide ((300 : Int) < (bl : Int)) = true := d1
    clear hbl
    cases b with
    | false =>
      go_wp2_with fail
      refine (HEND.out _ HB.out).mono ?_
      rintro e w2 ⟨rfl, hb2⟩
      have HBX := Lib.hid hb2
      clear hb2 c0 c1 c2 Q0 HB H20 H21 H22 H23 H24 H25 HSP HEND
      go_wp2_with fail
      go_ret
      exact ⟨rfl, HBX.out⟩
    | true =>
      go_wp2_with fail
      refine (HEND.out _ HB.out).mono ?_
      rintro e w2 ⟨rfl, hb2⟩
      have HBX := Lib.hid hb2
      clear hb2 c0 c1 c2 Q0 HB H20 H21 H22 H23 H24 H25 HSP HEND
      go_wp2_with fail
      go_ret
      exact ⟨rfl, HBX.out⟩
  have d1 : decide ((bl : Int) > 300) = false := decide_eq_false hbl
  have d2 : decide ((300 : Int) < (bl : Int)) = false := d1
  clear hbl
  cases b with
  | false =>
    go_wp2_with fail
    refine (HEND.out _ HB.out).mono ?_
    rintro e w2 ⟨rfl, hb2⟩
    have HBX := Lib.hid hb2
    clear hb2 c0 c1 c2 Q0 HB H20 H21 H22 H23 H24 H25 HSP HEND
    go_wp2_with fail
    go_ret
    exact ⟨rfl, HBX.out⟩
  | true =>
    go_wp2_with fail
    refine (H20.out _ HB.out).mono ?_
    rintro e w2 ⟨v1, rfl, ⟨a1, k1, rfl, i1⟩, hb2⟩
    have HI1 := Lib.hid i1
    replace Q0 := Lib.hid (heapB hb2 Q0.out)
    replace HB := Lib.hid (HB.out.trans (hb2.mono HB.out.size))
    clear hb2 c0 c1 c2 H20 i1
    have c0 := cellR 0 Q0.out rfl
    have c1 := cellR 1 Q0.out rfl
    have c2 := cellR 2 Q0.out rfl
    go_wp2_with fail
    refine (HSP.out _).mono ?_
    rintro e w3 ⟨rfl, hb3⟩
    replace HI1 := Lib.hid (HI1.out.keep hb3)
    replace Q0 := Lib.hid (heapB hb3 Q0.out)
    replace HB := Lib.hid (HB.out.trans (hb3.mono HB.out.size))
    clear hb3 c0 c1 c2
    have c0 := cellR 0 Q0.out rfl
    have c1 := cellR 1 Q0.out rfl
    have c2 := cellR 2 Q0.out rfl
    go_wp2_with fail
    refine (H21.out _ HB.out).mono ?_
    rintro e w4 ⟨v2, rfl, ⟨a2, k2, rfl, i2⟩, hb4⟩
    have HQ : Hid (∀ W, Below w4.heap.size w4 W → Calls Tryz.prog 15 #[.slice a1 L.length k1, .slice a2 L.length k2] W fun e w' => e = .returned (.bool true) ∧ Below W.heap.size W w') := fun W hW => by
      have := equal_any ((HI1.out.keep hb4).keep hW) (i2.keep hW) k1 k2
      rwa [show decide (L = L) = true by simp] at this
    replace Q0 := Lib.hid (heapB hb4 Q0.out)
    replace HB := Lib.hid (HB.out.trans (hb4.mono HB.out.size))
    have HB4 : Hid (Below w4.heap.size w4 w4) := Below.refl _ _
    clear hb4 c0 c1 c2 H21 i2 HI1
    have c0 := cellR 0 Q0.out rfl
    have c1 := cellR 1 Q0.out rfl
    have c2 := cellR 2 Q0.out rfl
    go_wp2_with fail
    refine (H22.out _ HB.out).mono ?_
    rintro e w5 ⟨rfl, hb5⟩
    replace Q0 := Lib.hid (heapB hb5 Q0.out)
    replace HB := Lib.hid (HB.out.trans (hb5.mono HB.out.size))
    replace HB4 := Lib.hid (HB4.out.trans (hb5.mono HB4.out.size))
    clear hb5 c0 c1 c2 H22
    have c0 := cellR 0 Q0.out rfl
    have c1 := cellR 1 Q0.out rfl
    have c2 := cellR 2 Q0.out rfl
    go_wp2_with fail
    refine (HSP.out _).mono ?_
    rintro e w6 ⟨rfl, hb6⟩
    replace Q0 := Lib.hid (heapB hb6 Q0.out)
    replace HB := Lib.hid (HB.out.trans (hb6.mono HB.out.size))
    replace HB4 := Lib.hid (HB4.out.trans (hb6.mono HB4.out.size))
    clear hb6 c0 c1 c2
    have c0 := cellR 0 Q0.out rfl
    have c1 := cellR 1 Q0.out rfl
    have c2 := cellR 2 Q0.out rfl
    go_wp2_with fail
    refine (H23.out _ HB.out).mono ?_
    rintro e w7 ⟨rfl, hb7⟩
    replace Q0 := Lib.hid (heapB hb7 Q0.out)
    replace HB := Lib.hid (HB.out.trans (hb7.mono HB.out.size))
    replace HB4 := Lib.hid (HB4.out.trans (hb7.mono HB4.out.size))
    clear hb7 c0 c1 c2 H23
    have c0 := cellR 0 Q0.out rfl
    have c1 := cellR 1 Q0.out rfl
    have c2 := cellR 2 Q0.out rfl
    go_wp2_with fail
    refine (H24.out _ HB.out).mono ?_
    rintro e w8 ⟨v3, rfl, r3, hb8⟩
    have HR3 := Lib.hid r3
    replace Q0 := Lib.hid (heapB hb8 Q0.out)
    replace HB := Lib.hid (HB.out.trans (hb8.mono HB.out.size))
    replace HB4 := Lib.hid (HB4.out.trans (hb8.mono HB4.out.size))
    clear hb8 c0 c1 c2 H24 r3
    have c0 := cellR 0 Q0.out rfl
    have c1 := cellR 1 Q0.out rfl
    have c2 := cellR 2 Q0.out rfl
    go_wp2_with fail
    refine (HSP.out _).mono ?_
    rintro e w9 ⟨rfl, hb9⟩
    replace HR3 := Lib.hid (HR3.out.keep hb9)
    replace Q0 := Lib.hid (heapB hb9 Q0.out)
    replace HB := Lib.hid (HB.out.trans (hb9.mono HB.out.size))
    replace HB4 := Lib.hid (HB4.out.trans (hb9.mono HB4.out.size))
    clear hb9 c0 c1 c2
    have c0 := cellR 0 Q0.out rfl
    have c1 := cellR 1 Q0.out rfl
    have c2 := cellR 2 Q0.out rfl
    go_wp2_with fail
    refine (H25.out _ HB.out).mono ?_
    rintro e wa ⟨v4, rfl, r4, hba⟩
    replace HR3 := Lib.hid (HR3.out.keep hba)
    have HR4 := Lib.hid r4
    replace HB := Lib.hid (HB.out.trans (hba.mono HB.out.size))
    replace HB4 := Lib.hid (HB4.out.trans (hba.mono HB4.out.size))
    clear hba c0 c1 c2 H25 r4 Q0 HSP
    have e1 : (E != E) = false := by simp
    have e2 : (E2 != E2) = false := by simp
    have e3 : (cn != cn) = false := by simp
    have e4 : ((S.length : Int) != (S.length : Int)) = false := by simp
    obtain ⟨a3, k3, bs3, rfl, h3a, h3b⟩ := HR3.out.ex
    obtain ⟨a4, k4, bs4, rfl, h4a, h4b⟩ := HR4.out.ex
    have H3A := Lib.hid h3a
    have H3B := Lib.hid h3b
    have H4A := Lib.hid h4a
    have H4B := Lib.hid h4b
    clear HR3 HR4 h3a h3b h4a h4b
    go_wp2_with fail
    refine (HQ.out _ HB4.out).mono ?_
    rintro e wb ⟨rfl, hbb⟩
    have HW0 : Hid (Below w.heap.size w wb ∧ Below wa.heap.size wa wb) := ⟨HB.out.trans (hbb.mono HB.out.size), hbb⟩
    clear HQ hbb HB HB4
    go_wp2_with fail
    go_loopw [17, 18] (fun iv jv wr => ∃ (i : Nat), i ≤ S.length ∧ iv = .int .i64 (i : Int) ∧ Hid (Below w.heap.size w wr ∧ Below wa.heap.size wa wr)) (fun iv _ _ => S.length - (intOf iv).toNat)
    case atStart => exact ⟨0, Nat.zero_le _, rfl, HW0⟩
    case round =>
      clear HW0
      obtain ⟨i, hi, rfl, HI⟩ := hrel
      by_cases hlt : i < S.length
      · obtain ⟨g3, rfl, hc3⟩ := H3A.out (ne_nil_of_lt hlt)
        obtain ⟨g4, rfl, hc4⟩ := H4A.out (ne_nil_of_lt hlt)
        have x3 := kcell HI.out.2 (hc3 i hlt)
        have x4 := kcell HI.out.2 (hc4 i hlt)
        have r3 : BAt wr (bs3.getD i 0) _ := heapB HI.out.2 (H3B.out i hlt)
        have r4 : BAt wr (bs4.getD i 0) _ := heapB HI.out.2 (H4B.out i hlt)
        generalize bs3.getD i 0 = p3 at *
        generalize bs4.getD i 0 = p4 at *
        obtain ⟨R, hR⟩ : ∃ R, R = (List.range sw).map (S.getD i fun _ => false) := ⟨_, rfl⟩
        rw [← hR] at r3 r4
        have HRL : Hid (R.length = sw) := by show _ = _; rw [hR]; simp
        have HR3 := Lib.hid r3
        have HR4 := Lib.hid r4
        have d5 : decide ((i : Int) < (S.length : Int)) = true := decide_eq_true (by omega)
        have e5 : ((sw : Int) != (sw : Int)) = false := by simp
        have HWI := Lib.hid (wrap_small ((i : Int) + 1) (by omega) (by have := HSS.out; omega))
        have HCS : Hid (((i : Int) + 1) = ((i + 1 : Nat) : Int)) := by show _ = _; rw [Int.natCast_add]; rfl
        have HME : Hid (S.length - (intOf (.int .i64 ((i : Int) + 1))).toNat < S.length - (intOf (.int .i64 (i : Int))).toNat) := by show _ < _; simp [intOf]; omega
        have HMO : Hid (S.length - (intOf (.int .i64 (wrap64 ((i : Int) + 1)))).toNat < S.length - (intOf (.int .i64 (i : Int))).toNat) := by show _ < _; rw [HWI.out]; exact HME.out
        have HK1 : Hid (i + 1 ≤ S.length) := hlt
        have hbo : ((S.length : Int) ≤ (i : Int)) = False := by simp; omega
        clear hc3 hc4 hR r3 r4 hi
        obtain ⟨wo, rfl⟩ : ∃ wo, wo = wr := ⟨_, rfl⟩
        go_wp2_with fail
        go_quiet (fail)
        have HI2 : Hid ((Below w.heap.size w (wo.drewN nq) ∧ Below wa.heap.size wa (wo.drewN nq)) ∧ BAt (wo.drewN nq) p3 R ∧ BAt (wo.drewN nq) p4 R ∧ (wo.drewN nq).cell? ⟨g3, i, none⟩ = some (.slice (some ⟨p3, 0, none⟩) sw sw) ∧ (wo.drewN nq).cell? ⟨g4, i, none⟩ = some (.slice (some ⟨p4, 0, none⟩) sw sw)) := ⟨⟨below_drewN HI.out.1 _, below_drewN HI.out.2 _⟩, HR3.out, HR4.out, x3, x4⟩
        clear HI x3 x4 HR3 HR4
        generalize wo.drewN nq = W9 at *
        go_wp2_with fail
        have HJ0 : Hid (Below w.heap.size w W9 ∧ Below wa.heap.size wa W9 ∧ Below W9.heap.size W9 W9) := ⟨HI2.out.1.1, HI2.out.1.2, Below.refl _ _⟩
        go_loopw [18] (fun jv wr => ∃ (j : Nat), j ≤ sw ∧ jv = .int .i64 (j : Int) ∧ Hid (Below w.heap.size w wr ∧ Below wa.heap.size wa wr ∧ Below W9.heap.size W9 wr)) (fun jv _ => sw - (intOf jv).toNat)
        case atStart => exact ⟨0, Nat.zero_le _, rfl, HJ0⟩
        case round =>
          clear HJ0
          obtain ⟨j, hj, rfl, HJ⟩ := hrel
          obtain ⟨i1, i2, i3, i4, i5⟩ := HI2.out
          have y3 := kcell HJ.out.2.2 i4
          have y4 := kcell HJ.out.2.2 i5
          by_cases hjl : j < sw
          · have d6 : decide ((j : Int) < (sw : Int)) = true := decide_eq_true (by omega)
            have z3 := BAt.cell (show BAt wr p3 R from heapB HJ.out.2.2 i2) j (by rw [HRL.out]; exact hjl)
            have z4 := BAt.cell (show BAt wr p4 R from heapB HJ.out.2.2 i3) j (by rw [HRL.out]; exact hjl)
            generalize R.getD j true = bq at *
            have e6 : (bq != bq) = false := by simp
            have hsw9 := HSW.out
            have HWJ := Lib.hid (wrap_small ((j : Int) + 1) (by omega) (by omega))
            have HCJ : Hid (((j : Int) + 1) = ((j + 1 : Nat) : Int)) := by show _ = _; rw [Int.natCast_add]; rfl
            have HMJ : Hid (sw - (intOf (.int .i64 ((j : Int) + 1))).toNat < sw - (intOf (.int .i64 (j : Int))).toNat) := by show _ < _; simp [intOf]; omega
            have HMK : Hid (sw - (intOf (.int .i64 (wrap64 ((j : Int) + 1)))).toNat < sw - (intOf (.int .i64 (j : Int))).toNat) := by show _ < _; rw [HWJ.out]; exact HMJ.out
            have HKJ : Hid (j + 1 ≤ sw) := hjl
            have hbj : ((sw : Int) ≤ (j : Int)) = False := by simp; omega
            clear i1 i2 i3 i4 i5 hj hjl hsw9
            go_wp2_with fail
            go_quiet (fail)
            have HJ2 : Hid (Below w.heap.size w (wr.drewN nq) ∧ Below wa.heap.size wa (wr.drewN nq) ∧ Below W9.heap.size W9 (wr.drewN nq)) := ⟨below_drewN HJ.out.1 _, below_drewN HJ.out.2.1 _, below_drewN HJ.out.2.2 _⟩
            clear HJ y3 y4 z3 z4
            generalize wr.drewN nq = W8 at *
            go_wp2_with fail
            go_roundw
            case rel => exact ⟨j + 1, HKJ.out, by first | rw [HWJ.out, HCJ.out] | rw [HCJ.out], HJ2⟩
            case measure => first | exact HMK.out | exact HMJ.out
          · have hin : j = sw := by omega
            subst hin
            have d6 : decide ((j : Int) < (j : Int)) = false := decide_eq_false (by omega)
            have HN : Hid (Below w.heap.size w wr ∧ Below wa.heap.size wa wr) := ⟨HJ.out.1, HJ.out.2.1⟩
            clear i1 i2 i3 i4 i5 HJ hj hjl HI2
            go_wp2_with fail
            go_roundw
            case rel => exact ⟨i + 1, HK1.out, by first | rw [HWI.out, HCS.out] | rw [HCS.out], HN⟩
            case measure => first | exact HMO.out | exact HME.out
      · have hin : i = S.length := by omega
        subst hin
        have d5 : decide ((S.length : Int) < (S.length : Int)) = false := decide_eq_false (by omega)
        have HBX := Lib.hid HI.out.1
        clear HI hlt hi
        go_wp2_with fail
        refine (HEND.out _ HBX.out).mono ?_
        rintro e wz ⟨rfl, hbz⟩
        have HBY := Lib.hid hbz
        clear hbz HBX HEND
        go_wp2_with fail
        go_ret
        exact ⟨rfl, HBY.out⟩
end Go.Proofs.YtbhkenphcahifaaGreat
namespace Go.Proofs.YtbhkenphcahifaaGreat
open Go.RowKit Go.Shelf
attribute [local go_sem] Oper.semAt_some
set_option maxRecDepth 100000
set_option maxHeartbeats 4000000
theorem rAcross_bad {w : World} {sa : Option Addr} {l : List Int} (h : Ints w sa l) (sc : Nat) (kind hosts : Int) (ba : Option Addr) (bl bc : Nat) (hv : ¬ vOk kind l hosts) :
    Calls Tryz.prog 23 #[.agg #[.int .i64 kind, .slice sa l.length sc, .int .i64 hosts], .slice ba bl bc] w fun e w' => e = .returned (.tuple #[.int .i64 0, .int .i64 2]) ∧ Below w.heap.size w w' := by
  have HB := Lib.hid ((Below.refl w.heap.size w).alloc (Nat.le_refl _) (.cells #[.int .i64 kind, .slice sa l.length sc, .int .i64 hosts] 34))
  have Q0 := Lib.hid (heap_alloc_new w (.cells #[.int .i64 kind, .slice sa l.length sc, .int .i64 hosts] 34))
  have c0 := cellR 0 Q0.out rfl
  have c1 := cellR 1 Q0.out rfl
  have c2 := cellR 2 Q0.out rfl
  have H1 := Lib.hid (rLinks_bad (h.keep HB.out) sc kind hosts (by rw [show errI kind l hosts = 2 from if_neg hv]; decide))
  rw [show errI kind l hosts = 2 from if_neg hv] at H1
  clear h hv Q0
  go_enter Tryz.func23, Tryz.ntmps23
  go_wp2_with fail
  generalize w.alloc (.cells #[.int .i64 kind, .slice sa l.length sc, .int .i64 hosts] 34) = X at *
  refine H1.out.mono ?_
  rintro e w1 ⟨rfl, hb1⟩
  have HB1 := Lib.hid (HB.out.trans (hb1.mono HB.out.size))
  clear H1 hb1 HB c0 c1 c2
  go_wp2_with fail
  go_ret2
  exact ⟨rfl, HB1.out⟩
theorem rAcross_long {w : World} {sa : Option Addr} {l : List Int} (h : Ints w sa l) (sc : Nat) (kind hosts : Int) (ba : Option Addr) (bl bc : Nat) (hv : vOk kind l hosts) {N : Nat} (hN : swI kind l = (N : Int)) (hbl : bl ≠ N) :
    Calls Tryz.prog 23 #[.agg #[.int .i64 kind, .slice sa l.length sc, .int .i64 hosts], .slice ba bl bc] w fun e w' => e = .returned (.tuple #[.int .i64 0, .int .i64 2]) ∧ Below w.heap.size w w' := by
  have HB := Lib.hid ((Below.refl w.heap.size w).alloc (Nat.le_refl _) (.cells #[.int .i64 kind, .slice sa l.length sc, .int .i64 hosts] 34))
  have Q0 := Lib.hid (heap_alloc_new w (.cells #[.int .i64 kind, .slice sa l.length sc, .int .i64 hosts] 34))
  have c0 := cellR 0 Q0.out rfl
  have c1 := cellR 1 Q0.out rfl
  have c2 := cellR 2 Q0.out rfl
  have H1 := Lib.hid (rLinks_ok (h.keep HB.out) sc kind hosts hv hN)
  have HSW : Hid (∀ W, Below w.heap.size w W → Calls Tryz.prog 51 #[.agg #[.int .i64 kind, .slice sa l.length sc, .int .i64 hosts]] W fun e w' => e = .returned (.int .i64 (N : Int)) ∧ Below W.heap.size W w') := fun W hb => by
    have := rSwitches_any (h.keep hb) sc kind hosts hv
    rwa [hN] at this
  have d0 : ((bl : Int) != (N : Int)) = true := bne_iff_ne.2 (by omega)
  have d0b : (bl != N) = true := bne_iff_ne.2 hbl
  clear h hv hN hbl
  go_enter Tryz.func23, Tryz.ntmps23
  go_wp2_with fail
  generalize w.alloc (.cells #[.int .i64 kind, .slice sa l.length sc, .int .i64 hosts] 34) = X at *
  refine H1.out.mono ?_
  rintro e w1 ⟨v, rfl, hp, hb1⟩
  obtain ⟨ag, cg, rfl, hpr⟩ := hp.prs
  replace Q0 := Lib.hid (heapB hb1 Q0.out)
  replace HB := Lib.hid (HB.out.trans (hb1.mono HB.out.size))
  clear H1 hp hpr hb1 c0 c1 c2
  have c0 := cellR 0 Q0.out rfl
  have c1 := cellR 1 Q0.out rfl
  have c2 := cellR 2 Q0.out rfl
  go_wp2_with fail
  refine (HSW.out _ HB.out).mono ?_
  rintro e w2 ⟨rfl, hb2⟩
  replace HB := Lib.hid (HB.out.trans (hb2.mono HB.out.size))
  clear HSW hb2 c0 c1 c2 Q0
  go_wp2_with fail
  go_ret2
  exact ⟨rfl, HB.out⟩
theorem Across_bad {w : World} {sa : Option Addr} {l : List Int} (h : Ints w sa l) (sc : Nat) (kind hosts : Int) (ba : Option Addr) (bl bc : Nat) (hv : ¬ vOk kind l hosts) :
    Calls Tryz.prog 22 #[.agg #[.int .i64 kind, .slice sa l.length sc, .int .i64 hosts], .slice ba bl bc] w fun e w' => e = .returned (.tuple #[.int .i64 0, .int .i64 2]) ∧ Below w.heap.size w w' := by
  obtain ⟨hba, q0, q1, hz⟩ := twoN w (.cells #[.int .i64 kind, .slice sa l.length sc, .int .i64 hosts] 24) (.cells #[.slice ba bl bc] 49)
  have HO : Hid (∀ W, Below w.heap.size w W → Calls Tryz.prog 47 #[.agg #[.int .i64 kind, .slice sa l.length sc, .int .i64 hosts]] W fun e w' => e = .returned (.tuple #[.nilIface, .int .i64 2]) ∧ Below W.heap.size W w') := fun W hb => by
    refine (networkOf_any (h.keep hb) sc kind hosts).mono ?_
    rintro e w' ⟨h1, ⟨h2, _⟩ | ⟨_, rfl⟩⟩
    · exact absurd h2 hv
    · exact ⟨rfl, h1⟩
  obtain ⟨X, hX⟩ : ∃ X, X = (w.alloc (.cells #[.int .i64 kind, .slice sa l.length sc, .int .i64 hosts] 24)).alloc (.cells #[.slice ba bl bc] 49) := ⟨_, rfl⟩
  rw [← hX] at hba q0 q1 hz
  have HBA := Lib.hid hba
  have c0 := cellR 0 q0 rfl
  have c1 := cellR 1 q0 rfl
  have c2 := cellR 2 q0 rfl
  rw [hX] at c0 c1 c2
  have HX2 := Lib.hid hX
  clear h hv hba q0 q1 hz hX
  generalize l.length = N at *
  refine (callsIn_wide (n := 4)).1 ?_
  refine callsIn_of_wp_marks Tryz.func22 rfl trivial ?_ rfl
  simp only [Tryz.ntmps22, List.size_toArray, List.length_cons, List.length_nil, Nat.reduceAdd, Nat.reduceSub, Array.replicate_succ, Array.replicate_zero, List.push_toArray, List.append_toArray, List.nil_append, List.cons_append]
  gi_wp2
  clear c0 c1 c2
  rw [← HX2.out]
  refine ⟨trivial, callsIn_wide.2 ((HO.out X HBA.out).mono ?_)⟩
  rintro e w1 ⟨rfl, hb1⟩
  have HB1 := Lib.hid (HBA.out.trans (hb1.mono HBA.out.size))
  clear HO hb1 HBA HX2
  gi_wp2
  refine ⟨.tuple #[.int .i64 0, .int .i64 2], ?_, rfl, HB1.out⟩
  simp [results, Tryz.results22, go_sem]
theorem Across_long {w : World} {sa : Option Addr} {l : List Int} (h : Ints w sa l) (sc : Nat) (kind hosts : Int) (ba : Option Addr) (bl bc : Nat) (hv : vOk kind l hosts) {N : Nat} (hN : swI kind l = (N : Int)) (hbl : bl ≠ N) :
    Calls Tryz.prog 22 #[.agg #[.int .i64 kind, .slice sa l.length sc, .int .i64 hosts], .slice ba bl bc] w fun e w' => e = .returned (.tuple #[.int .i64 0, .int .i64 2]) ∧ Below w.heap.size w w' := by
  obtain ⟨hba, q0, q1, hz⟩ := twoN w (.cells #[.int .i64 kind, .slice sa l.length sc, .int .i64 hosts] 24) (.cells #[.slice ba bl bc] 49)
  obtain ⟨ty, fs, fn, rcv, sw, hnv, hse, hsl, hnk⟩ := netK (h.keep hba) sc hv
  have HO : Hid (∀ W, Below w.heap.size w W → Calls Tryz.prog 47 #[.agg #[.int .i64 kind, .slice sa l.length sc, .int .i64 hosts]] W fun e w' => e = .returned (.tuple #[.iface ty rcv, .int .i64 0]) ∧ Below W.heap.size W w') := fun W hb => by
    refine (networkOf_any (h.keep hb) sc kind hosts).mono ?_
    rintro e w' ⟨h1, ⟨_, rfl⟩ | ⟨h2, _⟩⟩
    · exact ⟨by rw [hnv], h1⟩
    · exact absurd hv h2
  obtain rfl : sw = N := by omega
  obtain ⟨X, hX⟩ : ∃ X, X = (w.alloc (.cells #[.int .i64 kind, .slice sa l.length sc, .int .i64 hosts] 24)).alloc (.cells #[.slice ba bl bc] 49) := ⟨_, rfl⟩
  rw [← hX] at hnk hba q0 q1 hz
  have HNK := Lib.hid hnk
  have HBA := Lib.hid hba
  have HQ1 := Lib.hid q1
  have HZ := Lib.hid hz
  have c0 := cellR 0 q0 rfl
  have c1 := cellR 1 q0 rfl
  have c2 := cellR 2 q0 rfl
  rw [hX] at c0 c1 c2
  have HX2 := Lib.hid hX
  have hes := hnk.es
  have hms := hnk.ms
  have d0 : ((bl : Int) != (sw : Int)) = true := bne_iff_ne.2 (by omega)
  have d0b : (bl != sw) = true := bne_iff_ne.2 hbl
  have d0c : ((bl : Int) == (sw : Int)) = false := by simp; omega
  have d0d : (bl == sw) = false := by simpa using hbl
  clear h hv hN hbl hnk hba q0 q1 hz hnv hse hX hsl
  generalize l.length = N at *
  refine (callsIn_wide (n := 4)).1 ?_
  refine callsIn_of_wp_marks Tryz.func22 rfl trivial ?_ rfl
  simp only [Tryz.ntmps22, List.size_toArray, List.length_cons, List.length_nil, Nat.reduceAdd, Nat.reduceSub, Array.replicate_succ, Array.replicate_zero, List.push_toArray, List.append_toArray, List.nil_append, List.cons_append]
  gi_wp2
  clear c0 c1 c2
  rw [← HX2.out]
  refine ⟨trivial, callsIn_wide.2 ((HO.out X HBA.out).mono ?_)⟩
  rintro e w1 ⟨rfl, hb1⟩
  have HB1 := Lib.hid hb1
  clear HO hb1
  gi_wp2
  refine ⟨trivial, callsIn_wide.2 ((HNK.out.sz w1 HB1.out).mono ?_)⟩
  rintro e w2 ⟨rfl, hb2⟩
  have HB2 : Hid (Below X.heap.size X w2) := HB1.out.trans (hb2.mono HB1.out.size)
  have q3 : w2.heap[w.heap.size + 1]? = some (.cells #[.slice ba bl bc] 49 (0, 0)) := (HB2.out.block (w.heap.size + 1) (by rw [HZ.out]; omega)).trans HQ1.out
  have k3 := cellR 0 q3 rfl
  have HF := Lib.hid (HBA.out.trans (HB2.out.mono HBA.out.size))
  clear HNK HB1 hb2 HB2 q3 HQ1 HZ HBA HX2 hes hms
  gi_wp2
  refine ⟨.tuple #[.int .i64 0, .int .i64 2], ?_, rfl, HF.out⟩
  simp [results, Tryz.results22, go_sem]
theorem Sides_bad {w : World} {sa : Option Addr} {l : List Int} (h : Ints w sa l) (sc : Nat) (kind hosts : Int) (hv : ¬ vOk kind l hosts) :
    Calls Tryz.prog 24 #[.agg #[.int .i64 kind, .slice sa l.length sc, .int .i64 hosts]] w fun e w' => e = .returned (.tuple #[.slice none 0 0, .int .i64 2]) ∧ Below w.heap.size w w' := by
  have HO : Hid (∀ W, Below w.heap.size w W → Calls Tryz.prog 47 #[.agg #[.int .i64 kind, .slice sa l.length sc, .int .i64 hosts]] W fun e w' => e = .returned (.tuple #[.nilIface, .int .i64 2]) ∧ Below W.heap.size W w') := fun W hb => by
    refine (networkOf_any (h.keep hb) sc kind hosts).mono ?_
    rintro e w' ⟨h1, ⟨h2, _⟩ | ⟨_, rfl⟩⟩
    · exact absurd h2 hv
    · exact ⟨rfl, h1⟩
  have HB := Lib.hid ((Below.refl w.heap.size w).alloc (Nat.le_refl _) (.cells #[.int .i64 kind, .slice sa l.length sc, .int .i64 hosts] 24))
  have q0 := heap_alloc_new w (.cells #[.int .i64 kind, .slice sa l.length sc, .int .i64 hosts] 24)
  have c0 := cellR 0 q0 rfl
  have c1 := cellR 1 q0 rfl
  have c2 := cellR 2 q0 rfl
  clear h q0 hv
  generalize l.length = N at *
  refine (callsIn_wide (n := 4)).1 ?_
  refine callsIn_of_wp_marks Tryz.func24 rfl trivial ?_ rfl
  simp only [Tryz.ntmps24, List.size_toArray, List.length_cons, List.length_nil, Nat.reduceAdd, Nat.reduceSub, Array.replicate_succ, Array.replicate_zero, List.push_toArray, List.append_toArray, List.nil_append, List.cons_append]
  gi_wp2
  clear c0 c1 c2
  refine ⟨trivial, callsIn_wide.2 ((HO.out _ HB.out).mono ?_)⟩
  rintro e w1 ⟨rfl, hb1⟩
  have HB1 := Lib.hid (HB.out.trans (hb1.mono HB.out.size))
  clear HO hb1 HB
  gi_wp2
  refine ⟨.tuple #[.slice none 0 0, .int .i64 2], ?_, rfl, HB1.out⟩
  simp [results, Tryz.results24, go_sem]
end Go.Proofs.YtbhkenphcahifaaGreat
namespace Go.Proofs.YtbhkenphcahifaaGreat
open Go.ChangeShapes Go.WideShapes Go.ChangeAt Go.RowKit Go.Deep
set_option maxRecDepth 100000
set_option maxHeartbeats 4000000
theorem Tryz.cells4 : Tryz.prog.cellsOf 4 = 1 := by kernel_rfl
theorem Tryz.bytes4 : Tryz.prog.bytesOf 4 = 1 := by kernel_rfl
theorem Tryz.und4 : Tryz.prog.underlying 4 = some .bool := by kernel_rfl
/-- a slice of truth values of any length -/
structure BoolsR (w : World) (a : Option Addr) (l : List Bool) : Prop where
  len : l.length ≤ 140737488355328
  at_ : l ≠ [] → ∃ b off, a = some ⟨b, off, none⟩ ∧ ∀ j (h : j < l.length), w.cell? ⟨b, off + j, none⟩ = some (.bool l[j])
theorem bools_at {w : World} {a : Addr} {n : Nat} {B : Nat → Bool} (h : ∀ i, i < n → w.cell? (a.add i) = some (.bool (B i))) (hp : 0 < n) :
    ∃ b off, a = ⟨b, off, none⟩ ∧ ∀ j, j < n → w.cell? ⟨b, off + j, none⟩ = some (.bool (B j)) := by
  obtain ⟨b, off, spot⟩ := a
  have hspot : spot = none := by simpa [Addr.add] using World.cell?_spot (h 0 hp)
  subst hspot
  refine ⟨b, off, rfl, fun j hj => ?_⟩
  have := h j hj
  have e : (⟨b, off, none⟩ : Addr).add j = ⟨b, off + j, none⟩ := by unfold Addr.add; split <;> simp_all
  rwa [e] at this
/-- an argument that is a slice of truth values -/
theorem bools_of_trod {H : Type} {enc : TypeId × Value → H} {W : World} {x : Option Addr} {len cap : Nat} {d : DataW H} {ps : List MemPlace} (h : DataW.Trod enc Tryz.prog W 0 (fun _ => true) true 49 (.slice x len cap) d ps)
    (hs : ∀ es sp, d = .slice es sp → (es.length + sp.length) * Tryz.prog.bytesOf 4 ≤ reachBytes) :
    ∃ l : List Bool, l.length = len ∧ BoolsR W x l := by
  obtain ⟨fuel, hf⟩ := h
  rcases open_bools Tryz.underlying49 Tryz.und4 Tryz.cells4 hf with ⟨hcs, hx⟩ | ⟨a, len', cap', B, hcs, _, hl, hm, hx, hcell⟩
  · have e : (Value.slice x len cap) = .slice none 0 0 := by simpa [Value.cells] using hcs
    cases e
    exact ⟨[], rfl, ⟨by simp, fun hl => absurd rfl hl⟩⟩
  · have e : (Value.slice x len cap) = .slice (some a) len' cap' := by simpa [Value.cells] using hcs
    cases e
    have hd1 : d = boolRow (some a) len cap B := congrArg Prod.fst hx
    have hlb : len ≤ 140737488355328 := by
      have := hs _ _ (by rw [hd1]; rfl)
      rw [Tryz.bytes4] at this
      simp [reachBytes] at this
      omega
    refine ⟨(List.range len).map B, by simp, ⟨by simpa using hlb, fun hne => ?_⟩⟩
    have hp : 0 < len := by
      cases len with
      | zero => simp at hne
      | succ _ => simp
    obtain ⟨b, off, rfl, hc⟩ := bools_at hcell (by omega : 0 < cap)
    refine ⟨b, off, rfl, fun j hj => ?_⟩
    simp at hj
    rw [hc j (by omega)]
    simp
/-- snakes and sides of every network, of the program and of the reference -/
theorem sides_all {w : World} {sa : Option Addr} {l : List Int} (h : Ints w sa l) (sc : Nat) (kind hosts : Int) (hv : vOk kind l hosts) {N : Nat} (hN : swI kind l = (N : Int)) : ∃ (L : List Int) (S : List (Nat → Bool)), S.length ≤ 2000 ∧
    (∀ W, Below w.heap.size w W → Calls Tryz.prog 20 #[.agg #[.int .i64 kind, .slice sa l.length sc, .int .i64 hosts]] W fun e w' => ∃ v, e = .returned (.tuple #[v, .int .i64 0]) ∧ (∃ a cap, v = .slice a L.length cap ∧ Ints w' a L) ∧ Below W.heap.size W w') ∧ (∀ W, Below w.heap.size w W → Calls Tryz.prog 21 #[.agg #[.int .i64 kind, .slice sa l.length sc, .int .i64 hosts]] W fun e w' => ∃ v, e = .returned (.tuple #[v, .int .i64 0]) ∧ (∃ a cap, v = .slice a L.length cap ∧ Ints w' a L) ∧ Below W.heap.size W w') ∧ (∀ W, Below w.heap.size w W → Calls Tryz.prog 24 #[.agg #[.int .i64 kind, .slice sa l.length sc, .int .i64 hosts]] W fun e w' => ∃ v, e = .returned (.tuple #[v, .int .i64 0]) ∧ RowsB w' v N S ∧ Below W.heap.size W w') ∧ (∀ W, Below w.heap.size w W → Calls Tryz.prog 25 #[.agg #[.int .i64 kind, .slice sa l.length sc, .int .i64 hosts]] W fun e w' => ∃ v, e = .returned (.tuple #[v, .int .i64 0]) ∧ RowsB w' v N S ∧ Below W.heap.size W w') := by
  have hsw := sw_max hv
  rw [hN] at hsw
  obtain ⟨b1, b2, _⟩ := v_bound hv
  have hv0 := hv
  rcases hv with ⟨rfl, hr⟩ | ⟨rfl, hr⟩ | ⟨rfl, hr⟩
  · obtain ⟨⟨h1, h2⟩, hs⟩ := tOk_sides hr
    have hpn : prodI l = (N : Int) := hN
    refine ⟨snL l N, stdK l, by simp [stdK]; omega, ?_, ?_, ?_, ?_⟩
    · intro W hb
      refine (Snake1_any (h.keep hb) sc hosts hv0 (fun V hV => torusSnake_any ((h.keep hb).keep hV) h1 h2 hs N hpn (by omega) (by have : hoI 1 l = prodI l := rfl; omega) sc)).mono ?_
      rintro e w' ⟨v, rfl, h3, h4⟩
      exact ⟨v, rfl, h3.ints, h4⟩
    · intro W hb
      refine (rSnake1_ok (h.keep hb) h1 h2 hs N hpn (by omega) (by have : hoI 1 l = prodI l := rfl; omega) sc hosts hv0).mono ?_
      rintro e w' ⟨v, rfl, h3, h4⟩
      exact ⟨v, rfl, h3.ints, h4⟩
    · intro W hb
      refine (Sides_ok (h.keep hb) sc 1 hosts hv0 (ty := 138) (fs := 144) (fm := 143) (rcv := .agg #[.slice sa l.length sc, .int .i64 (prodI l)]) (sw := N) (ho := hoI 1 l) (S := stdK l) rfl ?_ (by omega) (by simp [stdK]; omega)).mono ?_
      · refine ⟨fun W => m_size1 sa l.length sc (prodI l) W, fun W => m_sides1 sa l.length sc (prodI l) W, enters_of Tryz.func144 (by kernel_rfl) rfl, enters_of Tryz.func143 (by kernel_rfl) rfl, fun W2 hW2 => ?_, fun W2 hW2 => sides_make1 hs h2 (by omega) sc N hpn.symm (h.keep hb) hW2⟩
        have := sizeT_any sa l.length sc (prodI l) W2
        rw [show hoI 1 l = prodI l from rfl, hpn]
        rw [hpn] at this
        exact this
      · rintro e w' ⟨v, bs, rfl, h3, h4, h5, h6⟩
        exact ⟨v, rfl, rowsB_of h3 h4 h5, h6⟩
    · intro W hb
      refine (rSides1_ok (h.keep hb) h2 hs hpn (by omega) sc hosts hv0).mono ?_
      rintro e w' ⟨v, rfl, h3, h4⟩
      exact ⟨v, rfl, h3, h4⟩
  · obtain ⟨n, hn⟩ := Int.eq_ofNat_of_zero_le (show 0 ≤ hoI 2 l by omega)
    have hw : wordsI l = (n : Int) := hn
    have hwb := words_bound hr
    have hrr := hr
    obtain ⟨hl2, ⟨r1, r2⟩, ⟨r3, r4⟩, r5, _⟩ := hr
    obtain ⟨k, hk⟩ := Int.eq_ofNat_of_zero_le (show 0 ≤ l.getD 0 0 by omega)
    obtain ⟨L1, hL1⟩ := Int.eq_ofNat_of_zero_le (show 0 ≤ l.getD 1 0 - 1 by omega)
    have hlv : l.getD 1 0 = ((L1 + 1 : Nat) : Int) := by omega
    have hww : wordsI l = ((k ^ L1 : Nat) : Int) := by
      unfold wordsI; rw [hk, hlv]; simp
    have hnn : (L1 + 1) * k ^ L1 = N := by
      have h9 : swI 2 l = l.getD 1 0 * wordsI l := rfl
      rw [hN, hlv, hww] at h9
      have h8 : ((N : Nat) : Int) = (((L1 + 1) * k ^ L1 : Nat) : Int) := by rw [h9]; simp
      omega
    have hk5 : k ^ (L1 + 1) ≤ 256 := by rw [hk, hlv] at r5; simpa using r5
    have hkk : ∀ a, a ≤ L1 + 1 → k ^ a ≤ 256 := fun a ha => Nat.le_trans (Nat.pow_le_pow_right (by omega) ha) hk5
    have hsl : (stdT k (L1 + 1)).length = fst2 k L1 := stdTn_len k (L1 + 1) L1
    have hf2 := fst2_le (k := k) (n := L1 + 1) hkk L1 (by omega)
    have hS2 : (stdT k (L1 + 1)).length ≤ 2000 := by omega
    have hle : l = [(k : Int), ((L1 + 1 : Nat) : Int)] := by
      match l, hl2 with
      | [x, y], _ => simp at hk hlv; rw [hk, hlv]; simp
    have hnv : netV 2 sa sc l = .iface 142 (.agg #[.int .i64 (k : Int), .int .i64 ((L1 : Int) + 1), .int .i64 ((k ^ L1 : Nat) : Int)]) := by
      rw [show netV 2 sa sc l = .iface 142 (.agg #[.int .i64 (l.getD 0 0), .int .i64 (l.getD 1 0), .int .i64 (wordsI l)]) from rfl, hk, hww, show l.getD 1 0 = (L1 : Int) + 1 by omega]
    refine ⟨ascI n n, stdT k (L1 + 1), hS2, ?_, ?_, ?_, ?_⟩
    · intro W hb
      refine (Snake2_any (h.keep hb) sc hosts hv0 (L := ascI n n) (fun W2 _ => by rw [hw]; exact treeSnake_any _ _ n (by omega) W2)).mono ?_
      rintro e w' ⟨v, rfl, h3, h4⟩
      exact ⟨v, rfl, h3.ints, h4⟩
    · intro W hb
      refine (rSnake2_ok (h.keep hb) sc 2 hosts (by decide) hv0 hn).mono ?_
      rintro e w' ⟨v, rfl, h3, h4⟩
      exact ⟨v, rfl, h3.ints, h4⟩
    · intro W hb
      refine (Sides_ok (h.keep hb) sc 2 hosts hv0 (ty := 142) (fs := 185) (fm := 184) (rcv := .agg #[.int .i64 (k : Int), .int .i64 ((L1 : Int) + 1), .int .i64 ((k ^ L1 : Nat) : Int)]) (sw := N) (ho := hoI 2 l) (S := stdT k (L1 + 1)) hnv ?_ (by omega) hS2).mono ?_
      · refine ⟨fun W => m_size2 _ _ _ W, fun W => m_sides2 _ _ _ W, enters_of Tryz.func185 (by kernel_rfl) rfl, enters_of Tryz.func184 (by kernel_rfl) rfl, fun W2 hW2 => ?_, fun W2 hW2 => sides_make2 k L1 (by omega) (by omega) (by omega) (fun a ha => hkk a (by omega)) N (by omega) W W2⟩
        have := sizeR_any (k : Int) ((L1 : Int) + 1) ((k ^ L1 : Nat) : Int) (by omega) (by omega) (by omega) (by omega) W2
        rw [show hoI 2 l = wordsI l from rfl, hww]
        rw [show ((L1 : Int) + 1) * ((k ^ L1 : Nat) : Int) = (N : Int) by rw [← hnn]; simp] at this
        exact this
      · rintro e w' ⟨v, bs, rfl, h3, h4, h5, h6⟩
        exact ⟨v, rfl, rowsB_of h3 h4 h5, h6⟩
    · intro W hb
      rw [hle] at h hv0 ⊢
      obtain ⟨g, o, rfl, ht⟩ := (h.keep hb).two
      refine (rSides2_ok (k := k) (lv := L1 + 1) (by omega) (by omega) (by omega) (by omega) ht (by simpa using hnn) (by omega) hS2 sc hosts hv0).mono ?_
      rintro e w' ⟨v, rfl, h3, h4⟩
      exact ⟨v, rfl, h3, h4⟩
  · obtain ⟨n, hn⟩ := Int.eq_ofNat_of_zero_le (show 0 ≤ hoI 3 l by omega)
    obtain ⟨hl2, _, ⟨r1, r2⟩, ⟨r3, r4⟩, r5⟩ := hr
    obtain ⟨a, ha⟩ := Int.eq_ofNat_of_zero_le (show 0 ≤ l.getD 0 0 by omega)
    obtain ⟨q, hq⟩ := Int.eq_ofNat_of_zero_le (show 0 ≤ l.getD 1 0 by omega)
    have hG : l.getD 0 0 * l.getD 1 0 + 1 = ((a * q + 1 : Nat) : Int) := by rw [ha, hq]; simp
    have hnn : a * (a * q + 1) = N := by
      have h9 : swI 3 l = l.getD 0 0 * (l.getD 0 0 * l.getD 1 0 + 1) := rfl
      rw [hN, hG, ha] at h9
      have h8 : ((N : Nat) : Int) = ((a * (a * q + 1) : Nat) : Int) := by rw [h9]; simp
      omega
    have hq16 : a * q ≤ 16 * 4 := Nat.mul_le_mul (by omega) (by omega)
    have hS2 : (stdD a (a * q + 1)).length ≤ 2000 := by simp [stdD]; omega
    have hle : l = [(a : Int), (q : Int)] := by
      match l, hl2 with
      | [x, y], _ => simp at ha hq; rw [ha, hq]
    have hnv : netV 3 sa sc l = .iface 146 (.agg #[.int .i64 (a : Int), .int .i64 (q : Int), .int .i64 ((a * q + 1 : Nat) : Int)]) := by
      rw [show netV 3 sa sc l = .iface 146 (.agg #[.int .i64 (l.getD 0 0), .int .i64 (l.getD 1 0), .int .i64 (l.getD 0 0 * l.getD 1 0 + 1)]) from rfl, hG, ha, hq]
    refine ⟨ascI n n, stdD a (a * q + 1), hS2, ?_, ?_, ?_, ?_⟩
    · intro W hb
      refine (Snake3_any (h.keep hb) sc hosts hv0 (L := ascI n n) (fun W2 _ => dragSnake_any _ _ _ n (by omega) hn W2)).mono ?_
      rintro e w' ⟨v, rfl, h3, h4⟩
      exact ⟨v, rfl, h3.ints, h4⟩
    · intro W hb
      refine (rSnake2_ok (h.keep hb) sc 3 hosts (by decide) hv0 hn).mono ?_
      rintro e w' ⟨v, rfl, h3, h4⟩
      exact ⟨v, rfl, h3.ints, h4⟩
    · intro W hb
      refine (Sides_ok (h.keep hb) sc 3 hosts hv0 (ty := 146) (fs := 199) (fm := 198) (rcv := .agg #[.int .i64 (a : Int), .int .i64 (q : Int), .int .i64 ((a * q + 1 : Nat) : Int)]) (sw := N) (ho := hoI 3 l) (S := stdD a (a * q + 1)) hnv ?_ (by omega) hS2).mono ?_
      · refine ⟨fun W => m_size3 _ _ _ W, fun W => m_sides3 _ _ _ W, enters_of Tryz.func199 (by kernel_rfl) rfl, enters_of Tryz.func198 (by kernel_rfl) rfl, fun W2 hW2 => ?_, fun W2 hW2 => sides_make3 a (a * q + 1) N (q : Int) (by omega) (by omega) (by omega) (by omega) W W2⟩
        have := sizeD_any (a : Int) (q : Int) ((a * q + 1 : Nat) : Int) (by omega) (by omega) (by omega) (by omega) W2
        rw [show (a : Int) * ((a * q + 1 : Nat) : Int) = (N : Int) by rw [← hnn, Int.natCast_mul]] at this
        rw [show hoI 3 l = swI 3 l from rfl, hN]
        exact this
      · rintro e w' ⟨v, bs, rfl, h3, h4, h5, h6⟩
        exact ⟨v, rfl, rowsB_of h3 h4 h5, h6⟩
    · intro W hb
      rw [hle] at h hv0 ⊢
      obtain ⟨g, o, rfl, ht⟩ := (h.keep hb).two
      refine (rSides3_ok (a := a) (h := q) (by omega) (by omega) (by omega) (by omega) ht rfl hnn (by omega) sc hosts hv0).mono ?_
      rintro e w' ⟨v, rfl, h3, h4⟩
      exact ⟨v, rfl, h3, h4⟩
theorem NetSides_walk {w : World} {sa : Option Addr} {l : List Int} (h : Ints w sa l) (sc : Nat) (kind hosts : Int) {ba : Option Addr} {bs : List Bool} (hb : BoolsR w ba bs) (bc : Nat) :
    Calls Tryz.prog 5 #[.agg #[.int .i64 kind, .slice sa l.length sc, .int .i64 hosts], .slice ba bs.length bc] w fun e w' => e = .returned (.bool true) ∧ Below w.heap.size w w' := by
  by_cases hv : vOk kind l hosts
  · have hsw := sw_max hv
    obtain ⟨N, hN⟩ := Int.eq_ofNat_of_zero_le (show 0 ≤ swI kind l by have := v_bound hv; omega)
    obtain ⟨L, S, hS, H20, H21, H24, H25⟩ := sides_all h sc kind hosts hv hN
    by_cases hbl : bs.length = N
    · have hbs : Bls w ba bs := ⟨by omega, hb.at_⟩
      have hlk : lkL (nbS kind l) N = lkL (nbS kind l) (swI kind l).toNat := by rw [hN]; rfl
      have hlen : (lkL (nbS kind l) N).length ≤ 1000000 := by
        have h1 := lkL_len (NB := nbS kind l) (N := N) (fun x hx => nbS_few hv hN (by omega) (by omega)) N (Nat.le_refl _)
        have h2 := Nat.mul_le_mul (show N ≤ 256 by omega) (show N ≤ 256 by omega)
        omega
      have hin : ∀ p ∈ lkL (nbS kind l) N, 0 ≤ p.1 ∧ p.1 < swI kind l ∧ 0 ≤ p.2 ∧ p.2 < swI kind l := by
        intro p hp
        have key : ∀ i, i ≤ N → ∀ p ∈ lkL (nbS kind l) i, 0 ≤ p.1 ∧ p.1 < swI kind l ∧ 0 ≤ p.2 ∧ p.2 < swI kind l := by
          intro i
          induction i with
          | zero => intro _ p hp; simp [lkL] at hp
          | succ i ih =>
            intro hi p hp
            rw [lkL] at hp
            rcases List.mem_append.1 hp with hp | hp
            · exact ih (by omega) p hp
            · unfold selL at hp
              obtain ⟨y, hy, rfl⟩ := List.mem_map.1 hp
              have := (net_sym hv (x := (i : Int)) (by omega) (by rw [hN]; omega) y (List.mem_filter.1 hy).1).1
              exact ⟨by simp, by simp; omega, this.1, this.2⟩
        exact key N (Nat.le_refl _) p hp
      exact NetSides_core h sc kind hosts 0 0 (cutL bs (lkL (nbS kind l) N) : Nat) L S N (.slice ba bs.length bc) bs.length ⟨ba, bc, rfl⟩ (by omega) hS H20 H21
        (fun W hW => Across_ok (h.keep hW) ⟨hbs.len, fun hne => by obtain ⟨b, off, e, hc⟩ := hbs.at_ hne; exact ⟨b, off, e, fun j hj => kcell hW (hc j hj)⟩⟩ sc bc kind hosts hv (by rw [hbl, hN]) hlk hlen hin)
        (fun W hW => rAcross_ok (h.keep hW) (hbs.keep hW) sc bc kind hosts hv hN hbl) H24 H25
    · exact NetSides_core h sc kind hosts 0 2 0 L S N (.slice ba bs.length bc) bs.length ⟨ba, bc, rfl⟩ (by omega) hS H20 H21
        (fun W hW => Across_long (h.keep hW) sc kind hosts ba bs.length bc hv hN hbl) (fun W hW => rAcross_long (h.keep hW) sc kind hosts ba bs.length bc hv hN hbl) H24 H25
  · refine NetSides_core h sc kind hosts 2 2 0 [] [] 0 (.slice ba bs.length bc) bs.length ⟨ba, bc, rfl⟩ (by omega) (by simp) ?_ ?_ (fun W hW => Across_bad (h.keep hW) sc kind hosts ba bs.length bc hv) (fun W hW => rAcross_bad (h.keep hW) sc kind hosts ba bs.length bc hv) ?_ ?_
    · intro W hW
      refine (Snake_bad (h.keep hW) sc kind hosts hv).mono ?_
      rintro e w' ⟨rfl, h4⟩
      exact ⟨_, rfl, ⟨none, 0, rfl, ints_nil _⟩, h4⟩
    · intro W hW
      refine (rSnake_bad (h.keep hW) sc kind hosts hv).mono ?_
      rintro e w' ⟨rfl, h4⟩
      exact ⟨_, rfl, ⟨none, 0, rfl, ints_nil _⟩, h4⟩
    · intro W hW
      refine (Sides_bad (h.keep hW) sc kind hosts hv).mono ?_
      rintro e w' ⟨rfl, h4⟩
      exact ⟨_, rfl, rowsB_nil _ _, h4⟩
    · intro W hW
      refine (rSides_bad (h.keep hW) sc kind hosts hv).mono ?_
      rintro e w' ⟨rfl, h4⟩
      exact ⟨_, rfl, rowsB_nil _ _, h4⟩
end Go.Proofs.YtbhkenphcahifaaGreat
namespace Go.Proofs.YtbhkenphcahifaaGreat.netSides
open Go.ChangeShapes Go.WideShapes Go.ChangeAt Go.RowKit
set_option maxRecDepth 100000 in
theorem lifted (os : Os) (started : os.Started) (H : Type) (enc : TypeId × Value → H) :
    ReturnsInHanded {} Tryz.checked os 5 .any (Rows.netSidesSpec.pre6 enc Tryz.prog Tryz.f5 Rows.netSidesRow.domain false) (Rows.netSidesSpec.post enc Tryz.prog Tryz.f5 false true false false) := by
  refine returnsInHanded_of_change_sized (C := Tryz.checked) own started (by kernel_rfl) Tryz.func5
    (ChangeSpec.witness6 (enc := enc) (C := Tryz.checked) false ⟨#[], #[.agg #[.int .i64 0, .slice none 0 0, .int .i64 0], .slice none 0 0], []⟩ 8 (by kernel_rfl) (by kernel_rfl) (by kernel_rfl) (by kernel_rfl)) ?_
  intro W base args ds gs before hval0 hW hcnd hsz0 _
  have hval : ∀ (j : Nat) t v, Tryz.f5.params[j]? = some t → args[j]? = some v → Value.okWide Tryz.prog W .any base t v := hval0
  have hsz : (DataW.weightsEach Tryz.prog (Tryz.f5.params.toList ++ Rows.netSidesSpec.plain.varTypes Tryz.prog) (ds ++ gs)).all (· ≤ reachBytes) = true := hsz0
  have hW' := hW
  obtain ⟨p, q, hA0, hV, rfl, hfz, hnd⟩ := hW
  have hA : DataW.TrodAll enc Tryz.prog W 0 (fun _ => true) true Tryz.f5.params.toList args.toList ds p := hA0
  have hA1 := hA
  rw [Tryz.params5] at hA hval hsz
  obtain ⟨v0, vs0, d0, ds0, p0, q0, hargs, rfl, rfl, h0, r0⟩ := trodAll_cons hA
  obtain ⟨v1, vs1, d1, ds1, p1, q1, rfl, rfl, rfl, h1, r1⟩ := trodAll_cons r0
  obtain ⟨rfl, rfl, rfl⟩ := trodAll_nil r1
  obtain rfl : args = #[v0, v1] := by cases args; simp_all
  obtain ⟨rfl, rfl⟩ := trodVars_none hV
  obtain ⟨k0, o0, x0, cap0, l0, rfl, hc0, hn0, hI0, hw0, wk0, wo0⟩ := spec_of_trod (hval 0 24 v0 rfl rfl) h0 (j := 0) hsz rfl rfl
  obtain ⟨x1, len1, cap1, rfl⟩ := okWide_slice Tryz.underlying49 (hval 1 49 v1 rfl rfl)
  obtain ⟨l1, rfl, hI1⟩ := bools_of_trod h1 (fun es sp e => sized_slice hsz (j := 1) (t := 49) (e := 4) rfl (by rw [e]; rfl) Tryz.underlying49)
  refine (NetSides_walk hI0 cap0 k0 o0 hI1 cap1).mono fun e W' ⟨he, hb⟩ => ?_
  subst he
  have hlt : ∀ x ∈ (p0 ++ (p1 ++ [])), x.block < W.heap.size := fun x hx => hW'.lt x (by simpa using hx)
  refine ⟨_, rfl, _, _, _, [], _, [], hW', (trodAll_cons_mk (shut_bool Tryz.underlying4 _) trodAll_mk0), below_trodAll hb _ ?_ hA1 hlt, rfl, hb.frame _, fun h => by cases h⟩
  rw [Tryz.params5]
  exact of_decide_eq_true (by kernel_rfl)
theorem over : Rows.netSidesRow.holds Tryz.pinned (OpenSpec.ofChange Rows.netSidesSpec) :=
  OpenClaim.holds_of_wide 5 Tryz.f5 rfl rfl rfl rfl rfl rfl rfl ⟨rfl, rfl, rfl, rfl, rfl⟩ rfl rfl rfl rfl rfl (by kernel_rfl) Tryz.func5 (by kernel_rfl)
    (of_decide_eq_true (by kernel_rfl)) (by unfold Func.isWrapper; first | (rw [if_pos (by decide +kernel)]; kernel_rfl) | (rw [if_neg (by decide +kernel)]; exact ⟨rfl, rfl⟩))
    (fun os started H enc _ => lifted os started H enc)
end Go.Proofs.YtbhkenphcahifaaGreat.netSides
namespace Go.Proofs.YtbhkenphcahifaaGreat
/-- the statement -/
theorem netSides_holds : Rows.NetSidesSaid := netSides.over
end Go.Proofs.YtbhkenphcahifaaGreat
