import Derived.Test.YtbhkenphcahifaaGreatProg
import Derived.WalkKit
import Derived.WalkSpells
import Derived.LoopTactic
import Derived.Lib.Hide
import Derived.BigQuiet
import Derived.Deep.QuietTactic
import Derived.Shelf.Abstract
import Derived.Lib.AppendZeros
import Derived.Laws.AppendOwnNone
import Derived.RangeFuncNested
import Derived.RangeFuncBound
import Derived.RangeFuncCalls
import Derived.RangeFuncLeaves
import Derived.RangeFuncOne
import Derived.Shelf.RegionOpen
import Derived.OwnWalkIn
import Derived.TacticsInMore
import Derived.LoopNIn
import Derived.LoopIn
import Derived.Test.YtbhkenphcahifaaGreatRows
import Derived.ProofKit
import Derived.OpenShut
import Derived.Carry
import Derived.SizedLaws
import Derived.OrdersIn
import Derived.Laws.Rows
import Derived.Laws.Tables
import Derived.Deep.AppendLies
import Derived.Laws.StructEq
import Derived.ChangeKeysEq
import Derived.Shelf.Small.Bits
import Derived.Shelf.Small.Wraps
import Derived.Shelf.Strconv.Itoa0
import Derived.Shelf.Sort.Plain
import Derived.Shelf.Bits.Mul64
import Derived.Ground.Names2Prog
import Derived.Shelf.Slices.CompactI
import Derived.Shelf.Slices.SearchI
import Derived.Shelf.Slices.Cells
import Derived.Shelf.Slices.In.SortNone
import Derived.Lib.OwnBridge
import Derived.Sort.OwnSortedInts
import Derived.BigRegion
import Init
import Derived.Deep.Grids
namespace Go.Proofs.YtbhkenphcahifaaGreat
open Go.RowKit Go.Shelf
attribute [local go_sem] Oper.semAt_some
/-- a slice of integers -/
structure Ints (w : World) (a : Option Addr) (l : List Int) : Prop where
  len : l.length ≤ 17592186044416
  at_ : l ≠ [] → ∃ b off, a = some ⟨b, off, none⟩ ∧ ∀ j (h : j < l.length), w.cell? ⟨b, off + j, none⟩ = some (.int .i64 l[j])
theorem Ints.keep {w w' : World} {a : Option Addr} {l : List Int} (h : Ints w a l) (hb : Below w.heap.size w w') : Ints w' a l :=
  ⟨h.len, fun hl => by
    obtain ⟨b, off, ha, hc⟩ := h.at_ hl
    exact ⟨b, off, ha, fun j hj => (hb.cell (p := ⟨b, off + j, none⟩) (block_lt_of_cell (hc j hj))).trans (hc j hj)⟩⟩
theorem ne_nil_of_lt {α} {l : List α} {k : Nat} (h : k < l.length) : l ≠ [] := fun e => by simp [e] at h
theorem Tryz.info3 : (Tryz.prog.info? 3).map (fun i => (i.zero, i.size, i.bytes)) = some (some (.int .i64 0), 1, 8) := by kernel_rfl
/-- a slice of integers in memory of the call's own, from block B on -/
structure NewInts (B : Nat) (w : World) (v : Value) (l : List Int) : Prop where
  own : w.ownsRow B 3 1 v l.length (l.map (Value.int .i64))
  len : l.length ≤ 17592186044416
theorem NewInts.ints {B : Nat} {w : World} {v : Value} {l : List Int} (h : NewInts B w v l) : ∃ a cap, v = .slice a l.length cap ∧ Ints w a l := by
  obtain ⟨h1, h2⟩ := h.own
  rcases h2 with ⟨rfl, hn⟩ | ⟨g, cap, cur, rfl, hB, hg, hc, hm, hs, ht⟩
  · exact ⟨none, 0, by rw [hn], h.len, fun hl => absurd (List.length_eq_zero_iff.1 hn) hl⟩
  · refine ⟨_, cap, rfl, h.len, fun _ => ⟨g, 0, rfl, fun j hj => ?_⟩⟩
    rw [cell_of_row w g _ cur _ _ hg]
    have : (l.map (Value.int .i64))[j]? = some (.int .i64 l[j]) := by simp [hj]
    rw [← ht] at this
    rw [List.getElem?_take] at this
    split at this
    · simpa using this
    · cases this
theorem Ints.news {W : World} {x : Addr} {l : List Int} (h : Ints W (some x) l) : ∀ j u, (l.map (Value.int .i64))[j]? = some u → W.cell? (x.add j) = some u := fun j u hj => by
  have hjl : j < l.length := by have := (List.getElem?_eq_some_iff.1 hj).1; simpa using this
  obtain ⟨b', o', e, hc⟩ := h.at_ (ne_nil_of_lt hjl)
  cases e
  rw [Addr.add_lit, hc j hjl]
  simpa [hjl] using hj
/-- the cells of a row of integers -/
@[irreducible] def rowA (l : List Int) : Array Value := (l.map (Value.int .i64)).toArray
@[simp] theorem rowA_size (l : List Int) : (rowA l).size = l.length := by unfold rowA; simp
theorem rowA_at (l : List Int) (j : Nat) (h : j < l.length) : (rowA l)[j]? = some (.int .i64 l[j]) := by unfold rowA; simp [h]
/-- block b is a row of integers that may be written -/
def RowAt (w : World) (b : Nat) (l : List Int) : Prop := w.heap[b]? = some (.cells (rowA l) 3 (0, 0))
theorem RowAt.lt {w : World} {b : Nat} {l : List Int} (h : RowAt w b l) : b < w.heap.size := (Array.getElem?_eq_some_iff.1 h).1
theorem RowAt.cell {w : World} {b : Nat} {l : List Int} (h : RowAt w b l) (j : Nat) (hj : j < l.length) : w.cell? ⟨b, j, none⟩ = some (.int .i64 l[j]) := by
  rw [cell_of_row w b j _ _ _ h]; exact rowA_at l j hj
theorem RowAt.open_ {w : World} {b : Nat} {l : List Int} (h : RowAt w b l) (j : Nat) : w.frozen? ⟨b, j, none⟩ = false := frozen_of_row w b j _ _ h
theorem RowAt.ints {w : World} {b : Nat} {l : List Int} (h : RowAt w b l) (hl : l.length ≤ 17592186044416) : Ints w (some ⟨b, 0, none⟩) l :=
  ⟨hl, fun _ => ⟨b, 0, rfl, fun j hj => by rw [Nat.zero_add]; exact h.cell j hj⟩⟩
theorem RowAt.set {w : World} {b : Nat} {l : List Int} (h : RowAt w b l) (x : Nat) (v : Int) : RowAt (w.setCell ⟨b, x, none⟩ (.int .i64 v)) b (l.set x v) := by
  unfold RowAt
  rw [heap_setCell_same w b x _ 3 _ h]
  congr 2
  unfold rowA
  apply Array.ext'
  simp [List.map_set]
theorem RowAt.keep {w w' : World} {b : Nat} {l : List Int} (h : RowAt w b l) (hb : Below w.heap.size w w') : RowAt w' b l := by
  unfold RowAt; rw [hb.block b h.lt]; exact h
theorem RowAt.alloc {w : World} {b : Nat} {l : List Int} (h : RowAt w b l) (o : Obj) : RowAt (w.alloc o) b l := (Below.heap_alloc _ _ _ h.lt).trans h
theorem RowAt.set_other {w : World} {b : Nat} {l : List Int} (h : RowAt w b l) (b' x : Nat) (v : Value) (hb : b ≠ b') : RowAt (w.setCell ⟨b', x, none⟩ v) b l := by
  unfold RowAt; rw [heap_setCell_other _ _ _ _ hb]; exact h
theorem RowAt.own {w : World} {b B : Nat} {l : List Int} (h : RowAt w b l) (hB : B ≤ b) (hl : l.length ≤ 17592186044416) : NewInts B w (.slice (some ⟨b, 0, none⟩) l.length l.length) l :=
  ⟨⟨by simp, .inr ⟨b, l.length, rowA l, rfl, hB, h, Nat.le_refl _, by unfold maxLen; omega, by simp, by unfold rowA; simp [List.take_of_length_le]⟩⟩, hl⟩
set_option maxRecDepth 100000 in
theorem make_ints (n : Nat) (hn : n ≤ 17592186044416) (w : World) : (Instr.makeSlice 22 (.int .i64 n) (.int .i64 n)).run Tryz.prog w = .ok (.slice (some ⟨w.heap.size, 0, none⟩) n n) (w.alloc (.cells (rowA (List.replicate n 0)) 3)) := by
  obtain ⟨i0, hi, hz0, hz1, hz2⟩ := info_parts Tryz.info3
  have := run_make (P := Tryz.prog) w 22 3 i0 (.int .i64 0) Tryz.underlying22 hi hz0 .i64 .i64 n n (by omega) (Int.le_refl _) (by rw [hz2]; omega) (by omega)
  rw [this, hz1]
  simp only [Int.toNat_natCast, Nat.mul_one]
  congr 3
  unfold rowA madeCells
  apply Array.ext
  · simp
  · intro i h1 h2
    simp [Value.cells, Nat.mod_one]
/-- whatever is cells, but the blocks of ex, is as it was -/
structure KeepP (ex : Nat → Prop) (w w' : World) : Prop where
  os : w'.os = w.os
  tape : w'.tape = w.tape
  output : w'.output = w.output
  size : w.heap.size ≤ w'.heap.size
  block : ∀ (k : Nat) (o : Obj), w.heap[k]? = some o → o.isCells = true → ¬ ex k → w'.heap[k]? = some o
theorem KeepP.refl (ex : Nat → Prop) (w : World) : KeepP ex w w := ⟨rfl, rfl, rfl, Nat.le_refl _, fun _ _ h _ _ => h⟩
theorem KeepP.trans {ex : Nat → Prop} {a b c : World} (h : KeepP ex a b) (k : KeepP ex b c) : KeepP ex a c :=
  ⟨k.os.trans h.os, k.tape.trans h.tape, k.output.trans h.output, Nat.le_trans h.size k.size, fun i o hi ho he => k.block i o (h.block i o hi ho he) ho he⟩
theorem KeepP.of_below {ex : Nat → Prop} {w w' : World} (h : Below w.heap.size w w') : KeepP ex w w' := ⟨h.os, h.tape, h.output, h.size, fun k _ hk _ _ => (h.block k (Array.getElem?_eq_some_iff.1 hk).1).trans hk⟩
theorem KeepP.cell {ex : Nat → Prop} {w w' : World} (h : KeepP ex w w') {p : Addr} {v : Value} (hc : w.cell? p = some v) (he : ¬ ex p.block) : w'.cell? p = some v := by
  obtain ⟨o, ho, hoc⟩ := cells_of_cell hc
  rw [← hc]
  exact World.cell?_of_block (w := w) ((h.block _ o ho hoc he).trans ho.symm)
theorem KeepP.setCell {ex : Nat → Prop} {a w : World} (h : KeepP ex a w) (b o : Nat) (hb : ex b) (v : Value) : KeepP ex a (w.setCell ⟨b, o, none⟩ v) :=
  h.trans ⟨rfl, rfl, rfl, by simp [World.setCell], fun k o' hk _ he => (Below.heap_setCell _ _ _ _ (fun e => he (by rw [e]; exact hb))).trans hk⟩
theorem KeepP.drew {ex : Nat → Prop} {a w : World} (h : KeepP ex a w) : KeepP ex a w.drew := ⟨h.os, h.tape, h.output, h.size, h.block⟩
theorem KeepP.putObj {ex : Nat → Prop} (W : World) (l : Nat) (o o' : Obj) (hl : W.heap[l]? = some o) (ho : o.isCells = false) : KeepP ex W (W.putObj l o') :=
  ⟨rfl, rfl, rfl, by simp [World.putObj], fun k o2 hk h2 _ => (World.putObj_heap_other (fun e => by subst e; rw [hl] at hk; cases hk; rw [ho] at h2; cases h2)).trans hk⟩
/-- a function that yields the indexes and elements of a list from its end, whatever is written to the blocks ex between two rounds -/
def BIter (l : List Int) (lb : Array Value) (ex : Nat → Prop) (w : World) : Prop :=
  (∀ args w, (callFunc 159 args).run Tryz.prog w = .ok (.enter 159 args) w) ∧
  ∀ n, SeqStopsK (α := Fin l.length) Fence.wide n Tryz.prog 159 lb (fun i => #[.int .i64 (i.1 : Int), .int .i64 (l.getD i.1 0)]) (KeepP ex) (fun xs => xs.map (·.1) = (List.range l.length).reverse) (fun pre => pre.map (·.1) <+: (List.range l.length).reverse) l.length w
theorem rev_range_succ {n m : Nat} (h : m < n) : ((List.range n).drop m).reverse = ((List.range n).drop (m + 1)).reverse ++ [m] := by
  rw [List.drop_eq_getElem_cons (by simpa using h)]
  simp
set_option maxRecDepth 100000 in
set_option maxHeartbeats 4000000 in
theorem backIter {w : World} (bb : Nat) (ex : Nat → Prop) (hbx : ¬ ex bb) (a : Option Addr) (l : List Int) (cap : Nat) (h : Ints w a l) (hax : ∀ g off, a = some ⟨g, off, none⟩ → l ≠ [] → ¬ ex g) (hc : w.cell? ⟨bb, 0, none⟩ = some (.slice a l.length cap)) : BIter l #[.pointer (some ⟨bb, 0, none⟩)] ex w := by
  have hlen := h.len
  refine ⟨enters_of Tryz.func159 (by kernel_rfl) rfl, fun n ll J Jx W hW hJ hJx hY h0 => ?_⟩
  refine callsIn_of_wp Tryz.func159 rfl trivial ?_ rfl
  simp only [Tryz.ntmps159, List.size_toArray, List.length_cons, List.length_nil, Nat.reduceAdd, Nat.reduceSub, Array.replicate_succ, Array.replicate_zero, List.push_toArray, List.append_toArray, List.nil_append, List.cons_append]
  have hW' : KeepP ex w W := KeepP.of_below hW
  have hc' := hW'.cell hc hbx
  have HY := Lib.hid hY
  have HX := Lib.hid hax
  clear hY hc hax
  gi_wp2
  gi_loopw [3] (fun i wr => ∃ (m : Nat) (q : Int) (pre : List (Fin l.length)), m ≤ l.length ∧ -1 ≤ q ∧ q ≤ 17592186044416 ∧ Hid (q = (m : Int) - 1) ∧ i = .int .i64 q ∧ Hid (pre.map (·.1) = ((List.range l.length).drop m).reverse) ∧ J pre wr ∧ KeepP ex W wr ∧ W.heap.size ≤ wr.heap.size)
    (fun i _ => (intOf i + 1).toNat)
  case atStart => exact ⟨l.length, _, [], Nat.le_refl _, by omega, by omega, rfl, rfl, by simp [Hid], h0, KeepP.refl _ _, Nat.le_refl _⟩
  case round =>
    obtain ⟨m, q, pre, hm, hq1, hq2, HQ, rfl, HP, hJ1, hb1, hWz⟩ := hrel
    have c1 := hb1.cell hc' hbx
    cases m with
    | zero =>
      have hq0 : q < 0 := by have := HQ.out; omega
      have HP2 : Hid (pre.map (·.1) = (List.range l.length).reverse) := by show _ = _; rw [HP.out]; simp
      gi_wp2
      go_end0
      exact ⟨⟨_, rfl⟩, .inl ⟨pre, HP2.out, hJ1⟩⟩
    | succ m =>
      have hqm : q = (m : Int) := by have := HQ.out; omega
      subst hqm
      have hlt : m < l.length := by omega
      obtain ⟨g, off, rfl, hcs⟩ := h.at_ (ne_nil_of_lt hlt)
      have c0 := hcs m hlt
      have d0 := (hb1.cell (hW'.cell c0 (HX.out g off rfl (ne_nil_of_lt hlt))) (HX.out g off rfl (ne_nil_of_lt hlt)))
      have hpl : pre.length < l.length := by have := congrArg List.length HP.out; simp at this; omega
      obtain ⟨fn, tmps, assign, body, hy, hR⟩ := HY.out pre ⟨m, hlt⟩ wr hJ1 hpl
      dsimp only at hy
      rw [show l.getD m 0 = l[m] by simp [List.getD, hlt]] at hy
      have HP2 : Hid ((pre ++ [(⟨m, hlt⟩ : Fin l.length)]).map (·.1) = ((List.range l.length).drop m).reverse) := by
        show _ = _; rw [List.map_append, HP.out, rev_range_succ hlt]; rfl
      clear hcs c0 hpl
      gi_wp2
      refine ⟨fun h => (by cases h), ?_⟩
      refine hR.mono ?_
      rintro e W2 (⟨rfl, hJ4, hk4⟩ | ⟨rfl, hJ4⟩)
      · have hsz := hk4.size
        gi_wp2
        go_roundw
        case rel => exact ⟨m, (m : Int) - 1, pre ++ [⟨m, hlt⟩], by omega, by omega, by omega, rfl, by go_num, HP2, hJ4, hb1.trans hk4, by omega⟩
        case measure => simp [intOf]
      · gi_wp2
        refine bodyPost_ret (results_none rfl _ _ _) rfl ?_
        refine ⟨⟨_, rfl⟩, .inr ⟨_, ?_, hJ4⟩⟩
        rw [HP2.out]
        have := List.take_append_drop m (List.range l.length)
        have h2 := congrArg List.reverse this
        rw [List.reverse_append] at h2
        rw [← h2]
        exact List.prefix_append _ _
theorem mod_eq (a n : Int) (h1 : 1 ≤ n) : (a.tmod n + n).tmod n = a % n := by
  have hb : -n < a.tmod n ∧ a.tmod n < n := by
    refine ⟨?_, Int.tmod_lt_of_pos a (by omega)⟩
    have := Int.tmod_lt_of_pos (-a) (show 0 < n by omega)
    rw [Int.neg_tmod] at this
    omega
  rw [Int.tmod_eq_emod_of_nonneg (by omega), Int.add_emod_right]
  have h : a.tmod n = a - n * a.tdiv n := by have := Int.mul_tdiv_add_tmod a n; omega
  rw [h]
  exact Int.sub_mul_emod_self_left a n _
set_option maxHeartbeats 400000 in
theorem modulo_any (a n : Int) (h1 : 1 ≤ n) (h2 : n ≤ 1000) (w : World) :
    Calls Tryz.prog 146 #[.int .i64 a, .int .i64 n] w fun e w' => e = .returned (.int .i64 (a % n)) ∧ w = w' := by
  have hb : -n < a.tmod n ∧ a.tmod n < n := by
    refine ⟨?_, Int.tmod_lt_of_pos a (by omega)⟩
    have := Int.tmod_lt_of_pos (-a) (show 0 < n by omega)
    rw [Int.neg_tmod] at this
    omega
  have hn0 : n ≠ 0 := by omega
  have hw : wrap64 (a.tmod n + n) = a.tmod n + n := by unfold wrap64; omega
  have hm : (a.tmod n + n).tmod n = a % n := mod_eq a n h1
  go_enter Tryz.func146, Tryz.ntmps146
  go_wp2
  go_ret
  exact ⟨rfl, rfl⟩
end Go.Proofs.YtbhkenphcahifaaGreat
namespace Go.Proofs.YtbhkenphcahifaaGreat
open Go.ChangeShapes Go.WideShapes Go.ChangeAt Go.RowKit
set_option maxRecDepth 100000
theorem own : ownKnob Tryz.prog.godebug = none := by kernel_rfl
theorem laidOut : laidOutB Tryz.prog = true := by kernel_rfl
/-- the arguments read behind the call as before it -/
theorem below_trodAll {H : Type} {enc : TypeId × Value → H} {W W' : World} (hb : Below W.heap.size W W') : ∀ (ts : List TypeId) {vs : List Value} {ds : List (DataW H)} {ps : List MemPlace},
    (∀ t ∈ ts, Tryz.prog.readableRec t = true ∧ t < Tryz.prog.types.size) → DataW.TrodAll enc Tryz.prog W 0 (fun _ => true) true ts vs ds ps → (∀ x ∈ ps, x.block < W.heap.size) →
    DataW.TrodAll enc Tryz.prog W' 0 (fun b => decide (b < W.heap.size)) true ts vs ds ps
  | [], _, _, _, _, h, _ => by
    obtain ⟨rfl, rfl, rfl⟩ := trodAll_nil h
    exact trodAll_mk0
  | t :: ts, _, _, _, ht, h, hlt => by
    obtain ⟨v, vs1, d, ds1, a, b, rfl, rfl, rfl, h1, h2⟩ := trodAll_cons h
    obtain ⟨hr, hs⟩ := ht t (by simp)
    exact trodAll_cons_mk (Below.trod laidOut hr hs h1 hb fun x hx => hlt x (by simp [hx])) (below_trodAll hb ts (fun u hu => ht u (by simp [hu])) h2 fun x hx => hlt x (by simp [hx]))
theorem Tryz.cells3 : Tryz.prog.cellsOf 3 = 1 := by kernel_rfl
theorem Tryz.cells22 : Tryz.prog.cellsOf 22 = 1 := by kernel_rfl
theorem Tryz.cells24 : Tryz.prog.cellsOf 24 = 3 := by kernel_rfl
theorem Tryz.bytes3 : Tryz.prog.bytesOf 3 = 8 := by kernel_rfl
/-- a slice of integers, read -/
theorem ints_of_trod {H : Type} {enc : TypeId × Value → H} {W : World} {v : Value} {k : Nat} {y : DataW H × List MemPlace} (hf : DataW.trod enc Tryz.prog W 0 (fun _ => true) true k 22 [v] = some y)
    (hs : ∀ es sp, y.1 = .slice es sp → (es.length + sp.length) * Tryz.prog.bytesOf 3 ≤ reachBytes) :
    ∃ (x : Option Addr) (cap : Nat) (l : List Int), v = .slice x l.length cap ∧ l.length ≤ cap ∧ (x = none → cap = 0) ∧ Ints W x l ∧ (∀ n ∈ l, (Lit.int .i64 n).wf = true) := by
  rcases open_ints Tryz.underlying22 Tryz.underlying3 Tryz.cells3 hf with ⟨hcs, hx⟩ | ⟨a, len', cap', zs, hcs, _, hl, hm, hz, hx, hcell, hwz⟩
  · obtain rfl : v = .slice none 0 0 := by simpa using hcs
    exact ⟨none, 0, [], rfl, Nat.le_refl _, fun _ => rfl, ⟨by simp, fun hl => absurd rfl hl⟩, fun n hn => by cases hn⟩
  · obtain rfl : v = .slice (some a) len' cap' := by simpa using hcs
    simp only [if_true] at hz
    have hd := hs (lits .i64 (zs.take len')) (lits .i64 (zs.drop len')) (by rw [hx])
    rw [Tryz.bytes3] at hd
    simp only [lits, List.length_map, List.length_take, List.length_drop, reachBytes] at hd
    have hlen : (zs.take len').length = len' := by simp; omega
    refine ⟨some a, cap', zs.take len', by rw [hlen], by omega, (fun e => by cases e), ⟨by simp; omega, fun hne => ?_⟩, fun n hn => hwz n (List.mem_of_mem_take hn)⟩
    have hp : 0 < zs.length := by
      cases zs with
      | nil => simp at hne
      | cons _ _ => simp
    obtain ⟨b, off, rfl, hc⟩ := ints_at hcell hp
    refine ⟨b, off, rfl, fun j hj => ?_⟩
    simp at hj
    rw [hc j (by omega)]
    simp [List.getD, show j < zs.length by omega]
/-- an argument that is a network's description -/
theorem spec_of_trod {H : Type} {enc : TypeId × Value → H} {W : World} {v : Value} {d : DataW H} {ps : List MemPlace} {r : Reach} {b0 : Nat} (hval : Value.okWide Tryz.prog W r b0 24 v) (h : DataW.Trod enc Tryz.prog W 0 (fun _ => true) true 24 v d ps)
    {ts : List TypeId} {ds : List (DataW H)} {j : Nat} (hsz : (DataW.weightsEach Tryz.prog ts ds).all (· ≤ reachBytes) = true) (ht : ts[j]? = some 24) (hd : ds[j]? = some d) :
    ∃ (kind hosts : Int) (x : Option Addr) (cap : Nat) (l : List Int), v = .agg #[.int .i64 kind, .slice x l.length cap, .int .i64 hosts] ∧ l.length ≤ cap ∧ (x = none → cap = 0) ∧ Ints W x l ∧ (∀ n ∈ l, (Lit.int .i64 n).wf = true) ∧
      (Lit.int .i64 kind).wf = true ∧ (Lit.int .i64 hosts).wf = true := by
  obtain ⟨cs, rfl, hn⟩ := okWide_struct Tryz.underlying24 hval
  rw [Tryz.cells24] at hn
  obtain ⟨fuel, hf⟩ := h
  obtain ⟨xs, k, hk, hxy, _, hxl, hf⟩ := DataW.trod_struct Tryz.underlying24 hf
  obtain ⟨l⟩ := cs
  match l, hn with
  | [c0, c1, c2], _ =>
    match xs, hxl with
    | [y0, y1, y2], _ =>
      have g0 : DataW.trod enc Tryz.prog W 0 (fun _ => true) true k 3 ((([c0, c1, c2] : List Value).drop 0).take (Tryz.prog.cellsOf 3)) = some y0 := hf 0 _ rfl
      have g1 : DataW.trod enc Tryz.prog W 0 (fun _ => true) true k 22 ((([c0, c1, c2] : List Value).drop 1).take (Tryz.prog.cellsOf 22)) = some y1 := hf 1 _ rfl
      have g2 : DataW.trod enc Tryz.prog W 0 (fun _ => true) true k 3 ((([c0, c1, c2] : List Value).drop 2).take (Tryz.prog.cellsOf 3)) = some y2 := hf 2 _ rfl
      rw [Tryz.cells3] at g0 g2
      rw [Tryz.cells22] at g1
      obtain ⟨x, ex, _, wx⟩ := DataW.trod_int Tryz.underlying3 g0
      obtain ⟨p, ep, _, wp⟩ := DataW.trod_int Tryz.underlying3 g2
      simp at ex ep
      subst ex
      subst ep
      have hd2 : d = .agg [y0.1, y1.1, y2.1] := by
        have := congrArg Prod.fst hxy
        simpa using this
      have := ints_of_trod (v := c1) g1 (fun es sp e => by
        have := List.all_eq_true.1 hsz _ (DataW.weights_mem_each ht hd ((es.length + sp.length) * Tryz.prog.bytesOf 3) (by
          rw [hd2, e]
          have := DataW.weights_mem_each (H := H) (P := Tryz.prog) (ts := [3, 22, 3]) (ds := [y0.1, .slice es sp, y2.1]) (j := 1) rfl rfl ((es.length + sp.length) * Tryz.prog.bytesOf 3) (by simp [DataW.weights, Tryz.underlying22])
          simpa [DataW.weights, Tryz.underlying24] using this))
        simpa using this)
      obtain ⟨x1, cap, L, rfl, h1, h2, h3, h4⟩ := this
      exact ⟨x, p, x1, cap, L, rfl, h1, h2, h3, h4, wx, wp⟩
end Go.Proofs.YtbhkenphcahifaaGreat
namespace Go.Proofs.YtbhkenphcahifaaGreat
open Go.RowKit Go.Shelf
attribute [local go_sem] Oper.semAt_some
set_option maxRecDepth 100000
set_option maxHeartbeats 1000000
theorem within_any (x lo hi : Int) (w : World) : Calls Tryz.prog 116 #[.int .i64 x, .int .i64 lo, .int .i64 hi] w fun e w' => e = .returned (.bool (decide (lo ≤ x ∧ x ≤ hi))) ∧ w = w' := by
  by_cases h1 : lo ≤ x
  · by_cases h2 : x ≤ hi
    · have HD : Hid (decide (lo ≤ x ∧ x ≤ hi) = true) := decide_eq_true ⟨h1, h2⟩
      generalize decide (lo ≤ x ∧ x ≤ hi) = r at *
      go_enter Tryz.func116, Tryz.ntmps116
      go_wp2_with fail
      go_ret
      exact ⟨by rw [HD.out]; rfl, rfl⟩
    · have HD : Hid (decide (lo ≤ x ∧ x ≤ hi) = false) := decide_eq_false (fun h => h2 h.2)
      generalize decide (lo ≤ x ∧ x ≤ hi) = r at *
      go_enter Tryz.func116, Tryz.ntmps116
      go_wp2_with fail
      go_ret
      exact ⟨by rw [HD.out]; rfl, rfl⟩
  · have HD : Hid (decide (lo ≤ x ∧ x ≤ hi) = false) := decide_eq_false (fun h => h1 h.1)
    generalize decide (lo ≤ x ∧ x ≤ hi) = r at *
    go_enter Tryz.func116, Tryz.ntmps116
    go_wp2_with fail
    go_ret
    exact ⟨by rw [HD.out]; rfl, rfl⟩
theorem rwithin_any (x lo hi : Int) (w : World) : Calls Tryz.prog 94 #[.int .i64 x, .int .i64 lo, .int .i64 hi] w fun e w' => e = .returned (.bool (decide (lo ≤ x ∧ x ≤ hi))) ∧ w = w' := by
  by_cases h1 : lo ≤ x
  · by_cases h2 : x ≤ hi
    · have HD : Hid (decide (lo ≤ x ∧ x ≤ hi) = true) := decide_eq_true ⟨h1, h2⟩
      generalize decide (lo ≤ x ∧ x ≤ hi) = r at *
      go_enter Tryz.func94, Tryz.ntmps94
      go_wp2_with fail
      go_ret
      exact ⟨by rw [HD.out]; rfl, rfl⟩
    · have HD : Hid (decide (lo ≤ x ∧ x ≤ hi) = false) := decide_eq_false (fun h => h2 h.2)
      generalize decide (lo ≤ x ∧ x ≤ hi) = r at *
      go_enter Tryz.func94, Tryz.ntmps94
      go_wp2_with fail
      go_ret
      exact ⟨by rw [HD.out]; rfl, rfl⟩
  · have HD : Hid (decide (lo ≤ x ∧ x ≤ hi) = false) := decide_eq_false (fun h => h1 h.1)
    generalize decide (lo ≤ x ∧ x ≤ hi) = r at *
    go_enter Tryz.func94, Tryz.ntmps94
    go_wp2_with fail
    go_ret
    exact ⟨by rw [HD.out]; rfl, rfl⟩
theorem pow_small {k n : Nat} (hk : k ≤ 16) (hn : n ≤ 5) : k ^ n ≤ 1048576 := by
  have h1 : k ^ n ≤ 16 ^ n := Nat.pow_le_pow_left hk n
  have h2 : 16 ^ n ≤ 16 ^ 5 := Nat.pow_le_pow_right (by decide) hn
  exact Nat.le_trans h1 (Nat.le_trans h2 (by decide))
theorem power_any (k n : Nat) (hk : k ≤ 16) (hn : n ≤ 5) (w : World) : Calls Tryz.prog 117 #[.int .i64 k, .int .i64 n] w fun e w' => e = .returned (.int .i64 ((k ^ n : Nat) : Int)) ∧ w = w' := by
  have HP : Hid (∀ j, j ≤ n → k ^ j ≤ 1048576) := fun j hj => pow_small hk (by omega)
  have HS : Hid (∀ j, k ^ (j + 1) = k ^ j * k) := fun j => Nat.pow_succ ..
  go_enter Tryz.func117, Tryz.ntmps117
  go_wp2_with fail
  go_loop [5, 7] (fun p i => ∃ j : Nat, j ≤ n ∧ i = .int .i64 j ∧ p = .int .i64 ((k ^ j : Nat) : Int)) (fun _ i => n - (intOf i).toNat)
  case atStart => exact ⟨0, Nat.zero_le _, rfl, by simp⟩
  case round =>
    obtain ⟨j, hj, rfl, rfl⟩ := hrel
    by_cases hlt : j < n
    · have h1 := HP.out j hj
      have h2 := HS.out j
      have h3 := HP.out (j + 1) hlt
      obtain ⟨P2, hP2⟩ : ∃ P2, P2 = k ^ (j + 1) := ⟨_, rfl⟩
      rw [← hP2] at h2 h3
      have HP2 := Lib.hid hP2
      clear hP2
      obtain ⟨P, hP⟩ : ∃ P, P = k ^ j := ⟨_, rfl⟩
      rw [← hP] at h1 h2 ⊢
      clear hP
      have hw : wrap64 ((P : Int) * k) = (P2 : Int) := by
        rw [h2]
        have : ((P * k : Nat) : Int) = (P : Int) * k := by simp
        rw [← this]
        unfold wrap64
        omega
      have HH := Lib.hid h2
      clear h2
      go_wp2_with fail
      go_round
      case rel => exact ⟨j + 1, by omega, by go_num, by rw [← HP2.out, hw]⟩
      case measure => simp [intOf]; omega
    · have hjn : j = n := by omega
      subst hjn
      go_wp2_with fail
      go_ret
      exact ⟨rfl, rfl⟩
end Go.Proofs.YtbhkenphcahifaaGreat
namespace Go.Proofs.YtbhkenphcahifaaGreat
open Go.RowKit Go.Shelf
attribute [local go_sem] Oper.semAt_some
set_option maxRecDepth 100000
set_option maxHeartbeats 4000000
/-- the product of a list -/
def prodI (l : List Int) : Int := l.foldl (· * ·) 1
theorem prodI_snoc (l : List Int) (x : Int) : prodI (l ++ [x]) = prodI l * x := by simp [prodI]
/-- is a torus valid -/
def tOk (l : List Int) (h : Int) : Prop := (1 ≤ (l.length : Int) ∧ (l.length : Int) ≤ 4) ∧ (1 ≤ h ∧ h ≤ 4) ∧ (∀ x ∈ l, 2 ≤ x ∧ x ≤ 16) ∧ prodI l ≤ 256
instance (l : List Int) (h : Int) : Decidable (tOk l h) := by unfold tOk; infer_instance
theorem mul_bound {p x B : Int} (h1 : 1 ≤ p) (h2 : p ≤ B) (h3 : 2 ≤ x) (h4 : x ≤ 16) : 1 ≤ p * x ∧ p * x ≤ B * 16 := by
  constructor
  · have := Int.mul_le_mul h1 (show (1 : Int) ≤ x by omega) (by decide) (by omega)
    omega
  · exact Int.mul_le_mul h2 h4 (by omega) (by omega)
theorem lim16 {k : Nat} (h : k ≤ 4) : (16 : Int) ^ k ≤ 65536 := by
  have : k = 0 ∨ k = 1 ∨ k = 2 ∨ k = 3 ∨ k = 4 := by omega
  rcases this with rfl | rfl | rfl | rfl | rfl <;> decide
theorem put2 {w : World} {b : Nat} {a0 a1 v0 v1 : Value} {t : TypeId} (h : w.heap[b]? = some (.cells #[a0, a1] t (0, 0))) : ((w.setCell ⟨b, 0, none⟩ v0).setCell ⟨b, 1, none⟩ v1).heap[b]? = some (.cells #[v0, v1] t (0, 0)) := by
  have h1 := heap_setCell_same w b 0 _ _ v0 h
  rw [heap_setCell_same _ b 1 _ _ v1 h1]
  rfl
theorem put3 {w : World} {b : Nat} {a0 a1 a2 v0 v1 v2 : Value} {t : TypeId} (h : w.heap[b]? = some (.cells #[a0, a1, a2] t (0, 0))) : (((w.setCell ⟨b, 0, none⟩ v0).setCell ⟨b, 1, none⟩ v1).setCell ⟨b, 2, none⟩ v2).heap[b]? = some (.cells #[v0, v1, v2] t (0, 0)) := by
  have h1 := heap_setCell_same w b 0 _ _ v0 h
  have h2 := heap_setCell_same _ b 1 _ _ v1 h1
  rw [heap_setCell_same _ b 2 _ _ v2 h2]
  rfl
theorem cellR {w : World} {b : Nat} {cs : Array Value} {t : TypeId} {fr : Nat × Nat} {v : Value} (j : Nat) (h : w.heap[b]? = some (.cells cs t fr)) (hv : cs[j]? = some v) : w.cell? ⟨b, j, none⟩ = some v := (cell_of_row w b j _ _ _ h).trans hv
theorem heapB {w w' : World} {b : Nat} {o : Obj} (hb : Below w.heap.size w w') (h : w.heap[b]? = some o) : w'.heap[b]? = some o := (hb.block b (Array.getElem?_eq_some_iff.1 h).1).trans h
theorem kcell {w w' : World} (hb : Below w.heap.size w w') {p : Addr} {v : Value} (h : w.cell? p = some v) : w'.cell? p = some v := (hb.cell (block_lt_of_cell h)).trans h
/-- two new blocks -/
theorem twoN (w : World) (a b : Obj) : Below w.heap.size w ((w.alloc a).alloc b) ∧ ((w.alloc a).alloc b).heap[w.heap.size]? = some a ∧ ((w.alloc a).alloc b).heap[w.heap.size + 1]? = some b ∧ ((w.alloc a).alloc b).heap.size = w.heap.size + 2 := by
  refine ⟨((Below.refl _ _).alloc (Nat.le_refl _) _).alloc (by simp) _, (Below.heap_alloc _ _ _ (by simp)).trans (heap_alloc_new w _), ?_, by simp⟩
  have := heap_alloc_new (w.alloc a) b
  rwa [show (w.alloc a).heap.size = w.heap.size + 1 by simp] at this
theorem info105 : (Tryz.prog.info? 138).map (·.size) = some 2 := by kernel_rfl
theorem torusOf_any {w : World} {sa : Option Addr} {l : List Int} (h : Ints w sa l) (sc : Nat) (kind hosts : Int) :
    Calls Tryz.prog 89 #[.agg #[.int .i64 kind, .slice sa l.length sc, .int .i64 hosts]] w fun e w' => Below w.heap.size w w' ∧ ∃ (a : Option Addr) (n c : Nat) (m : Int), e = .returned (.tuple #[.agg #[.slice a n c, .int .i64 m], .bool (decide (tOk l hosts))]) ∧ (tOk l hosts → a = sa ∧ n = l.length ∧ c = sc ∧ m = prodI l) := by
  have hlen := h.len
  have HL := Lib.hid h
  obtain ⟨N, hN⟩ : ∃ N, N = l.length := ⟨_, rfl⟩
  have HN := Lib.hid hN
  rw [← hN] at hlen ⊢
  obtain ⟨hbx, q0, q1, hz⟩ := twoN w (.cells #[.int .i64 kind, .slice sa N sc, .int .i64 hosts] 24) (.cells #[.slice none 0 0, .int .i64 0] 138)
  have HB := Lib.hid hbx
  have Q0 := Lib.hid q0
  have Q1 := Lib.hid q1
  have HT : Hid (tOk l hosts = ((1 ≤ (N : Int) ∧ (N : Int) ≤ 4) ∧ (1 ≤ hosts ∧ hosts ≤ 4) ∧ (∀ x ∈ l, 2 ≤ x ∧ x ≤ 16) ∧ prodI l ≤ 256)) := by show _ = _; unfold tOk; rw [hN]
  have WI := Lib.hid (fun x lo hi W => within_any x lo hi W)
  clear h hN hbx
  have c1 := cellR 1 q0 rfl
  have c2 := cellR 2 q0 rfl
  have d0 := cellR 0 q1 rfl
  have d1 := cellR 1 q1 rfl
  have f0 := frozen_of_row _ _ 0 _ _ q1
  have f1 := frozen_of_row _ _ 1 _ _ q1
  have l1 := (Array.getElem?_eq_some_iff.1 q1).1
  clear q0 q1
  by_cases g1 : 1 ≤ (N : Int) ∧ (N : Int) ≤ 4
  case neg =>
    have HV : Hid (decide (tOk l hosts) = false ∧ ¬ tOk l hosts) := by
      have : ¬ tOk l hosts := by rw [HT.out]; exact fun h => g1 h.1
      exact ⟨decide_eq_false this, this⟩
    have hd : decide (1 ≤ (N : Int) ∧ (N : Int) ≤ 4) = false := decide_eq_false g1
    have W1 := Lib.hid (fun W => WI.out (N : Int) 1 4 W)
    rw [hd] at W1
    clear WI g1 hd HT
    go_enter Tryz.func89, Tryz.ntmps89
    go_wp2_with fail
    generalize ((w.alloc (.cells #[.int .i64 kind, .slice sa N sc, .int .i64 hosts] 24)).alloc (.cells #[.slice none 0 0, .int .i64 0] 138)) = X at *
    refine (W1.out _).mono ?_
    rintro e w1 ⟨rfl, rfl⟩
    clear W1
    go_wp2_with fail
    have hr := put2 (v0 := .slice none 0 0) (v1 := .int .i64 0) Q1.out
    have hb9 := (HB.out.setCell (p := ⟨w.heap.size + 1, 0, none⟩) (Nat.le_succ _) (.slice none 0 0)).setCell (p := ⟨w.heap.size + 1, 1, none⟩) (Nat.le_succ _) (.int .i64 0)
    refine bodyPost_ret (v := .tuple #[.agg #[.slice none 0 0, .int .i64 0], .bool false]) ?_ rfl ⟨hb9, none, 0, 0, 0, by rw [HV.out.1], fun h => absurd h HV.out.2⟩
    simp [results, Act.put, run_loadVar_row _ _ 138 138 _ _ _ hr Tryz.underlying138 rfl info105, Tryz.results89, asAddr]
  have hd1 : decide (1 ≤ (N : Int) ∧ (N : Int) ≤ 4) = true := decide_eq_true g1
  have W1 := Lib.hid (fun W => WI.out (N : Int) 1 4 W)
  rw [hd1] at W1
  by_cases g2 : 1 ≤ hosts ∧ hosts ≤ 4
  case neg =>
    have HV : Hid (decide (tOk l hosts) = false ∧ ¬ tOk l hosts) := by
      have : ¬ tOk l hosts := by rw [HT.out]; exact fun h => g2 h.2.1
      exact ⟨decide_eq_false this, this⟩
    have hd : decide (1 ≤ hosts ∧ hosts ≤ 4) = false := decide_eq_false g2
    have W2 := Lib.hid (fun W => WI.out hosts 1 4 W)
    rw [hd] at W2
    clear WI g1 g2 hd hd1 HT
    go_enter Tryz.func89, Tryz.ntmps89
    go_wp2_with fail
    generalize ((w.alloc (.cells #[.int .i64 kind, .slice sa N sc, .int .i64 hosts] 24)).alloc (.cells #[.slice none 0 0, .int .i64 0] 138)) = X at *
    refine (W1.out _).mono ?_
    rintro e w1 ⟨rfl, rfl⟩
    clear W1
    go_wp2_with fail
    refine (W2.out _).mono ?_
    rintro e w1 ⟨rfl, rfl⟩
    clear W2
    go_wp2_with fail
    have hr := put2 (v0 := .slice none 0 0) (v1 := .int .i64 0) Q1.out
    have hb9 := (HB.out.setCell (p := ⟨w.heap.size + 1, 0, none⟩) (Nat.le_succ _) (.slice none 0 0)).setCell (p := ⟨w.heap.size + 1, 1, none⟩) (Nat.le_succ _) (.int .i64 0)
    refine bodyPost_ret (v := .tuple #[.agg #[.slice none 0 0, .int .i64 0], .bool false]) ?_ rfl ⟨hb9, none, 0, 0, 0, by rw [HV.out.1], fun h => absurd h HV.out.2⟩
    simp [results, Act.put, run_loadVar_row _ _ 138 138 _ _ _ hr Tryz.underlying138 rfl info105, Tryz.results89, asAddr]
  have hd2 : decide (1 ≤ hosts ∧ hosts ≤ 4) = true := decide_eq_true g2
  have W2 := Lib.hid (fun W => WI.out hosts 1 4 W)
  rw [hd2] at W2
  have G1 := Lib.hid g1
  have G2 := Lib.hid g2
  clear g1 g2 hd1 hd2
  go_enter Tryz.func89, Tryz.ntmps89
  go_wp2_with fail
  generalize ((w.alloc (.cells #[.int .i64 kind, .slice sa N sc, .int .i64 hosts] 24)).alloc (.cells #[.slice none 0 0, .int .i64 0] 138)) = X at *
  refine (W1.out _).mono ?_
  rintro e w1 ⟨rfl, rfl⟩
  clear W1
  go_wp2_with fail
  refine (W2.out _).mono ?_
  rintro e w1 ⟨rfl, rfl⟩
  clear W2
  go_wp2_with fail
  go_loop [4, 22] (fun p i => ∃ (k : Nat) (q : Int), k ≤ N ∧ i = .int .i64 k ∧ p = .int .i64 q ∧ Hid (q = prodI (l.take k)) ∧ 1 ≤ q ∧ Hid (q ≤ 16 ^ k) ∧ Hid (∀ j (hj : j < l.length), j < k → 2 ≤ l[j] ∧ l[j] ≤ 16)) (fun _ i => N - (intOf i).toNat)
  case atStart => exact ⟨0, 1, Nat.zero_le _, rfl, rfl, rfl, by decide, by show (1 : Int) ≤ 16 ^ 0; decide, fun j _ h => by omega⟩
  case round =>
    obtain ⟨k, q, hk, rfl, rfl, HQ, hq1, HQ2, HP⟩ := hrel
    by_cases hlt : k < N
    · have hk1 : k < l.length := by rw [← HN.out]; exact hlt
      obtain ⟨g, o, rfl, hc⟩ := (HL.out.keep HB.out).at_ (ne_nil_of_lt hk1)
      have e0 := hc k hk1
      have HPS : Hid (prodI (l.take (k + 1)) = prodI (l.take k) * l[k]) := by
        show _ = _
        rw [List.take_succ_eq_append_getElem hk1, prodI_snoc]
      have HP2 : Hid (2 ≤ l[k] ∧ l[k] ≤ 16 → ∀ j (hj : j < l.length), j < k + 1 → 2 ≤ l[j] ∧ l[j] ≤ 16) := fun h j hj h2 => by
        by_cases h3 : j < k
        · exact HP.out j hj h3
        · obtain rfl : j = k := by omega
          exact h
      have HNB : Hid (¬ (2 ≤ l[k] ∧ l[k] ≤ 16) → ¬ tOk l hosts) := fun h h2 => by
        rw [HT.out] at h2
        exact h (h2.2.2.1 _ (List.getElem_mem hk1))
      generalize l[k] = x at *
      clear hc hk1 HP
      by_cases hx : 2 ≤ x ∧ x ≤ 16
      · have hd : decide (2 ≤ x ∧ x ≤ 16) = true := decide_eq_true hx
        have W3 := Lib.hid (fun W => WI.out x 2 16 W)
        rw [hd] at W3
        obtain ⟨hm1, hm2⟩ := mul_bound hq1 HQ2.out hx.1 hx.2
        have hl5 := lim16 (show k + 1 ≤ 4 by have := G1.out; omega)
        rw [Int.pow_succ] at hl5
        have hw : wrap64 (q * x) = q * x := by
          generalize q * x = z at *
          generalize (16 : Int) ^ k * 16 = y at *
          unfold wrap64
          omega
        have HQ3 : Hid (q * x = prodI (l.take (k + 1))) := by show _ = _; rw [HPS.out, ← HQ.out]
        have HQ4 : Hid (q * x ≤ 16 ^ (k + 1)) := by show _ ≤ _; rw [Int.pow_succ]; exact hm2
        have HP3 := Lib.hid (HP2.out hx)
        clear hd hx hm2 hl5 HPS HP2 HNB HQ HQ2
        go_wp2_with fail
        refine (W3.out _).mono ?_
        rintro e w1 ⟨rfl, rfl⟩
        clear W3
        go_wp2_with fail
        go_round
        case rel => exact ⟨k + 1, q * x, by omega, by go_num, by rw [hw], HQ3, hm1, HQ4, HP3⟩
        case measure => simp [intOf]; omega
      · have hd : decide (2 ≤ x ∧ x ≤ 16) = false := decide_eq_false hx
        have W3 := Lib.hid (fun W => WI.out x 2 16 W)
        rw [hd] at W3
        have HV : Hid (decide (tOk l hosts) = false ∧ ¬ tOk l hosts) := ⟨decide_eq_false (HNB.out hx), HNB.out hx⟩
        clear hd hx HPS HP2 HNB HQ HQ2 WI
        go_wp2_with fail
        refine (W3.out _).mono ?_
        rintro e w1 ⟨rfl, rfl⟩
        clear W3
        go_wp2_with fail
        have hr := put2 (v0 := .slice none 0 0) (v1 := .int .i64 0) Q1.out
        have hb9 := (HB.out.setCell (p := ⟨w.heap.size + 1, 0, none⟩) (Nat.le_succ _) (.slice none 0 0)).setCell (p := ⟨w.heap.size + 1, 1, none⟩) (Nat.le_succ _) (.int .i64 0)
        refine bodyPost_ret (v := .tuple #[.agg #[.slice none 0 0, .int .i64 0], .bool false]) ?_ rfl ⟨hb9, none, 0, 0, 0, by rw [HV.out.1], fun h => absurd h HV.out.2⟩
        simp [results, Act.put, run_loadVar_row _ _ 138 138 _ _ _ hr Tryz.underlying138 rfl info105, Tryz.results89, asAddr]
    · have hkN : k = N := by omega
      have hall : ∀ x ∈ l, 2 ≤ x ∧ x ≤ 16 := fun x hx => by
        obtain ⟨j, hj, rfl⟩ := List.getElem_of_mem hx
        exact HP.out j hj (by have := HN.out; omega)
      have hqp : q = prodI l := by rw [HQ.out, hkN, HN.out, List.take_length]
      have HD : Hid (decide (q ≤ 256) = decide (tOk l hosts)) := by
        show _ = _
        rw [decide_eq_decide, HT.out, hqp]
        exact ⟨fun h => ⟨G1.out, G2.out, hall, h⟩, fun h => h.2.2.2⟩
      have HQP := Lib.hid hqp
      clear hall hqp HQ HQ2 HP HT
      by_cases h256 : q ≤ 256
      · have hrt : decide (tOk l hosts) = true := by rw [← HD.out]; exact decide_eq_true h256
        have HRT := Lib.hid hrt
        clear hrt
        go_wp2_with fail
        have hr := put2 (v0 := .slice sa N sc) (v1 := .int .i64 q) Q1.out
        have hb9 := (HB.out.setCell (p := ⟨w.heap.size + 1, 0, none⟩) (Nat.le_succ _) (.slice sa N sc)).setCell (p := ⟨w.heap.size + 1, 1, none⟩) (Nat.le_succ _) (.int .i64 q)
        refine bodyPost_ret (v := .tuple #[.agg #[.slice sa N sc, .int .i64 q], .bool true]) ?_ rfl ⟨hb9, sa, N, sc, q, by rw [HRT.out], fun _ => ⟨rfl, rfl, rfl, HQP.out⟩⟩
        simp [results, Act.put, run_loadVar_row _ _ 138 138 _ _ _ hr Tryz.underlying138 rfl info105, Tryz.results89, asAddr]
      · have hrt : decide (tOk l hosts) = false := by rw [← HD.out]; exact decide_eq_false h256
        have HRT := Lib.hid hrt
        clear hrt
        go_wp2_with fail
        have hr := put2 (v0 := .slice sa N sc) (v1 := .int .i64 q) Q1.out
        have hb9 := (HB.out.setCell (p := ⟨w.heap.size + 1, 0, none⟩) (Nat.le_succ _) (.slice sa N sc)).setCell (p := ⟨w.heap.size + 1, 1, none⟩) (Nat.le_succ _) (.int .i64 q)
        refine bodyPost_ret (v := .tuple #[.agg #[.slice sa N sc, .int .i64 q], .bool false]) ?_ rfl ⟨hb9, sa, N, sc, q, by rw [HRT.out], fun _ => ⟨rfl, rfl, rfl, HQP.out⟩⟩
        simp [results, Act.put, run_loadVar_row _ _ 138 138 _ _ _ hr Tryz.underlying138 rfl info105, Tryz.results89, asAddr]
end Go.Proofs.YtbhkenphcahifaaGreat
namespace Go.Proofs.YtbhkenphcahifaaGreat
open Go.RowKit Go.Shelf
attribute [local go_sem] Oper.semAt_some
set_option maxRecDepth 100000
set_option maxHeartbeats 4000000
theorem below_drewN {B : Nat} {a w : World} (h : Below B a w) (n : Nat) : Below B a (w.drewN n) := h.trans ⟨rfl, rfl, rfl, Nat.le_refl _, fun _ _ => rfl⟩
theorem info109 : (Tryz.prog.info? 142).map (·.size) = some 3 := by kernel_rfl
theorem info113 : (Tryz.prog.info? 146).map (·.size) = some 3 := by kernel_rfl
/-- is a tree valid -/
def rOk (l : List Int) (h : Int) : Prop := l.length = 2 ∧ (2 ≤ l.getD 0 0 ∧ l.getD 0 0 ≤ 8) ∧ (1 ≤ l.getD 1 0 ∧ l.getD 1 0 ≤ 4) ∧ (l.getD 0 0).toNat ^ (l.getD 1 0).toNat ≤ 256 ∧ h = l.getD 0 0
instance (l : List Int) (h : Int) : Decidable (rOk l h) := by unfold rOk; infer_instance
/-- how many words a level of a tree has -/
def wordsI (l : List Int) : Int := ((l.getD 0 0).toNat ^ ((l.getD 1 0).toNat - 1) : Nat)
/-- is a dragonfly valid -/
def dOk (l : List Int) (h : Int) : Prop := l.length = 2 ∧ (1 ≤ h ∧ h ≤ 4) ∧ (1 ≤ l.getD 0 0 ∧ l.getD 0 0 ≤ 16) ∧ (1 ≤ l.getD 1 0 ∧ l.getD 1 0 ≤ 4) ∧ l.getD 0 0 * (l.getD 0 0 * l.getD 1 0 + 1) ≤ 256
instance (l : List Int) (h : Int) : Decidable (dOk l h) := by unfold dOk; infer_instance
theorem drag_bound {a h : Int} (h1 : 1 ≤ a) (h2 : a ≤ 16) (h3 : 1 ≤ h) (h4 : h ≤ 4) : 1 ≤ a * h ∧ a * h ≤ 64 ∧ 1 ≤ a * (a * h + 1) ∧ a * (a * h + 1) ≤ 1040 := by
  have e1 := Int.mul_le_mul h1 h3 (by decide) (by omega)
  have e2 := Int.mul_le_mul h2 h4 (by omega) (by decide)
  have e3 := Int.mul_le_mul h1 (show (1 : Int) ≤ a * h + 1 by omega) (by decide) (by omega)
  have e4 := Int.mul_le_mul h2 (show a * h + 1 ≤ 65 by omega) (by omega) (by decide)
  omega
theorem two_of {l : List Int} (h : l.length = 2) : ∃ a b, l = [a, b] := by
  match l, h with
  | [a, b], _ => exact ⟨a, b, rfl⟩
theorem treeOf_any {w : World} {sa : Option Addr} {l : List Int} (h : Ints w sa l) (sc : Nat) (kind hosts : Int) :
    Calls Tryz.prog 90 #[.agg #[.int .i64 kind, .slice sa l.length sc, .int .i64 hosts]] w fun e w' => Below w.heap.size w w' ∧ ∃ a b c : Int, e = .returned (.tuple #[.agg #[.int .i64 a, .int .i64 b, .int .i64 c], .bool (decide (rOk l hosts))]) ∧ (rOk l hosts → a = l.getD 0 0 ∧ b = l.getD 1 0 ∧ c = wordsI l) := by
  have hlen := h.len
  have HL := Lib.hid h
  obtain ⟨N, hN⟩ : ∃ N, N = l.length := ⟨_, rfl⟩
  have HN := Lib.hid hN
  rw [← hN] at hlen ⊢
  obtain ⟨hbx, q0, q1, hz⟩ := twoN w (.cells #[.int .i64 kind, .slice sa N sc, .int .i64 hosts] 24) (.cells #[.int .i64 0, .int .i64 0, .int .i64 0] 142)
  have HB := Lib.hid hbx
  have Q0 := Lib.hid q0
  have Q1 := Lib.hid q1
  have WI := Lib.hid (fun x lo hi W => within_any x lo hi W)
  have PW := Lib.hid (fun k n (hk : k ≤ 16) (hn : n ≤ 5) W => power_any k n hk hn W)
  clear h hN hbx
  have c1 := cellR 1 q0 rfl
  have c2 := cellR 2 q0 rfl
  have d0 := cellR 0 q1 rfl
  have d1 := cellR 1 q1 rfl
  have d2 := cellR 2 q1 rfl
  have f0 := frozen_of_row _ _ 0 _ _ q1
  have f1 := frozen_of_row _ _ 1 _ _ q1
  have f2 := frozen_of_row _ _ 2 _ _ q1
  have l1 := (Array.getElem?_eq_some_iff.1 q1).1
  clear q0 q1
  by_cases hl2 : N = 2
  case neg =>
    have HV : Hid (decide (rOk l hosts) = false ∧ ¬ rOk l hosts) := by
      have : ¬ rOk l hosts := by unfold rOk; intro h; exact hl2 (by rw [HN.out]; exact h.1)
      exact ⟨decide_eq_false this, this⟩
    have hni : ((N : Int) != 2) = true := by rw [bne_iff_ne]; omega
    clear hl2
    go_enter Tryz.func90, Tryz.ntmps90
    have hX : True := trivial
    go_wp2_with fail
    refine bodyPost_ret (v := .tuple #[.agg #[.int .i64 0, .int .i64 0, .int .i64 0], .bool false]) ?_ rfl ⟨HB.out, 0, 0, 0, by rw [HV.out.1], fun h => absurd h HV.out.2⟩
    simp [results, Act.put, run_loadVar_row _ _ 142 142 _ _ _ Q1.out Tryz.underlying142 rfl info109, Tryz.results90, asAddr]
  subst hl2
  obtain ⟨k, lv, rfl⟩ := two_of HN.out.symm
  obtain ⟨g, o, rfl, hc⟩ := (HL.out.keep HB.out).at_ (by simp)
  have e0 := hc 0 (by simp)
  have e1 := hc 1 (by simp)
  rw [Nat.add_zero] at e0
  simp only [List.getElem_cons_zero, List.getElem_cons_succ] at e0 e1
  clear hc HL
  by_cases hW1 : 2 ≤ k ∧ k ≤ 8
  case neg =>
    have HV : Hid (decide (rOk [k, lv] hosts) = false ∧ ¬ rOk [k, lv] hosts) := by
      have : ¬ rOk [k, lv] hosts := by unfold rOk; intro h; exact hW1 h.2.1
      exact ⟨decide_eq_false this, this⟩
    have W1 := Lib.hid (fun W => WI.out k 2 8 W)
    rw [show decide (2 ≤ k ∧ k ≤ 8) = false from decide_eq_false hW1] at W1
    clear hW1 WI PW
    go_enter Tryz.func90, Tryz.ntmps90
    go_wp2_with fail
    generalize (w.alloc (.cells #[.int .i64 kind, .slice (some ⟨g, o, none⟩) 2 sc, .int .i64 hosts] 24)).alloc (.cells #[.int .i64 0, .int .i64 0, .int .i64 0] 142) = X at *
    go_quiet (fail)
    have HB2 := Lib.hid (below_drewN HB.out nq)
    have Q2 : Hid ((X.drewN nq).heap[w.heap.size + 1]? = some (.cells #[.int .i64 0, .int .i64 0, .int .i64 0] 142 (0, 0))) := Q1.out
    have Q3 : Hid ((X.drewN nq).heap[w.heap.size]? = some (.cells #[.int .i64 kind, .slice (some ⟨g, o, none⟩) 2 sc, .int .i64 hosts] 24 (0, 0))) := Q0.out
    generalize X.drewN nq = Y at *
    clear c1 c2 d0 d1 d2 f0 f1 f2 l1 e0 e1
    have c2 := cellR 2 Q3.out rfl
    have d0 := cellR 0 Q2.out rfl
    have d1 := cellR 1 Q2.out rfl
    have d2 := cellR 2 Q2.out rfl
    have f0 := frozen_of_row _ _ 0 _ _ Q2.out
    have f1 := frozen_of_row _ _ 1 _ _ Q2.out
    have f2 := frozen_of_row _ _ 2 _ _ Q2.out
    have l1 := (Array.getElem?_eq_some_iff.1 Q2.out).1
    go_wp2_with fail
    refine (W1.out _).mono ?_
    rintro e w1 ⟨rfl, rfl⟩
    clear W1
    go_wp2_with fail
    have hr := put3 (v0 := .int .i64 0) (v1 := .int .i64 0) (v2 := .int .i64 0) Q2.out
    have hb9 := ((HB2.out.setCell (p := ⟨w.heap.size + 1, 0, none⟩) (Nat.le_succ _) (.int .i64 0)).setCell (p := ⟨w.heap.size + 1, 1, none⟩) (Nat.le_succ _) (.int .i64 0)).setCell (p := ⟨w.heap.size + 1, 2, none⟩) (Nat.le_succ _) (.int .i64 0)
    refine bodyPost_ret (v := .tuple #[.agg #[.int .i64 0, .int .i64 0, .int .i64 0], .bool false]) ?_ rfl ⟨hb9, 0, 0, 0, by rw [HV.out.1], fun h => absurd h HV.out.2⟩
    simp [results, Act.put, run_loadVar_row _ _ 142 142 _ _ _ hr Tryz.underlying142 rfl info109, Tryz.results90, asAddr]
  have W1 := Lib.hid (fun W => WI.out k 2 8 W)
  rw [show decide (2 ≤ k ∧ k ≤ 8) = true from decide_eq_true hW1] at W1
  by_cases hW2 : 1 ≤ lv ∧ lv ≤ 4
  case neg =>
    have HV : Hid (decide (rOk [k, lv] hosts) = false ∧ ¬ rOk [k, lv] hosts) := by
      have : ¬ rOk [k, lv] hosts := by unfold rOk; intro h; exact hW2 h.2.2.1
      exact ⟨decide_eq_false this, this⟩
    have W2 := Lib.hid (fun W => WI.out lv 1 4 W)
    rw [show decide (1 ≤ lv ∧ lv ≤ 4) = false from decide_eq_false hW2] at W2
    clear hW1 hW2 WI PW
    go_enter Tryz.func90, Tryz.ntmps90
    go_wp2_with fail
    generalize (w.alloc (.cells #[.int .i64 kind, .slice (some ⟨g, o, none⟩) 2 sc, .int .i64 hosts] 24)).alloc (.cells #[.int .i64 0, .int .i64 0, .int .i64 0] 142) = X at *
    go_quiet (fail)
    have HB2 := Lib.hid (below_drewN HB.out nq)
    have Q2 : Hid ((X.drewN nq).heap[w.heap.size + 1]? = some (.cells #[.int .i64 0, .int .i64 0, .int .i64 0] 142 (0, 0))) := Q1.out
    have Q3 : Hid ((X.drewN nq).heap[w.heap.size]? = some (.cells #[.int .i64 kind, .slice (some ⟨g, o, none⟩) 2 sc, .int .i64 hosts] 24 (0, 0))) := Q0.out
    generalize X.drewN nq = Y at *
    clear c1 c2 d0 d1 d2 f0 f1 f2 l1 e0 e1
    have c2 := cellR 2 Q3.out rfl
    have d0 := cellR 0 Q2.out rfl
    have d1 := cellR 1 Q2.out rfl
    have d2 := cellR 2 Q2.out rfl
    have f0 := frozen_of_row _ _ 0 _ _ Q2.out
    have f1 := frozen_of_row _ _ 1 _ _ Q2.out
    have f2 := frozen_of_row _ _ 2 _ _ Q2.out
    have l1 := (Array.getElem?_eq_some_iff.1 Q2.out).1
    go_wp2_with fail
    refine (W1.out _).mono ?_
    rintro e w1 ⟨rfl, rfl⟩
    clear W1
    go_wp2_with fail
    refine (W2.out _).mono ?_
    rintro e w1 ⟨rfl, rfl⟩
    clear W2
    go_wp2_with fail
    have hr := put3 (v0 := .int .i64 0) (v1 := .int .i64 0) (v2 := .int .i64 0) Q2.out
    have hb9 := ((HB2.out.setCell (p := ⟨w.heap.size + 1, 0, none⟩) (Nat.le_succ _) (.int .i64 0)).setCell (p := ⟨w.heap.size + 1, 1, none⟩) (Nat.le_succ _) (.int .i64 0)).setCell (p := ⟨w.heap.size + 1, 2, none⟩) (Nat.le_succ _) (.int .i64 0)
    refine bodyPost_ret (v := .tuple #[.agg #[.int .i64 0, .int .i64 0, .int .i64 0], .bool false]) ?_ rfl ⟨hb9, 0, 0, 0, by rw [HV.out.1], fun h => absurd h HV.out.2⟩
    simp [results, Act.put, run_loadVar_row _ _ 142 142 _ _ _ hr Tryz.underlying142 rfl info109, Tryz.results90, asAddr]
  have W2 := Lib.hid (fun W => WI.out lv 1 4 W)
  rw [show decide (1 ≤ lv ∧ lv ≤ 4) = true from decide_eq_true hW2] at W2
  obtain ⟨kn, rfl⟩ := Int.eq_ofNat_of_zero_le (show 0 ≤ k by omega)
  obtain ⟨ln, rfl⟩ := Int.eq_ofNat_of_zero_le (show 0 ≤ lv by omega)
  have W3 := Lib.hid (fun W => PW.out kn ln (by omega) (by omega) W)
  have W4 := Lib.hid (fun W => PW.out kn (ln - 1) (by omega) (by omega) W)
  have hps := pow_small (k := kn) (n := ln) (by omega) (by omega)
  have hG := Lib.hid (And.intro hW1 hW2)
  have HWD : Hid (wordsI [(kn : Int), (ln : Int)] = ((kn ^ (ln - 1) : Nat) : Int)) := rfl
  have hli : ((ln - 1 : Nat) : Int) = (ln : Int) - 1 := by omega
  rw [hli] at W4
  have HRK : Hid (rOk [(kn : Int), (ln : Int)] hosts ↔ (kn ^ ln ≤ 256 ∧ hosts = kn)) := by
    show _ ↔ _
    unfold rOk
    simp only [List.length_cons, List.length_nil, List.getD_cons_zero, List.getD_cons_succ, Int.toNat_natCast]
    exact ⟨fun h => ⟨h.2.2.2.1, h.2.2.2.2⟩, fun h => ⟨by trivial, hW1, hW2, h.1, h.2⟩⟩
  obtain ⟨pw, hpw⟩ : ∃ pw, pw = kn ^ ln := ⟨_, rfl⟩
  rw [← hpw] at W3 HRK hps
  obtain ⟨pv, hpv⟩ : ∃ pv, pv = kn ^ (ln - 1) := ⟨_, rfl⟩
  rw [← hpv] at W4 HWD
  clear hpw hpv hW1 hW2 WI PW hli
  by_cases h256 : 256 < pw
  case pos =>
    have HV : Hid (decide (rOk [(kn : Int), (ln : Int)] hosts) = false ∧ ¬ rOk [(kn : Int), (ln : Int)] hosts) := by
      have : ¬ rOk [(kn : Int), (ln : Int)] hosts := fun h => by have := (HRK.out.1 h).1; omega
      exact ⟨decide_eq_false this, this⟩
    have h256i : (256 : Int) < pw := by omega
    clear HRK
    go_enter Tryz.func90, Tryz.ntmps90
    go_wp2_with fail
    generalize (w.alloc (.cells #[.int .i64 kind, .slice (some ⟨g, o, none⟩) 2 sc, .int .i64 hosts] 24)).alloc (.cells #[.int .i64 0, .int .i64 0, .int .i64 0] 142) = X at *
    go_quiet (fail)
    have HB2 := Lib.hid (below_drewN HB.out nq)
    have Q2 : Hid ((X.drewN nq).heap[w.heap.size + 1]? = some (.cells #[.int .i64 0, .int .i64 0, .int .i64 0] 142 (0, 0))) := Q1.out
    have Q3 : Hid ((X.drewN nq).heap[w.heap.size]? = some (.cells #[.int .i64 kind, .slice (some ⟨g, o, none⟩) 2 sc, .int .i64 hosts] 24 (0, 0))) := Q0.out
    generalize X.drewN nq = Y at *
    clear c1 c2 d0 d1 d2 f0 f1 f2 l1 e0 e1
    have c2 := cellR 2 Q3.out rfl
    have d0 := cellR 0 Q2.out rfl
    have d1 := cellR 1 Q2.out rfl
    have d2 := cellR 2 Q2.out rfl
    have f0 := frozen_of_row _ _ 0 _ _ Q2.out
    have f1 := frozen_of_row _ _ 1 _ _ Q2.out
    have f2 := frozen_of_row _ _ 2 _ _ Q2.out
    have l1 := (Array.getElem?_eq_some_iff.1 Q2.out).1
    go_wp2_with fail
    refine (W1.out _).mono ?_
    rintro e w1 ⟨rfl, rfl⟩
    clear W1
    go_wp2_with fail
    refine (W2.out _).mono ?_
    rintro e w1 ⟨rfl, rfl⟩
    clear W2
    go_wp2_with fail
    refine (W3.out _).mono ?_
    rintro e w1 ⟨rfl, rfl⟩
    clear W3
    go_wp2_with fail
    have hr := put3 (v0 := .int .i64 0) (v1 := .int .i64 0) (v2 := .int .i64 0) Q2.out
    have hb9 := ((HB2.out.setCell (p := ⟨w.heap.size + 1, 0, none⟩) (Nat.le_succ _) (.int .i64 0)).setCell (p := ⟨w.heap.size + 1, 1, none⟩) (Nat.le_succ _) (.int .i64 0)).setCell (p := ⟨w.heap.size + 1, 2, none⟩) (Nat.le_succ _) (.int .i64 0)
    refine bodyPost_ret (v := .tuple #[.agg #[.int .i64 0, .int .i64 0, .int .i64 0], .bool false]) ?_ rfl ⟨hb9, 0, 0, 0, by rw [HV.out.1], fun h => absurd h HV.out.2⟩
    simp [results, Act.put, run_loadVar_row _ _ 142 142 _ _ _ hr Tryz.underlying142 rfl info109, Tryz.results90, asAddr]
  have h256i : ¬ (256 : Int) < pw := by omega
  by_cases hho : hosts = kn
  case neg =>
    have HV : Hid (decide (rOk [(kn : Int), (ln : Int)] hosts) = false ∧ ¬ rOk [(kn : Int), (ln : Int)] hosts) := by
      have : ¬ rOk [(kn : Int), (ln : Int)] hosts := fun h => hho (HRK.out.1 h).2
      exact ⟨decide_eq_false this, this⟩
    have hhn : (hosts != (kn : Int)) = true := bne_iff_ne.2 hho
    clear HRK hho
    go_enter Tryz.func90, Tryz.ntmps90
    go_wp2_with fail
    generalize (w.alloc (.cells #[.int .i64 kind, .slice (some ⟨g, o, none⟩) 2 sc, .int .i64 hosts] 24)).alloc (.cells #[.int .i64 0, .int .i64 0, .int .i64 0] 142) = X at *
    go_quiet (fail)
    have HB2 := Lib.hid (below_drewN HB.out nq)
    have Q2 : Hid ((X.drewN nq).heap[w.heap.size + 1]? = some (.cells #[.int .i64 0, .int .i64 0, .int .i64 0] 142 (0, 0))) := Q1.out
    have Q3 : Hid ((X.drewN nq).heap[w.heap.size]? = some (.cells #[.int .i64 kind, .slice (some ⟨g, o, none⟩) 2 sc, .int .i64 hosts] 24 (0, 0))) := Q0.out
    generalize X.drewN nq = Y at *
    clear c1 c2 d0 d1 d2 f0 f1 f2 l1 e0 e1
    have c2 := cellR 2 Q3.out rfl
    have d0 := cellR 0 Q2.out rfl
    have d1 := cellR 1 Q2.out rfl
    have d2 := cellR 2 Q2.out rfl
    have f0 := frozen_of_row _ _ 0 _ _ Q2.out
    have f1 := frozen_of_row _ _ 1 _ _ Q2.out
    have f2 := frozen_of_row _ _ 2 _ _ Q2.out
    have l1 := (Array.getElem?_eq_some_iff.1 Q2.out).1
    go_wp2_with fail
    refine (W1.out _).mono ?_
    rintro e w1 ⟨rfl, rfl⟩
    clear W1
    go_wp2_with fail
    refine (W2.out _).mono ?_
    rintro e w1 ⟨rfl, rfl⟩
    clear W2
    go_wp2_with fail
    refine (W3.out _).mono ?_
    rintro e w1 ⟨rfl, rfl⟩
    clear W3
    go_wp2_with fail
    have hr := put3 (v0 := .int .i64 0) (v1 := .int .i64 0) (v2 := .int .i64 0) Q2.out
    have hb9 := ((HB2.out.setCell (p := ⟨w.heap.size + 1, 0, none⟩) (Nat.le_succ _) (.int .i64 0)).setCell (p := ⟨w.heap.size + 1, 1, none⟩) (Nat.le_succ _) (.int .i64 0)).setCell (p := ⟨w.heap.size + 1, 2, none⟩) (Nat.le_succ _) (.int .i64 0)
    refine bodyPost_ret (v := .tuple #[.agg #[.int .i64 0, .int .i64 0, .int .i64 0], .bool false]) ?_ rfl ⟨hb9, 0, 0, 0, by rw [HV.out.1], fun h => absurd h HV.out.2⟩
    simp [results, Act.put, run_loadVar_row _ _ 142 142 _ _ _ hr Tryz.underlying142 rfl info109, Tryz.results90, asAddr]
  have HV : Hid (decide (rOk [(kn : Int), (ln : Int)] hosts) = true ∧ True) := ⟨decide_eq_true (HRK.out.2 ⟨by omega, hho⟩), trivial⟩
  have hhn : (hosts != (kn : Int)) = false := by simp [hho]
  clear HRK hho
  have hlw : wrap64 ((ln : Int) - 1) = (ln : Int) - 1 := by have := hG.out.2; unfold wrap64; omega
  go_enter Tryz.func90, Tryz.ntmps90
  go_wp2_with fail
  generalize (w.alloc (.cells #[.int .i64 kind, .slice (some ⟨g, o, none⟩) 2 sc, .int .i64 hosts] 24)).alloc (.cells #[.int .i64 0, .int .i64 0, .int .i64 0] 142) = X at *
  go_quiet (fail)
  have HB2 := Lib.hid (below_drewN HB.out nq)
  have Q2 : Hid ((X.drewN nq).heap[w.heap.size + 1]? = some (.cells #[.int .i64 0, .int .i64 0, .int .i64 0] 142 (0, 0))) := Q1.out
  have Q3 : Hid ((X.drewN nq).heap[w.heap.size]? = some (.cells #[.int .i64 kind, .slice (some ⟨g, o, none⟩) 2 sc, .int .i64 hosts] 24 (0, 0))) := Q0.out
  generalize X.drewN nq = Y at *
  clear c1 c2 d0 d1 d2 f0 f1 f2 l1 e0 e1
  have c2 := cellR 2 Q3.out rfl
  have d0 := cellR 0 Q2.out rfl
  have d1 := cellR 1 Q2.out rfl
  have d2 := cellR 2 Q2.out rfl
  have f0 := frozen_of_row _ _ 0 _ _ Q2.out
  have f1 := frozen_of_row _ _ 1 _ _ Q2.out
  have f2 := frozen_of_row _ _ 2 _ _ Q2.out
  have l1 := (Array.getElem?_eq_some_iff.1 Q2.out).1
  go_wp2_with fail
  refine (W1.out _).mono ?_
  rintro e w1 ⟨rfl, rfl⟩
  clear W1
  go_wp2_with fail
  refine (W2.out _).mono ?_
  rintro e w1 ⟨rfl, rfl⟩
  clear W2
  go_wp2_with fail
  refine (W3.out _).mono ?_
  rintro e w1 ⟨rfl, rfl⟩
  clear W3
  go_wp2_with fail
  refine (W4.out _).mono ?_
  rintro e w1 ⟨rfl, rfl⟩
  clear W4
  go_wp2_with fail
  have hr := put3 (v0 := .int .i64 (kn : Int)) (v1 := .int .i64 (ln : Int)) (v2 := .int .i64 (pv : Int)) Q2.out
  have hb9 := ((HB2.out.setCell (p := ⟨w.heap.size + 1, 0, none⟩) (Nat.le_succ _) (.int .i64 (kn : Int))).setCell (p := ⟨w.heap.size + 1, 1, none⟩) (Nat.le_succ _) (.int .i64 (ln : Int))).setCell (p := ⟨w.heap.size + 1, 2, none⟩) (Nat.le_succ _) (.int .i64 (pv : Int))
  refine bodyPost_ret (v := .tuple #[.agg #[.int .i64 (kn : Int), .int .i64 (ln : Int), .int .i64 (pv : Int)], .bool true]) ?_ rfl ⟨hb9, (kn : Int), (ln : Int), (pv : Int), by rw [HV.out.1], fun _ => ⟨rfl, rfl, HWD.out.symm⟩⟩
  simp [results, Act.put, run_loadVar_row _ _ 142 142 _ _ _ hr Tryz.underlying142 rfl info109, Tryz.results90, asAddr]
theorem dragonflyOf_any {w : World} {sa : Option Addr} {l : List Int} (h : Ints w sa l) (sc : Nat) (kind hosts : Int) :
    Calls Tryz.prog 91 #[.agg #[.int .i64 kind, .slice sa l.length sc, .int .i64 hosts]] w fun e w' => Below w.heap.size w w' ∧ ∃ a b c : Int, e = .returned (.tuple #[.agg #[.int .i64 a, .int .i64 b, .int .i64 c], .bool (decide (dOk l hosts))]) ∧ (dOk l hosts → a = l.getD 0 0 ∧ b = l.getD 1 0 ∧ c = l.getD 0 0 * l.getD 1 0 + 1) := by
  have hlen := h.len
  have HL := Lib.hid h
  obtain ⟨N, hN⟩ : ∃ N, N = l.length := ⟨_, rfl⟩
  have HN := Lib.hid hN
  rw [← hN] at hlen ⊢
  obtain ⟨hbx, q0, q1, hz⟩ := twoN w (.cells #[.int .i64 kind, .slice sa N sc, .int .i64 hosts] 24) (.cells #[.int .i64 0, .int .i64 0, .int .i64 0] 146)
  have HB := Lib.hid hbx
  have Q0 := Lib.hid q0
  have Q1 := Lib.hid q1
  have WI := Lib.hid (fun x lo hi W => within_any x lo hi W)
  have PW := Lib.hid (fun k n (hk : k ≤ 16) (hn : n ≤ 5) W => power_any k n hk hn W)
  clear h hN hbx
  have c1 := cellR 1 q0 rfl
  have c2 := cellR 2 q0 rfl
  have d0 := cellR 0 q1 rfl
  have d1 := cellR 1 q1 rfl
  have d2 := cellR 2 q1 rfl
  have f0 := frozen_of_row _ _ 0 _ _ q1
  have f1 := frozen_of_row _ _ 1 _ _ q1
  have f2 := frozen_of_row _ _ 2 _ _ q1
  have l1 := (Array.getElem?_eq_some_iff.1 q1).1
  clear q0 q1
  clear PW
  by_cases hl2 : N = 2
  case neg =>
    have HV : Hid (decide (dOk l hosts) = false ∧ ¬ dOk l hosts) := by
      have : ¬ dOk l hosts := by unfold dOk; intro h; exact hl2 (by rw [HN.out]; exact h.1)
      exact ⟨decide_eq_false this, this⟩
    have hni : ((N : Int) != 2) = true := by rw [bne_iff_ne]; omega
    clear hl2
    go_enter Tryz.func91, Tryz.ntmps91
    go_wp2_with fail
    refine bodyPost_ret (v := .tuple #[.agg #[.int .i64 0, .int .i64 0, .int .i64 0], .bool false]) ?_ rfl ⟨HB.out, 0, 0, 0, by rw [HV.out.1], fun h => absurd h HV.out.2⟩
    simp [results, Act.put, run_loadVar_row _ _ 146 146 _ _ _ Q1.out Tryz.underlying146 rfl info113, Tryz.results91, asAddr]
  subst hl2
  obtain ⟨k, lv, rfl⟩ := two_of HN.out.symm
  obtain ⟨g, o, rfl, hc⟩ := (HL.out.keep HB.out).at_ (by simp)
  have e0 := hc 0 (by simp)
  have e1 := hc 1 (by simp)
  rw [Nat.add_zero] at e0
  simp only [List.getElem_cons_zero, List.getElem_cons_succ] at e0 e1
  clear hc HL
  by_cases hW0 : 1 ≤ hosts ∧ hosts ≤ 4
  case neg =>
    have HV : Hid (decide (dOk [k, lv] hosts) = false ∧ ¬ dOk [k, lv] hosts) := by
      have : ¬ dOk [k, lv] hosts := by unfold dOk; intro h; exact hW0 h.2.1
      exact ⟨decide_eq_false this, this⟩
    have W0 := Lib.hid (fun W => WI.out hosts 1 4 W)
    rw [show decide (1 ≤ hosts ∧ hosts ≤ 4) = false from decide_eq_false hW0] at W0
    clear hW0 WI
    go_enter Tryz.func91, Tryz.ntmps91
    go_wp2_with fail
    generalize (w.alloc (.cells #[.int .i64 kind, .slice (some ⟨g, o, none⟩) 2 sc, .int .i64 hosts] 24)).alloc (.cells #[.int .i64 0, .int .i64 0, .int .i64 0] 146) = X at *
    refine (W0.out _).mono ?_
    rintro e w1 ⟨rfl, rfl⟩
    clear W0
    go_wp2_with fail
    have hr := put3 (v0 := .int .i64 0) (v1 := .int .i64 0) (v2 := .int .i64 0) Q1.out
    have hb9 := ((HB.out.setCell (p := ⟨w.heap.size + 1, 0, none⟩) (Nat.le_succ _) (.int .i64 0)).setCell (p := ⟨w.heap.size + 1, 1, none⟩) (Nat.le_succ _) (.int .i64 0)).setCell (p := ⟨w.heap.size + 1, 2, none⟩) (Nat.le_succ _) (.int .i64 0)
    refine bodyPost_ret (v := .tuple #[.agg #[.int .i64 0, .int .i64 0, .int .i64 0], .bool false]) ?_ rfl ⟨hb9, 0, 0, 0, by rw [HV.out.1], fun h => absurd h HV.out.2⟩
    simp [results, Act.put, run_loadVar_row _ _ 146 146 _ _ _ hr Tryz.underlying146 rfl info113, Tryz.results91, asAddr]
  have W0 := Lib.hid (fun W => WI.out hosts 1 4 W)
  rw [show decide (1 ≤ hosts ∧ hosts ≤ 4) = true from decide_eq_true hW0] at W0
  by_cases hW1 : 1 ≤ k ∧ k ≤ 16
  case neg =>
    have HV : Hid (decide (dOk [k, lv] hosts) = false ∧ ¬ dOk [k, lv] hosts) := by
      have : ¬ dOk [k, lv] hosts := by unfold dOk; intro h; exact hW1 h.2.2.1
      exact ⟨decide_eq_false this, this⟩
    have W1 := Lib.hid (fun W => WI.out k 1 16 W)
    rw [show decide (1 ≤ k ∧ k ≤ 16) = false from decide_eq_false hW1] at W1
    clear hW0 hW1 WI
    go_enter Tryz.func91, Tryz.ntmps91
    go_wp2_with fail
    generalize (w.alloc (.cells #[.int .i64 kind, .slice (some ⟨g, o, none⟩) 2 sc, .int .i64 hosts] 24)).alloc (.cells #[.int .i64 0, .int .i64 0, .int .i64 0] 146) = X at *
    refine (W0.out _).mono ?_
    rintro e w1 ⟨rfl, rfl⟩
    clear W0
    go_wp2_with fail
    go_quiet (fail)
    have HB2 := Lib.hid (below_drewN HB.out nq)
    have Q2 : Hid ((X.drewN nq).heap[w.heap.size + 1]? = some (.cells #[.int .i64 0, .int .i64 0, .int .i64 0] 146 (0, 0))) := Q1.out
    have Q3 : Hid ((X.drewN nq).heap[w.heap.size]? = some (.cells #[.int .i64 kind, .slice (some ⟨g, o, none⟩) 2 sc, .int .i64 hosts] 24 (0, 0))) := Q0.out
    generalize X.drewN nq = Y at *
    clear c1 c2 d0 d1 d2 f0 f1 f2 l1 e0 e1
    have c2 := cellR 2 Q3.out rfl
    have d0 := cellR 0 Q2.out rfl
    have d1 := cellR 1 Q2.out rfl
    have d2 := cellR 2 Q2.out rfl
    have f0 := frozen_of_row _ _ 0 _ _ Q2.out
    have f1 := frozen_of_row _ _ 1 _ _ Q2.out
    have f2 := frozen_of_row _ _ 2 _ _ Q2.out
    have l1 := (Array.getElem?_eq_some_iff.1 Q2.out).1
    go_wp2_with fail
    refine (W1.out _).mono ?_
    rintro e w1 ⟨rfl, rfl⟩
    clear W1
    go_wp2_with fail
    have hr := put3 (v0 := .int .i64 0) (v1 := .int .i64 0) (v2 := .int .i64 0) Q2.out
    have hb9 := ((HB2.out.setCell (p := ⟨w.heap.size + 1, 0, none⟩) (Nat.le_succ _) (.int .i64 0)).setCell (p := ⟨w.heap.size + 1, 1, none⟩) (Nat.le_succ _) (.int .i64 0)).setCell (p := ⟨w.heap.size + 1, 2, none⟩) (Nat.le_succ _) (.int .i64 0)
    refine bodyPost_ret (v := .tuple #[.agg #[.int .i64 0, .int .i64 0, .int .i64 0], .bool false]) ?_ rfl ⟨hb9, 0, 0, 0, by rw [HV.out.1], fun h => absurd h HV.out.2⟩
    simp [results, Act.put, run_loadVar_row _ _ 146 146 _ _ _ hr Tryz.underlying146 rfl info113, Tryz.results91, asAddr]
  have W1 := Lib.hid (fun W => WI.out k 1 16 W)
  rw [show decide (1 ≤ k ∧ k ≤ 16) = true from decide_eq_true hW1] at W1
  by_cases hW2 : 1 ≤ lv ∧ lv ≤ 4
  case neg =>
    have HV : Hid (decide (dOk [k, lv] hosts) = false ∧ ¬ dOk [k, lv] hosts) := by
      have : ¬ dOk [k, lv] hosts := by unfold dOk; intro h; exact hW2 h.2.2.2.1
      exact ⟨decide_eq_false this, this⟩
    have W2 := Lib.hid (fun W => WI.out lv 1 4 W)
    rw [show decide (1 ≤ lv ∧ lv ≤ 4) = false from decide_eq_false hW2] at W2
    clear hW0 hW1 hW2 WI
    go_enter Tryz.func91, Tryz.ntmps91
    go_wp2_with fail
    generalize (w.alloc (.cells #[.int .i64 kind, .slice (some ⟨g, o, none⟩) 2 sc, .int .i64 hosts] 24)).alloc (.cells #[.int .i64 0, .int .i64 0, .int .i64 0] 146) = X at *
    refine (W0.out _).mono ?_
    rintro e w1 ⟨rfl, rfl⟩
    clear W0
    go_wp2_with fail
    go_quiet (fail)
    have HB2 := Lib.hid (below_drewN HB.out nq)
    have Q2 : Hid ((X.drewN nq).heap[w.heap.size + 1]? = some (.cells #[.int .i64 0, .int .i64 0, .int .i64 0] 146 (0, 0))) := Q1.out
    have Q3 : Hid ((X.drewN nq).heap[w.heap.size]? = some (.cells #[.int .i64 kind, .slice (some ⟨g, o, none⟩) 2 sc, .int .i64 hosts] 24 (0, 0))) := Q0.out
    generalize X.drewN nq = Y at *
    clear c1 c2 d0 d1 d2 f0 f1 f2 l1 e0 e1
    have c2 := cellR 2 Q3.out rfl
    have d0 := cellR 0 Q2.out rfl
    have d1 := cellR 1 Q2.out rfl
    have d2 := cellR 2 Q2.out rfl
    have f0 := frozen_of_row _ _ 0 _ _ Q2.out
    have f1 := frozen_of_row _ _ 1 _ _ Q2.out
    have f2 := frozen_of_row _ _ 2 _ _ Q2.out
    have l1 := (Array.getElem?_eq_some_iff.1 Q2.out).1
    go_wp2_with fail
    refine (W1.out _).mono ?_
    rintro e w1 ⟨rfl, rfl⟩
    clear W1
    go_wp2_with fail
    refine (W2.out _).mono ?_
    rintro e w1 ⟨rfl, rfl⟩
    clear W2
    go_wp2_with fail
    have hr := put3 (v0 := .int .i64 0) (v1 := .int .i64 0) (v2 := .int .i64 0) Q2.out
    have hb9 := ((HB2.out.setCell (p := ⟨w.heap.size + 1, 0, none⟩) (Nat.le_succ _) (.int .i64 0)).setCell (p := ⟨w.heap.size + 1, 1, none⟩) (Nat.le_succ _) (.int .i64 0)).setCell (p := ⟨w.heap.size + 1, 2, none⟩) (Nat.le_succ _) (.int .i64 0)
    refine bodyPost_ret (v := .tuple #[.agg #[.int .i64 0, .int .i64 0, .int .i64 0], .bool false]) ?_ rfl ⟨hb9, 0, 0, 0, by rw [HV.out.1], fun h => absurd h HV.out.2⟩
    simp [results, Act.put, run_loadVar_row _ _ 146 146 _ _ _ hr Tryz.underlying146 rfl info113, Tryz.results91, asAddr]
  have W2 := Lib.hid (fun W => WI.out lv 1 4 W)
  rw [show decide (1 ≤ lv ∧ lv ≤ 4) = true from decide_eq_true hW2] at W2
  obtain ⟨b1, b2, b3, b4⟩ := drag_bound hW1.1 hW1.2 hW2.1 hW2.2
  have HDK : Hid (dOk [k, lv] hosts ↔ k * (k * lv + 1) ≤ 256) := by
    show _ ↔ _
    unfold dOk
    simp only [List.length_cons, List.length_nil, List.getD_cons_zero, List.getD_cons_succ]
    exact ⟨fun h => h.2.2.2.2, fun h => ⟨by trivial, hW0, hW1, hW2, h⟩⟩
  have w1' : wrap64 (k * lv) = k * lv := by generalize k * lv = z at *; unfold wrap64; omega
  have w2' : wrap64 (k * lv + 1) = k * lv + 1 := by generalize k * lv = z at *; unfold wrap64; omega
  have w3' : wrap64 (k * (k * lv + 1)) = k * (k * lv + 1) := by generalize k * (k * lv + 1) = z at *; unfold wrap64; omega
  clear hW0 hW1 hW2 WI
  by_cases h256 : 256 < k * (k * lv + 1)
  case pos =>
    have HV : Hid (decide (dOk [k, lv] hosts) = false ∧ ¬ dOk [k, lv] hosts) := by
      have : ¬ dOk [k, lv] hosts := fun h => by have := HDK.out.1 h; omega
      exact ⟨decide_eq_false this, this⟩
    clear HDK
    go_enter Tryz.func91, Tryz.ntmps91
    go_wp2_with fail
    generalize (w.alloc (.cells #[.int .i64 kind, .slice (some ⟨g, o, none⟩) 2 sc, .int .i64 hosts] 24)).alloc (.cells #[.int .i64 0, .int .i64 0, .int .i64 0] 146) = X at *
    refine (W0.out _).mono ?_
    rintro e w1 ⟨rfl, rfl⟩
    clear W0
    go_wp2_with fail
    go_quiet (fail)
    have HB2 := Lib.hid (below_drewN HB.out nq)
    have Q2 : Hid ((X.drewN nq).heap[w.heap.size + 1]? = some (.cells #[.int .i64 0, .int .i64 0, .int .i64 0] 146 (0, 0))) := Q1.out
    have Q3 : Hid ((X.drewN nq).heap[w.heap.size]? = some (.cells #[.int .i64 kind, .slice (some ⟨g, o, none⟩) 2 sc, .int .i64 hosts] 24 (0, 0))) := Q0.out
    generalize X.drewN nq = Y at *
    clear c1 c2 d0 d1 d2 f0 f1 f2 l1 e0 e1
    have c2 := cellR 2 Q3.out rfl
    have d0 := cellR 0 Q2.out rfl
    have d1 := cellR 1 Q2.out rfl
    have d2 := cellR 2 Q2.out rfl
    have f0 := frozen_of_row _ _ 0 _ _ Q2.out
    have f1 := frozen_of_row _ _ 1 _ _ Q2.out
    have f2 := frozen_of_row _ _ 2 _ _ Q2.out
    have l1 := (Array.getElem?_eq_some_iff.1 Q2.out).1
    go_wp2_with fail
    refine (W1.out _).mono ?_
    rintro e w1 ⟨rfl, rfl⟩
    clear W1
    go_wp2_with fail
    refine (W2.out _).mono ?_
    rintro e w1 ⟨rfl, rfl⟩
    clear W2
    go_wp2_with fail
    have hr := put3 (v0 := .int .i64 0) (v1 := .int .i64 0) (v2 := .int .i64 0) Q2.out
    have hb9 := ((HB2.out.setCell (p := ⟨w.heap.size + 1, 0, none⟩) (Nat.le_succ _) (.int .i64 0)).setCell (p := ⟨w.heap.size + 1, 1, none⟩) (Nat.le_succ _) (.int .i64 0)).setCell (p := ⟨w.heap.size + 1, 2, none⟩) (Nat.le_succ _) (.int .i64 0)
    refine bodyPost_ret (v := .tuple #[.agg #[.int .i64 0, .int .i64 0, .int .i64 0], .bool false]) ?_ rfl ⟨hb9, 0, 0, 0, by rw [HV.out.1], fun h => absurd h HV.out.2⟩
    simp [results, Act.put, run_loadVar_row _ _ 146 146 _ _ _ hr Tryz.underlying146 rfl info113, Tryz.results91, asAddr]
  have HV : Hid (decide (dOk [k, lv] hosts) = true ∧ True) := ⟨decide_eq_true (HDK.out.2 (by omega)), trivial⟩
  clear HDK
  go_enter Tryz.func91, Tryz.ntmps91
  go_wp2_with fail
  generalize (w.alloc (.cells #[.int .i64 kind, .slice (some ⟨g, o, none⟩) 2 sc, .int .i64 hosts] 24)).alloc (.cells #[.int .i64 0, .int .i64 0, .int .i64 0] 146) = X at *
  refine (W0.out _).mono ?_
  rintro e w1 ⟨rfl, rfl⟩
  clear W0
  go_wp2_with fail
  go_quiet (fail)
  have HB2 := Lib.hid (below_drewN HB.out nq)
  have Q2 : Hid ((X.drewN nq).heap[w.heap.size + 1]? = some (.cells #[.int .i64 0, .int .i64 0, .int .i64 0] 146 (0, 0))) := Q1.out
  have Q3 : Hid ((X.drewN nq).heap[w.heap.size]? = some (.cells #[.int .i64 kind, .slice (some ⟨g, o, none⟩) 2 sc, .int .i64 hosts] 24 (0, 0))) := Q0.out
  generalize X.drewN nq = Y at *
  clear c1 c2 d0 d1 d2 f0 f1 f2 l1 e0 e1
  have c2 := cellR 2 Q3.out rfl
  have d0 := cellR 0 Q2.out rfl
  have d1 := cellR 1 Q2.out rfl
  have d2 := cellR 2 Q2.out rfl
  have f0 := frozen_of_row _ _ 0 _ _ Q2.out
  have f1 := frozen_of_row _ _ 1 _ _ Q2.out
  have f2 := frozen_of_row _ _ 2 _ _ Q2.out
  have l1 := (Array.getElem?_eq_some_iff.1 Q2.out).1
  go_wp2_with fail
  refine (W1.out _).mono ?_
  rintro e w1 ⟨rfl, rfl⟩
  clear W1
  go_wp2_with fail
  refine (W2.out _).mono ?_
  rintro e w1 ⟨rfl, rfl⟩
  clear W2
  go_wp2_with fail
  have hr := put3 (v0 := .int .i64 k) (v1 := .int .i64 lv) (v2 := .int .i64 (k * lv + 1)) Q2.out
  have hb9 := ((HB2.out.setCell (p := ⟨w.heap.size + 1, 0, none⟩) (Nat.le_succ _) (.int .i64 k)).setCell (p := ⟨w.heap.size + 1, 1, none⟩) (Nat.le_succ _) (.int .i64 lv)).setCell (p := ⟨w.heap.size + 1, 2, none⟩) (Nat.le_succ _) (.int .i64 (k * lv + 1))
  refine bodyPost_ret (v := .tuple #[.agg #[.int .i64 k, .int .i64 lv, .int .i64 (k * lv + 1)], .bool true]) ?_ rfl ⟨hb9, k, lv, (k * lv + 1), by rw [HV.out.1], fun _ => ⟨rfl, rfl, rfl⟩⟩
  simp [results, Act.put, run_loadVar_row _ _ 146 146 _ _ _ hr Tryz.underlying146 rfl info113, Tryz.results91, asAddr]
end Go.Proofs.YtbhkenphcahifaaGreat
namespace Go.Proofs.YtbhkenphcahifaaGreat
open Go.RowKit Go.Shelf
attribute [local go_sem] Oper.semAt_some
set_option maxRecDepth 100000
set_option maxHeartbeats 4000000
/-- is a network valid -/
def vOk (kind : Int) (l : List Int) (h : Int) : Prop := (kind = 1 ∧ tOk l h) ∨ (kind = 2 ∧ rOk l h) ∨ (kind = 3 ∧ dOk l h)
instance (kind : Int) (l : List Int) (h : Int) : Decidable (vOk kind l h) := by unfold vOk; infer_instance
/-- a network as a value -/
def netV (kind : Int) (sa : Option Addr) (sc : Nat) (l : List Int) : Value :=
  if kind = 1 then .iface 138 (.agg #[.slice sa l.length sc, .int .i64 (prodI l)])
  else if kind = 2 then .iface 142 (.agg #[.int .i64 (l.getD 0 0), .int .i64 (l.getD 1 0), .int .i64 (wordsI l)])
  else .iface 146 (.agg #[.int .i64 (l.getD 0 0), .int .i64 (l.getD 1 0), .int .i64 (l.getD 0 0 * l.getD 1 0 + 1)])
theorem networkOf_any {w : World} {sa : Option Addr} {l : List Int} (h : Ints w sa l) (sc : Nat) (kind hosts : Int) :
    Calls Tryz.prog 47 #[.agg #[.int .i64 kind, .slice sa l.length sc, .int .i64 hosts]] w fun e w' => Below w.heap.size w w' ∧ ((vOk kind l hosts ∧ e = .returned (.tuple #[netV kind sa sc l, .int .i64 0])) ∨ (¬ vOk kind l hosts ∧ e = .returned (.tuple #[.nilIface, .int .i64 2]))) := by
  have HT : Hid (∀ W, Below w.heap.size w W → Calls Tryz.prog 89 #[.agg #[.int .i64 kind, .slice sa l.length sc, .int .i64 hosts]] W fun e w' => Below W.heap.size W w' ∧ ∃ (a : Option Addr) (n c : Nat) (m : Int), e = .returned (.tuple #[.agg #[.slice a n c, .int .i64 m], .bool (decide (tOk l hosts))]) ∧ (tOk l hosts → a = sa ∧ n = l.length ∧ c = sc ∧ m = prodI l)) := fun W hb => torusOf_any (h.keep hb) sc kind hosts
  have HR : Hid (∀ W, Below w.heap.size w W → Calls Tryz.prog 90 #[.agg #[.int .i64 kind, .slice sa l.length sc, .int .i64 hosts]] W fun e w' => Below W.heap.size W w' ∧ ∃ a b c : Int, e = .returned (.tuple #[.agg #[.int .i64 a, .int .i64 b, .int .i64 c], .bool (decide (rOk l hosts))]) ∧ (rOk l hosts → a = l.getD 0 0 ∧ b = l.getD 1 0 ∧ c = wordsI l)) := fun W hb => treeOf_any (h.keep hb) sc kind hosts
  have HD : Hid (∀ W, Below w.heap.size w W → Calls Tryz.prog 91 #[.agg #[.int .i64 kind, .slice sa l.length sc, .int .i64 hosts]] W fun e w' => Below W.heap.size W w' ∧ ∃ a b c : Int, e = .returned (.tuple #[.agg #[.int .i64 a, .int .i64 b, .int .i64 c], .bool (decide (dOk l hosts))]) ∧ (dOk l hosts → a = l.getD 0 0 ∧ b = l.getD 1 0 ∧ c = l.getD 0 0 * l.getD 1 0 + 1)) := fun W hb => dragonflyOf_any (h.keep hb) sc kind hosts
  have hb0 : Below w.heap.size w (w.alloc (.cells #[.int .i64 kind, .slice sa l.length sc, .int .i64 hosts] 24)) := (Below.refl _ _).alloc (Nat.le_refl _) _
  have q0 := heap_alloc_new w (.cells #[.int .i64 kind, .slice sa l.length sc, .int .i64 hosts] 24)
  have HB := Lib.hid hb0
  have HVO : Hid (vOk kind l hosts ↔ (kind = 1 ∧ tOk l hosts) ∨ (kind = 2 ∧ rOk l hosts) ∨ (kind = 3 ∧ dOk l hosts)) := Iff.rfl
  have HNV : Hid (netV kind sa sc l = if kind = 1 then .iface 138 (.agg #[.slice sa l.length sc, .int .i64 (prodI l)]) else if kind = 2 then .iface 142 (.agg #[.int .i64 (l.getD 0 0), .int .i64 (l.getD 1 0), .int .i64 (wordsI l)]) else .iface 146 (.agg #[.int .i64 (l.getD 0 0), .int .i64 (l.getD 1 0), .int .i64 (l.getD 0 0 * l.getD 1 0 + 1)])) := rfl
  generalize netV kind sa sc l = NV at *
  generalize vOk kind l hosts = VO at *
  have c0 := cellR 0 q0 rfl
  have c1 := cellR 1 q0 rfl
  have c2 := cellR 2 q0 rfl
  clear h hb0 q0
  by_cases hk1 : kind = 1
  case pos =>
    have hk := hk1
    clear hk1
    have hv1 : VO ↔ tOk l hosts := by rw [HVO.out, hk]; simp
    have HV1 := Lib.hid hv1
    have HN1 : Hid (NV = .iface 138 (.agg #[.slice sa l.length sc, .int .i64 (prodI l)])) := by show _ = _; rw [HNV.out, hk]; rfl
    have HC := Lib.hid (HT.out _ HB.out)
    subst hk
    clear HT HR HD hv1 HVO HNV
    go_enter Tryz.func47, Tryz.ntmps47
    go_wp2_with fail
    generalize w.alloc (.cells #[.int .i64 1, .slice sa l.length sc, .int .i64 hosts] 24) = X at *
    refine HC.out.mono ?_
    rintro e w1 ⟨hb1, a, n, c, m, rfl, hres⟩
    have HB1 := Lib.hid (HB.out.trans (hb1.mono HB.out.size))
    have HRS := Lib.hid hres
    clear HC hb1 hres c0 c1 c2
    by_cases ht : tOk l hosts
    · have hd : decide (tOk l hosts) = true := decide_eq_true ht
      have HT1 := Lib.hid ht
      rw [hd]
      clear ht hd
      go_wp2_with fail
      go_ret2
      have hr := HRS.out HT1.out
      exact ⟨HB1.out, .inl ⟨HV1.out.2 HT1.out, by rw [HN1.out, hr.1, hr.2.1, hr.2.2.1, hr.2.2.2]; rfl⟩⟩
    · have hd : decide (tOk l hosts) = false := decide_eq_false ht
      have HT1 := Lib.hid ht
      rw [hd]
      clear ht hd
      go_wp2_with fail
      go_ret2
      exact ⟨HB1.out, .inr ⟨fun h9 => HT1.out (HV1.out.1 h9), rfl⟩⟩
  by_cases hk2 : kind = 2
  case pos =>
    have hk := hk2
    clear hk2
    have hv1 : VO ↔ rOk l hosts := by rw [HVO.out, hk]; simp
    have HV1 := Lib.hid hv1
    have HN1 : Hid (NV = .iface 142 (.agg #[.int .i64 (l.getD 0 0), .int .i64 (l.getD 1 0), .int .i64 (wordsI l)])) := by show _ = _; rw [HNV.out, hk]; rfl
    have HC := Lib.hid (HR.out _ HB.out)
    subst hk
    clear HT HR HD hv1 HVO HNV
    go_enter Tryz.func47, Tryz.ntmps47
    go_wp2_with fail
    generalize w.alloc (.cells #[.int .i64 2, .slice sa l.length sc, .int .i64 hosts] 24) = X at *
    refine HC.out.mono ?_
    rintro e w1 ⟨hb1, a, b, c, rfl, hres⟩
    have HB1 := Lib.hid (HB.out.trans (hb1.mono HB.out.size))
    have HRS := Lib.hid hres
    clear HC hb1 hres c0 c1 c2
    by_cases ht : rOk l hosts
    · have hd : decide (rOk l hosts) = true := decide_eq_true ht
      have HT1 := Lib.hid ht
      rw [hd]
      clear ht hd
      go_wp2_with fail
      go_ret2
      have hr := HRS.out HT1.out
      exact ⟨HB1.out, .inl ⟨HV1.out.2 HT1.out, by rw [HN1.out, hr.1, hr.2.1, hr.2.2]; rfl⟩⟩
    · have hd : decide (rOk l hosts) = false := decide_eq_false ht
      have HT1 := Lib.hid ht
      rw [hd]
      clear ht hd
      go_wp2_with fail
      go_ret2
      exact ⟨HB1.out, .inr ⟨fun h9 => HT1.out (HV1.out.1 h9), rfl⟩⟩
  by_cases hk3 : kind = 3
  case pos =>
    have hk := hk3
    clear hk3
    have hv1 : VO ↔ dOk l hosts := by rw [HVO.out, hk]; simp
    have HV1 := Lib.hid hv1
    have HN1 : Hid (NV = .iface 146 (.agg #[.int .i64 (l.getD 0 0), .int .i64 (l.getD 1 0), .int .i64 (l.getD 0 0 * l.getD 1 0 + 1)])) := by show _ = _; rw [HNV.out, hk]; rfl
    have HC := Lib.hid (HD.out _ HB.out)
    subst hk
    clear HT HR HD hv1 HVO HNV
    go_enter Tryz.func47, Tryz.ntmps47
    go_wp2_with fail
    generalize w.alloc (.cells #[.int .i64 3, .slice sa l.length sc, .int .i64 hosts] 24) = X at *
    refine HC.out.mono ?_
    rintro e w1 ⟨hb1, a, b, c, rfl, hres⟩
    have HB1 := Lib.hid (HB.out.trans (hb1.mono HB.out.size))
    have HRS := Lib.hid hres
    clear HC hb1 hres c0 c1 c2
    by_cases ht : dOk l hosts
    · have hd : decide (dOk l hosts) = true := decide_eq_true ht
      have HT1 := Lib.hid ht
      rw [hd]
      clear ht hd
      go_wp2_with fail
      go_ret2
      have hr := HRS.out HT1.out
      exact ⟨HB1.out, .inl ⟨HV1.out.2 HT1.out, by rw [HN1.out, hr.1, hr.2.1, hr.2.2]; rfl⟩⟩
    · have hd : decide (dOk l hosts) = false := decide_eq_false ht
      have HT1 := Lib.hid ht
      rw [hd]
      clear ht hd
      go_wp2_with fail
      go_ret2
      exact ⟨HB1.out, .inr ⟨fun h9 => HT1.out (HV1.out.1 h9), rfl⟩⟩
  have k1 : (kind == 1) = false := beq_eq_false_iff_ne.2 hk1
  have k2 : (kind == 2) = false := beq_eq_false_iff_ne.2 hk2
  have k3 : (kind == 3) = false := beq_eq_false_iff_ne.2 hk3
  have HV1 : Hid (¬ VO) := fun h => by
    rcases HVO.out.1 h with h | h | h
    · exact hk1 h.1
    · exact hk2 h.1
    · exact hk3 h.1
  clear HT HR HD HVO HNV hk1 hk2 hk3
  go_enter Tryz.func47, Tryz.ntmps47
  go_wp2_with fail
  go_ret2
  exact ⟨HB.out, .inr ⟨HV1.out, rfl⟩⟩
end Go.Proofs.YtbhkenphcahifaaGreat
namespace Go.Proofs.YtbhkenphcahifaaGreat
open Go.RowKit
section
variable {F : Fence} {n : Nat} {P : Program} {md : Region.Mode} {ops : Array Oper} {Q : Exit → Act → World → Prop}
theorem ready_spec {listed : Array Bool} {i : Nat} (_ : listed.size = ops.size) (h : i ∈ Region.ready md ops listed) :
    i < ops.size ∧ listed.getD i true = false ∧ ∀ o, ops[i]? = some o → ∀ e ∈ o.after, Region.binds md e = true → listed.getD e.on false = true := by
  unfold Region.ready at h
  simp only [List.mem_filter, List.mem_range] at h
  obtain ⟨h1, h2⟩ := h
  have h1' : i < ops.size := by omega
  rw [Array.getElem?_eq_getElem h1'] at h2
  simp only [Option.map_some, Option.getD_some, Bool.and_eq_true, Bool.not_eq_true', Array.all_eq_true_iff_forall_mem] at h2
  refine ⟨h1', h2.1, fun o ho e he hb => ?_⟩
  rw [Array.getElem?_eq_getElem h1'] at ho
  cases ho
  have := h2.2 e he
  simpa [hb] using this
theorem ready_nil {listed : Array Bool} (hs : listed.size = ops.size) (h : Region.ready md ops listed = []) (hup : ∀ (i : Nat) (o : Oper), ops[i]? = some o → ∀ e ∈ o.after, Region.binds md e = true → e.on < i) :
    ∀ i, i < ops.size → listed.getD i true = true := by
  intro i
  induction i using Nat.strongRecOn with
  | _ i ih =>
    intro hi
    by_cases hb : listed.getD i true = true
    · exact hb
    · have hb : listed.getD i true = false := by simpa using hb
      have hmem : i ∈ Region.ready md ops listed := by
        unfold Region.ready
        simp only [List.mem_filter, List.mem_range]
        refine ⟨by omega, ?_⟩
        rw [Array.getElem?_eq_getElem hi]
        simp only [Option.map_some, Option.getD_some, Bool.and_eq_true, Bool.not_eq_true', Array.all_eq_true_iff_forall_mem]
        refine ⟨hb, fun e he => ?_⟩
        cases hbe : Region.binds md e with
        | false => rfl
        | true =>
        have hlt := hup i ops[i] (Array.getElem?_eq_getElem hi) e he hbe
        have := ih e.on hlt (by omega)
        have h2 : listed.getD e.on false = true := by
          have hl : e.on < listed.size := by omega
          simp [Array.getD, hl] at this ⊢
          exact this
        simp [h2]
      rw [h] at hmem
      cases hmem
theorem count_set {listed : Array Bool} {i : Nat} (hi : i < listed.size) (hb : listed.getD i true = false) :
    (listed.setIfInBounds i true).toList.count false + 1 = listed.toList.count false := by
  have hb' : listed[i] = false := by simpa [Array.getD, hi] using hb
  have hmem : 0 < listed.toList.count false := List.count_pos_iff.2 (by rw [← hb']; simp)
  rw [Array.toList_setIfInBounds, List.count_set (by simpa using hi)]
  have e1 : listed.toList[i]'(by simpa using hi) = false := by simpa using hb'
  simp only [e1]
  have hm' : 0 < Array.count false listed := by simpa using (show 0 < listed.toList.count false from hmem)
  simp
  omega
theorem anyIn_det {I : Array Bool → Act → World → Prop}
    (step : ∀ listed a w i, listed.size = ops.size → i ∈ Region.ready md ops listed → I listed a w → wpOpIn F n P ops Q i (I (listed.setIfInBounds i true)) a w)
    (fin : ∀ listed a w, listed.size = ops.size → Region.ready md ops listed = [] → I listed a w → Q .normal a w) :
    ∀ fuel listed a w, listed.size = ops.size → listed.toList.count false ≤ fuel → I listed a w → wpAnyIn F n P md ops Q fuel listed a w := by
  intro fuel
  induction fuel with
  | zero =>
    intro listed a w hs hc h
    have hr : Region.ready md ops listed = [] := by
      refine List.eq_nil_iff_forall_not_mem.2 fun i hi => ?_
      obtain ⟨h1, h2, _⟩ := ready_spec hs hi
      have := count_set (by omega) h2
      omega
    exact ⟨hr, fin listed a w hs hr h⟩
  | succ fuel ih =>
    intro listed a w hs hc h
    refine ⟨fun hr => fin listed a w hs hr h, fun i hi => ?_⟩
    obtain ⟨h1, h2, _⟩ := ready_spec hs hi
    have := count_set (by omega) h2
    exact wpOpIn_mono (fun a' w' h' => ih _ a' w' (by simpa using hs) (by omega) h') (step listed a w i hs hi h)
/-- A region that draws its order, by an invariant of what has been done. -/
theorem region_det {id : Nat} {a : Act} {w : World} (hm : P.follows .mixedOrders = true) {I : Array Bool → Act → World → Prop}
    (hup : ∀ (i : Nat) (o : Oper), ops[i]? = some o → ∀ e ∈ o.after, Region.binds .any e = true → e.on < i)
    (h0 : I (Array.replicate ops.size false) a w.drew)
    (step : ∀ listed a w i, listed.size = ops.size → listed.getD i true = false → (∀ o, ops[i]? = some o → ∀ e ∈ o.after, Region.binds .any e = true → listed.getD e.on false = true) → i < ops.size → I listed a w → wpOpIn F n P ops Q i (I (listed.setIfInBounds i true)) a w)
    (fin : ∀ listed a w, listed.size = ops.size → (∀ i, i < ops.size → listed.getD i true = true) → I listed a w → Q .normal a w) :
    (Code.region id ops true).wpIn F n P Q a w :=
  wpIn_region_any hm (anyIn_det (fun listed a w i hs hi h => by
    obtain ⟨h1, h2, h3⟩ := ready_spec hs hi
    exact step listed a w i hs h2 h3 h1 h) (fun listed a w hs hr h => fin listed a w hs (ready_nil hs hr hup) h) _ _ _ _ (by simp) (by simp) h0)
end
end Go.Proofs.YtbhkenphcahifaaGreat
namespace Go.Proofs.YtbhkenphcahifaaGreat
theorem hup_check {ops : Array Oper} (h : (List.range ops.size).all (fun i => ((ops[i]?).map fun o => o.after.all fun e => !Region.binds .any e || decide (e.on < i)).getD true) = true) : ∀ (i : Nat) (o : Oper), ops[i]? = some o → ∀ e ∈ o.after, Region.binds .any e = true → e.on < i := by
  intro i o ho e he hb
  have hi : i < ops.size := (Array.getElem?_eq_some_iff.1 ho).1
  have := List.all_eq_true.1 h i (by simpa using hi)
  rw [ho] at this
  simp only [Option.map_some, Option.getD_some, Array.all_eq_true_iff_forall_mem] at this
  simpa [hb] using this e he
end Go.Proofs.YtbhkenphcahifaaGreat
namespace Go.Proofs.YtbhkenphcahifaaGreat
section
variable {n : Nat} {P : Program} {ops : Array Oper} {Q : Exit → Act → World → Prop}
theorem wpIn_of_wp_plain {o : Oper} {a : Act} {w w' : World} {K : Act → World → Prop} {v : Value} (h : (o.semAt Fence.wide.round a.eval).run P w = .ok (.value v) w') (hk : K (a.put o.dst v) w') : Oper.wpIn Fence.wide n P o a w K Q := by
  refine ⟨fun f _ => trivial, ?_⟩
  rw [h]
  exact hk
theorem wpInF_plain {F : Fence} {o : Oper} {a : Act} {w w' : World} {K : Act → World → Prop} {v : Value} (hab : ∀ f, o.about P w a.eval = some f → F.fn f) (h : (o.semAt F.round a.eval).run P w = .ok (.value v) w') (hk : K (a.put o.dst v) w') : Oper.wpIn F n P o a w K Q := by
  refine ⟨hab, ?_⟩
  rw [h]
  exact hk
theorem wpInF_skip {F : Fence} {o : Oper} {a : Act} {w w' : World} {K : Act → World → Prop} (hab : ∀ f, o.about P w a.eval = some f → F.fn f) (h : (o.semAt F.round a.eval).run P w = .ok .skip w') (hk : K (a.put o.dst undef) w') : Oper.wpIn F n P o a w K Q := by
  refine ⟨hab, ?_⟩
  rw [h]
  exact hk
theorem wpIn_of_wp_skip {o : Oper} {a : Act} {w w' : World} {K : Act → World → Prop} (h : (o.semAt Fence.wide.round a.eval).run P w = .ok .skip w') (hk : K (a.put o.dst undef) w') : Oper.wpIn Fence.wide n P o a w K Q := by
  refine ⟨fun f _ => trivial, ?_⟩
  rw [h]
  exact hk
theorem wpOpIn_load_row {i : Nat} {o : Oper} {K : Act → World → Prop} {a : Act} {w : World} (ho : ops[i]? = some o) (hgd : o.guard = none) (ty : TypeId) (x : Operand) (hop : o.op = .load ty x)
    (g : Nat) (hx : a.eval x = .pointer (some ⟨g, 0, none⟩)) (t : TypeId) (cs : Array Value) (fr : Nat × Nat) (d : TypeDesc) (hg : w.heap[g]? = some (.cells cs t fr))
    (hu : P.underlying ty = some d) (hd : (match d with | .struct _ | .array _ _ => true | _ => false) = true) (hi : (P.info? ty).map (·.size) = some cs.size)
    (h : K (a.put o.dst (.agg cs)) w) : wpOpIn Fence.wide n P ops Q i K a w := by
  refine wpOpIn_step ho (fun K' hK => ?_)
  rw [if_pos (by simp [Region.wanted, hgd])]
  refine wpIn_of_wp_plain (v := .agg cs) ?_ (hK _ _ h)
  have : Fence.wide.round = none := rfl
  simp only [this, Oper.semAt, hop, execOp, hx, Instr.loadAt, Instr.sureAddr, Sem.run_bind, Sem.run_pure, Result.andThen_ok, run_loadVar_row w g t ty cs fr d hg hu hd hi]
end
section
variable {n : Nat} {P : Program} {ops : Array Oper} {Q : Exit → Act → World → Prop}
/-- an operation that yields a value, in a region that draws its order -/
theorem wpOpIn_plain {i : Nat} {o : Oper} {K : Act → World → Prop} {a : Act} {w w' : World} {v : Value} (ho : ops[i]? = some o) (hgd : o.guard = none)
    (h : (o.semAt none a.eval).run P w = .ok (.value v) w') (hk : K (a.put o.dst v) w') : wpOpIn Fence.wide n P ops Q i K a w := by
  refine wpOpIn_step ho (fun K' hK => ?_)
  rw [if_pos (by simp [Region.wanted, hgd])]
  exact wpIn_of_wp_plain h (hK _ _ hk)
/-- an operation that yields nothing -/
theorem wpOpIn_skip {i : Nat} {o : Oper} {K : Act → World → Prop} {a : Act} {w w' : World} (ho : ops[i]? = some o) (hgd : o.guard = none)
    (h : (o.semAt none a.eval).run P w = .ok .skip w') (hk : K (a.put o.dst undef) w') : wpOpIn Fence.wide n P ops Q i K a w := by
  refine wpOpIn_step ho (fun K' hK => ?_)
  rw [if_pos (by simp [Region.wanted, hgd])]
  exact wpIn_of_wp_skip h (hK _ _ hk)
/-- a call of a Go function, by its contract -/
theorem wpOpIn_call {i : Nat} {o : Oper} {K : Act → World → Prop} {a : Act} {w : World} {f : FuncId} {args : Array Value} {R : Ending → World → Prop} (ho : ops[i]? = some o) (hgd : o.guard = none)
    (h : (o.semAt none a.eval).run P w = .ok (.enter f args) w) (hc : Calls P f args w R) (hk : ∀ e w', R e w' → ∃ v, e = .returned v ∧ K (a.put o.dst v) w') : wpOpIn Fence.wide n P ops Q i K a w := by
  refine wpOpIn_step ho (fun K' hK => ?_)
  rw [if_pos (by simp [Region.wanted, hgd])]
  refine ⟨fun f _ => trivial, ?_⟩
  have e : Fence.wide.round = none := rfl
  rw [e, h, Oper.uponIn_enter]
  refine ⟨(fun hd => by cases hd), callsIn_wide.2 (hc.mono ?_)⟩
  intro e w' hr
  obtain ⟨v, rfl, hv⟩ := hk e w' hr
  exact hK _ _ hv
theorem sem_call {o : Oper} {a : Act} {w : World} {g : FuncId} {xs : Array Operand} {ts : Array TypeId} {vs : Array Value} (hop : o.op = .call { callee := .value (.func g), args := xs, argTypes := ts }) (hvs : xs.map a.eval = vs)
    (eg : ∀ args w, (callFunc g args).run P w = .ok (.enter g args) w) : (o.semAt none a.eval).run P w = .ok (.enter g vs) w := by
  simp [Oper.semAt, hop, execOp, resolve, invoke, eg, hvs, Deferred.ofValue, Act.eval]
theorem sem_call2 {o : Oper} {a : Act} {w : World} {g : FuncId} {x y : Operand} {ts : Array TypeId} {vx vy : Value} (hop : o.op = .call { callee := .value (.func g), args := #[x, y], argTypes := ts }) (hx : a.eval x = vx) (hy : a.eval y = vy)
    (eg : ∀ args w, (callFunc g args).run P w = .ok (.enter g args) w) : (o.semAt none a.eval).run P w = .ok (.enter g #[vx, vy]) w :=
  sem_call hop (by simp [hx, hy]) eg
theorem sem_call4 {o : Oper} {a : Act} {w : World} {g : FuncId} {x y z u : Operand} {ts : Array TypeId} {vx vy vz vu : Value} (hop : o.op = .call { callee := .value (.func g), args := #[x, y, z, u], argTypes := ts }) (hx : a.eval x = vx) (hy : a.eval y = vy) (hz : a.eval z = vz) (hu : a.eval u = vu)
    (eg : ∀ args w, (callFunc g args).run P w = .ok (.enter g args) w) : (o.semAt none a.eval).run P w = .ok (.enter g #[vx, vy, vz, vu]) w :=
  sem_call hop (by simp [hx, hy, hz, hu]) eg
end
theorem sem_call1 {P : Program} {o : Oper} {a : Act} {w : World} {g : FuncId} {x : Operand} {ts : Array TypeId} {vx : Value} (hop : o.op = .call { callee := .value (.func g), args := #[x], argTypes := ts }) (hx : a.eval x = vx)
    (eg : ∀ args w, (callFunc g args).run P w = .ok (.enter g args) w) : (o.semAt none a.eval).run P w = .ok (.enter g #[vx]) w :=
  sem_call hop (by simp [hx]) eg
theorem sem_bin {P : Program} {o : Oper} {a : Act} {w : World} {op : BinOp} {t yt : TypeId} {x y : Operand} {vx vy v : Value} (hop : o.op = .binOp op t x y yt) (hx : a.eval x = vx) (hy : a.eval y = vy)
    (hg : (eqGuard op t x y vx vy).run P w = .ok () w) (h : (binOp op t vx vy).run P w = .ok v w) : (o.semAt none a.eval).run P w = .ok (.value v) w := by
  simp [Oper.semAt, hop, execOp, hx, hy, hg, h, Result.andThen]
section
variable {n : Nat} {P : Program} {ops : Array Oper} {Q : Exit → Act → World → Prop}
/-- a guarded operation that is wanted -/
theorem wpOpIn_guard {i j : Nat} {want : Bool} {o : Oper} {K : Act → World → Prop} {a : Act} {w w' : World} {v : Value} (ho : ops[i]? = some o) (hgd : o.guard = some (j, want)) (hy : yielded ops a.tmps j = some want)
    (h : (o.semAt none a.eval).run P w = .ok (.value v) w') (hk : K (a.put o.dst v) w') : wpOpIn Fence.wide n P ops Q i K a w := by
  refine wpOpIn_step ho (fun K' hK => ?_)
  rw [if_pos (by simp [Region.wanted, hgd, hy])]
  exact wpIn_of_wp_plain h (hK _ _ hk)
/-- a guarded operation that is not -/
theorem wpOpIn_off {i j : Nat} {want : Bool} {o : Oper} {K : Act → World → Prop} {a : Act} {w : World} (ho : ops[i]? = some o) (hgd : o.guard = some (j, want)) (hy : yielded ops a.tmps j = some (!want))
    (hk : K (a.put o.dst undef) w) : wpOpIn Fence.wide n P ops Q i K a w := by
  refine wpOpIn_step ho (fun K' hK => ?_)
  rw [if_neg (by cases want <;> simp [Region.wanted, hgd, hy])]
  exact ⟨fun f _ => trivial, hK _ _ hk⟩
/-- a guarded call -/
theorem wpOpIn_callg {i j : Nat} {want : Bool} {o : Oper} {K : Act → World → Prop} {a : Act} {w : World} {f : FuncId} {args : Array Value} {R : Ending → World → Prop} (ho : ops[i]? = some o) (hgd : o.guard = some (j, want)) (hy : yielded ops a.tmps j = some want)
    (h : (o.semAt none a.eval).run P w = .ok (.enter f args) w) (hc : Calls P f args w R) (hk : ∀ e w', R e w' → ∃ v, e = .returned v ∧ K (a.put o.dst v) w') : wpOpIn Fence.wide n P ops Q i K a w := by
  refine wpOpIn_step ho (fun K' hK => ?_)
  rw [if_pos (by simp [Region.wanted, hgd, hy])]
  refine ⟨fun f _ => trivial, ?_⟩
  have e : Fence.wide.round = none := rfl
  rw [e, h, Oper.uponIn_enter]
  refine ⟨(fun hd => by cases hd), callsIn_wide.2 (hc.mono ?_)⟩
  intro e w' hr
  obtain ⟨v, rfl, hv⟩ := hk e w' hr
  exact hK _ _ hv
end
end Go.Proofs.YtbhkenphcahifaaGreat
namespace Go.Proofs.YtbhkenphcahifaaGreat
open Go.RowKit Go.Shelf
attribute [local go_sem] Oper.semAt_some
set_option maxRecDepth 100000
set_option maxHeartbeats 4000000
theorem i64_quo (x n : Int) (hx : 0 ≤ x) (hx2 : x ≤ 1000000) (hn : 1 ≤ n) (w : World) : (binOp .quo 3 (.int .i64 x) (.int .i64 n)).run Tryz.prog w = .ok (.int .i64 (x / n)) w := by
  have h1 := Int.ediv_le_self n hx
  have h2 := Int.ediv_nonneg hx (show 0 ≤ n by omega)
  have h0 : n ≠ 0 := by omega
  simp [go_sem, h0]
  rw [Int.tdiv_eq_ediv_of_nonneg hx, IntKind.wrap_i64]
  omega
theorem i64_rem (x n : Int) (hx : 0 ≤ x) (hn : 1 ≤ n) (w : World) : (binOp .rem 3 (.int .i64 x) (.int .i64 n)).run Tryz.prog w = .ok (.int .i64 (x % n)) w := by
  have h0 : n ≠ 0 := by omega
  simp [go_sem, h0, Int.tmod_eq_emod_of_nonneg hx]
theorem rowA2 (p q : Int) : rowA [p, q] = #[.int .i64 p, .int .i64 q] := by unfold rowA; rfl
theorem RowAt.two {w : World} (p q : Int) : RowAt (w.alloc (.cells #[.int .i64 p, .int .i64 q] 3)) w.heap.size [p, q] := by
  unfold RowAt
  rw [rowA2]
  exact heap_alloc_new w _
theorem sizeT_any (sa : Option Addr) (n sc : Nat) (m : Int) (w : World) : Calls Tryz.prog 144 #[.agg #[.slice sa n sc, .int .i64 m]] w fun e w' => e = .returned (.tuple #[.int .i64 m, .int .i64 m]) ∧ Below w.heap.size w w' := by
  have hb0 : Below w.heap.size w (w.alloc (.cells #[.slice sa n sc, .int .i64 m] 138)) := (Below.refl _ _).alloc (Nat.le_refl _) _
  have q0 := heap_alloc_new w (.cells #[.slice sa n sc, .int .i64 m] 138)
  have c1 := cellR 1 q0 rfl
  have HB := Lib.hid hb0
  clear hb0 q0
  go_enter Tryz.func144, Tryz.ntmps144
  go_wp2_with fail
  go_quiet (fail)
  go_wp2_with fail
  go_ret2
  exact ⟨rfl, below_drewN HB.out _⟩
theorem sizeR_any (k lv ww : Int) (h1 : 0 ≤ lv) (h2 : lv ≤ 10) (h3 : 0 ≤ ww) (h4 : ww ≤ 1048576) (w : World) : Calls Tryz.prog 185 #[.agg #[.int .i64 k, .int .i64 lv, .int .i64 ww]] w fun e w' => e = .returned (.tuple #[.int .i64 (lv * ww), .int .i64 ww]) ∧ Below w.heap.size w w' := by
  have hb0 : Below w.heap.size w (w.alloc (.cells #[.int .i64 k, .int .i64 lv, .int .i64 ww] 142)) := (Below.refl _ _).alloc (Nat.le_refl _) _
  have q0 := heap_alloc_new w (.cells #[.int .i64 k, .int .i64 lv, .int .i64 ww] 142)
  have c1 := cellR 1 q0 rfl
  have c2 := cellR 2 q0 rfl
  have HB := Lib.hid hb0
  have m1 := Int.mul_le_mul h2 h4 h3 (by decide)
  have m2 := Int.mul_nonneg h1 h3
  have hw : wrap64 (lv * ww) = lv * ww := by generalize lv * ww = z at *; unfold wrap64; omega
  clear hb0 q0 m1 m2
  go_enter Tryz.func185, Tryz.ntmps185
  go_wp2_with fail
  go_quiet (fail)
  go_wp2_with fail
  go_ret2
  exact ⟨by show Ending.returned (.tuple #[.int .i64 (wrap64 (lv * ww)), .int .i64 ww]) = _; rw [hw], below_drewN HB.out _⟩
theorem sizeD_any (a h g : Int) (h1 : 0 ≤ a) (h2 : a ≤ 16) (h3 : 0 ≤ g) (h4 : g ≤ 1000) (w : World) : Calls Tryz.prog 199 #[.agg #[.int .i64 a, .int .i64 h, .int .i64 g]] w fun e w' => e = .returned (.tuple #[.int .i64 (a * g), .int .i64 (a * g)]) ∧ Below w.heap.size w w' := by
  have hb0 : Below w.heap.size w (w.alloc (.cells #[.int .i64 a, .int .i64 h, .int .i64 g] 146)) := (Below.refl _ _).alloc (Nat.le_refl _) _
  have q0 := heap_alloc_new w (.cells #[.int .i64 a, .int .i64 h, .int .i64 g] 146)
  have c0 := cellR 0 q0 rfl
  have c2 := cellR 2 q0 rfl
  have HB := Lib.hid hb0
  have m1 := Int.mul_le_mul h2 h4 h3 (by decide)
  have m2 := Int.mul_nonneg h1 h3
  have hw : wrap64 (a * g) = a * g := by generalize a * g = z at *; unfold wrap64; omega
  clear hb0 q0 m1 m2
  go_enter Tryz.func199, Tryz.ntmps199
  go_wp2_with fail
  go_quiet (fail)
  go_wp2_with fail
  go_ret2
  exact ⟨by show Ending.returned (.tuple #[.int .i64 (wrap64 (a * g)), .int .i64 (wrap64 (a * g))]) = _; rw [hw], below_drewN HB.out _⟩
theorem placeR_any (a b c x : Int) (hx : 0 ≤ x) (hx2 : x ≤ 1000000) (hn : 1 ≤ c) (w : World) : Calls Tryz.prog 182 #[.agg #[.int .i64 a, .int .i64 b, .int .i64 c], .int .i64 x] w fun e w' => ∃ g, e = .returned (.slice (some ⟨g, 0, none⟩) 2 2) ∧ w.heap.size ≤ g ∧ RowAt w' g [x / c, x % c] ∧ Below w.heap.size w w' := by
  have hb0 : Below w.heap.size w (w.alloc (.cells #[.int .i64 a, .int .i64 b, .int .i64 c] 142)) := (Below.refl _ _).alloc (Nat.le_refl _) _
  have q0 := heap_alloc_new w (.cells #[.int .i64 a, .int .i64 b, .int .i64 c] 142)
  have C0 := Lib.hid (cellR 2 q0 rfl)
  have HB := Lib.hid hb0
  have EQ := Lib.hid (fun W => i64_quo x c hx hx2 hn W)
  have ER := Lib.hid (fun W => i64_rem x c hx hn W)
  clear hb0 q0
  obtain ⟨p, hp⟩ : ∃ p, p = x / c := ⟨_, rfl⟩
  obtain ⟨q, hq⟩ : ∃ q, q = x % c := ⟨_, rfl⟩
  rw [← hp] at EQ ⊢
  rw [← hq] at ER ⊢
  clear hp hq
  go_enter Tryz.func182, Tryz.ntmps182
  go_wp2_with fail
  generalize w.alloc (.cells #[.int .i64 a, .int .i64 b, .int .i64 c] 142) = X at *
  refine (wpIn_wide (n := 0)).1 ?_
  refine region_det (by kernel_rfl) (I := fun listed a' w' => ∃ gs : Nat, Hid (Below X.heap.size X w') ∧ Hid (listed.getD 8 false = true → w.heap.size ≤ gs ∧ RowAt w' gs [p, q]) ∧ Hid (listed.getD 9 false = true → listed.getD 8 false = true) ∧ a' = ⟨#[Value.agg #[.int .i64 a, .int .i64 b, .int .i64 c], Value.int IntKind.i64 (x), Value.pointer (some ⟨w.heap.size, 0, none⟩), undef, (if listed.getD 9 false = true then Value.slice (some ⟨gs, 0, none⟩) 2 2 else Value.slice none 0 0), (if listed.getD 0 false = true then Value.int IntKind.i64 (x) else undef), (if listed.getD 1 false = true then Value.pointer (some ⟨w.heap.size, 2, none⟩) else undef), (if listed.getD 2 false = true then Value.int IntKind.i64 (c) else undef), (if listed.getD 3 false = true then Value.int IntKind.i64 (p) else undef), (if listed.getD 4 false = true then Value.int IntKind.i64 (x) else undef), (if listed.getD 5 false = true then Value.pointer (some ⟨w.heap.size, 2, none⟩) else undef), (if listed.getD 6 false = true then Value.int IntKind.i64 (c) else undef), (if listed.getD 7 false = true then Value.int IntKind.i64 (q) else undef), (if listed.getD 8 false = true then Value.slice (some ⟨gs, 0, none⟩) 2 2 else undef)], []⟩) (hup_check (by kernel_rfl)) ?h0 ?step ?fin
  case h0 => exact ⟨0, (Below.refl _ _).drew, (fun h => by simp at h), (fun h => by simp at h), rfl⟩
  case step =>
    intro listed a' w' i hs hbi hdep hi ⟨gs, IB, IS, J9, ha⟩
    obtain ⟨ls⟩ := listed
    match ls, hs with
    | [x0, x1, x2, x3, x4, x5, x6, x7, x8, x9], _ =>
    subst ha
    have hi' : i = 0 ∨ i = 1 ∨ i = 2 ∨ i = 3 ∨ i = 4 ∨ i = 5 ∨ i = 6 ∨ i = 7 ∨ i = 8 ∨ i = 9 := by simp at hi; omega
    rcases hi' with rfl | rfl | rfl | rfl | rfl | rfl | rfl | rfl | rfl | rfl
    · obtain rfl : x0 = false := by simpa using hbi
      refine wpOpIn_plain rfl rfl rfl ?_
      exact ⟨gs, IB, IS, J9, rfl⟩
    · obtain rfl : x1 = false := by simpa using hbi
      refine wpOpIn_plain (v := Value.pointer (some ⟨w.heap.size, 2, none⟩)) (w' := w') rfl rfl (by simp [Oper.semAt, execOp, go_sem]) ?_
      exact ⟨gs, IB, IS, J9, rfl⟩
    · obtain rfl : x2 = false := by simpa using hbi
      obtain rfl : x1 = true := hdep _ rfl ⟨1, .data⟩ (by simp) rfl
      have c0 := kcell IB.out C0.out
      refine wpOpIn_plain (v := Value.int IntKind.i64 (c)) (w' := w') rfl rfl (by simp [Oper.semAt, execOp, go_sem, c0]) ?_
      exact ⟨gs, IB, IS, J9, rfl⟩
    · obtain rfl : x3 = false := by simpa using hbi
      obtain rfl : x0 = true := hdep _ rfl ⟨0, .data⟩ (by simp) rfl
      obtain rfl : x2 = true := hdep _ rfl ⟨2, .data⟩ (by simp) rfl
      refine wpOpIn_plain (v := Value.int IntKind.i64 (p)) (w' := w') rfl rfl (sem_bin (vx := Value.int IntKind.i64 (x)) (vy := Value.int IntKind.i64 (c)) rfl rfl rfl rfl (EQ.out w')) ?_
      exact ⟨gs, IB, IS, J9, rfl⟩
    · obtain rfl : x4 = false := by simpa using hbi
      refine wpOpIn_plain rfl rfl rfl ?_
      exact ⟨gs, IB, IS, J9, rfl⟩
    · obtain rfl : x5 = false := by simpa using hbi
      refine wpOpIn_plain (v := Value.pointer (some ⟨w.heap.size, 2, none⟩)) (w' := w') rfl rfl (by simp [Oper.semAt, execOp, go_sem]) ?_
      exact ⟨gs, IB, IS, J9, rfl⟩
    · obtain rfl : x6 = false := by simpa using hbi
      obtain rfl : x5 = true := hdep _ rfl ⟨5, .data⟩ (by simp) rfl
      have c0 := kcell IB.out C0.out
      refine wpOpIn_plain (v := Value.int IntKind.i64 (c)) (w' := w') rfl rfl (by simp [Oper.semAt, execOp, go_sem, c0]) ?_
      exact ⟨gs, IB, IS, J9, rfl⟩
    · obtain rfl : x7 = false := by simpa using hbi
      obtain rfl : x4 = true := hdep _ rfl ⟨4, .data⟩ (by simp) rfl
      obtain rfl : x6 = true := hdep _ rfl ⟨6, .data⟩ (by simp) rfl
      refine wpOpIn_plain (v := Value.int IntKind.i64 (q)) (w' := w') rfl rfl (sem_bin (vx := Value.int IntKind.i64 (x)) (vy := Value.int IntKind.i64 (c)) rfl rfl rfl rfl (ER.out w')) ?_
      exact ⟨gs, IB, IS, J9, rfl⟩
    · obtain rfl : x8 = false := by simpa using hbi
      obtain rfl : x3 = true := hdep _ rfl ⟨3, .data⟩ (by simp) rfl
      obtain rfl : x7 = true := hdep _ rfl ⟨7, .data⟩ (by simp) rfl
      obtain rfl : x9 = false := Bool.eq_false_iff.2 fun h => by have := J9.out h; cases this
      refine wpOpIn_plain (v := Value.slice (some ⟨w'.heap.size, 0, none⟩) 2 2) (w' := w'.alloc (.cells #[.int .i64 p, .int .i64 q] 3)) rfl rfl (by simp [Oper.semAt, execOp, go_sem]) ?_
      have hb9 : Below w'.heap.size w' (w'.alloc (.cells #[.int .i64 p, .int .i64 q] 3)) := (Below.refl _ _).alloc (Nat.le_refl _) _
      exact ⟨w'.heap.size, (IB.out.trans (hb9.mono IB.out.size)), (fun _ => ⟨Nat.le_trans HB.out.size IB.out.size, RowAt.two p q⟩), (fun _ => rfl), rfl⟩
    · obtain rfl : x9 = false := by simpa using hbi
      obtain rfl : x8 = true := hdep _ rfl ⟨8, .data⟩ (by simp) rfl
      refine wpOpIn_plain rfl rfl rfl ?_
      exact ⟨gs, IB, IS, (fun _ => rfl), rfl⟩
  case fin =>
  intro listed a' Z hs hall ⟨gs, IB, IS, J9, ha⟩
  obtain ⟨ls⟩ := listed
  match ls, hs with
  | [x0, x1, x2, x3, x4, x5, x6, x7, x8, x9], _ =>
  obtain rfl : x0 = true := hall 0 (by simp)
  obtain rfl : x1 = true := hall 1 (by simp)
  obtain rfl : x2 = true := hall 2 (by simp)
  obtain rfl : x3 = true := hall 3 (by simp)
  obtain rfl : x4 = true := hall 4 (by simp)
  obtain rfl : x5 = true := hall 5 (by simp)
  obtain rfl : x6 = true := hall 6 (by simp)
  obtain rfl : x7 = true := hall 7 (by simp)
  obtain rfl : x8 = true := hall 8 (by simp)
  obtain rfl : x9 = true := hall 9 (by simp)
  subst ha
  have HZ : Hid (Below X.heap.size X Z) := IB
  have HS := Lib.hid (IS.out rfl)
  clear IB IS J9 hall hs EQ ER C0
  dsimp only [Exit.then, Exit.inBlock]
  go_wp2_with fail
  go_ret
  exact ⟨gs, rfl, HS.out.1, HS.out.2, HB.out.trans (HZ.out.mono HB.out.size)⟩
theorem placeD_any (a b c x : Int) (hx : 0 ≤ x) (hx2 : x ≤ 1000000) (hn : 1 ≤ a) (w : World) : Calls Tryz.prog 196 #[.agg #[.int .i64 a, .int .i64 b, .int .i64 c], .int .i64 x] w fun e w' => ∃ g, e = .returned (.slice (some ⟨g, 0, none⟩) 2 2) ∧ w.heap.size ≤ g ∧ RowAt w' g [x / a, x % a] ∧ Below w.heap.size w w' := by
  have hb0 : Below w.heap.size w (w.alloc (.cells #[.int .i64 a, .int .i64 b, .int .i64 c] 146)) := (Below.refl _ _).alloc (Nat.le_refl _) _
  have q0 := heap_alloc_new w (.cells #[.int .i64 a, .int .i64 b, .int .i64 c] 146)
  have C0 := Lib.hid (cellR 0 q0 rfl)
  have HB := Lib.hid hb0
  have EQ := Lib.hid (fun W => i64_quo x a hx hx2 hn W)
  have ER := Lib.hid (fun W => i64_rem x a hx hn W)
  clear hb0 q0
  obtain ⟨p, hp⟩ : ∃ p, p = x / a := ⟨_, rfl⟩
  obtain ⟨q, hq⟩ : ∃ q, q = x % a := ⟨_, rfl⟩
  rw [← hp] at EQ ⊢
  rw [← hq] at ER ⊢
  clear hp hq
  go_enter Tryz.func196, Tryz.ntmps196
  go_wp2_with fail
  generalize w.alloc (.cells #[.int .i64 a, .int .i64 b, .int .i64 c] 146) = X at *
  refine (wpIn_wide (n := 0)).1 ?_
  refine region_det (by kernel_rfl) (I := fun listed a' w' => ∃ gs : Nat, Hid (Below X.heap.size X w') ∧ Hid (listed.getD 8 false = true → w.heap.size ≤ gs ∧ RowAt w' gs [p, q]) ∧ Hid (listed.getD 9 false = true → listed.getD 8 false = true) ∧ a' = ⟨#[Value.agg #[.int .i64 a, .int .i64 b, .int .i64 c], Value.int IntKind.i64 (x), Value.pointer (some ⟨w.heap.size, 0, none⟩), undef, (if listed.getD 9 false = true then Value.slice (some ⟨gs, 0, none⟩) 2 2 else Value.slice none 0 0), (if listed.getD 0 false = true then Value.int IntKind.i64 (x) else undef), (if listed.getD 1 false = true then Value.pointer (some ⟨w.heap.size, 0, none⟩) else undef), (if listed.getD 2 false = true then Value.int IntKind.i64 (a) else undef), (if listed.getD 3 false = true then Value.int IntKind.i64 (p) else undef), (if listed.getD 4 false = true then Value.int IntKind.i64 (x) else undef), (if listed.getD 5 false = true then Value.pointer (some ⟨w.heap.size, 0, none⟩) else undef), (if listed.getD 6 false = true then Value.int IntKind.i64 (a) else undef), (if listed.getD 7 false = true then Value.int IntKind.i64 (q) else undef), (if listed.getD 8 false = true then Value.slice (some ⟨gs, 0, none⟩) 2 2 else undef)], []⟩) (hup_check (by kernel_rfl)) ?h0 ?step ?fin
  case h0 => exact ⟨0, (Below.refl _ _).drew, (fun h => by simp at h), (fun h => by simp at h), rfl⟩
  case step =>
    intro listed a' w' i hs hbi hdep hi ⟨gs, IB, IS, J9, ha⟩
    obtain ⟨ls⟩ := listed
    match ls, hs with
    | [x0, x1, x2, x3, x4, x5, x6, x7, x8, x9], _ =>
    subst ha
    have hi' : i = 0 ∨ i = 1 ∨ i = 2 ∨ i = 3 ∨ i = 4 ∨ i = 5 ∨ i = 6 ∨ i = 7 ∨ i = 8 ∨ i = 9 := by simp at hi; omega
    rcases hi' with rfl | rfl | rfl | rfl | rfl | rfl | rfl | rfl | rfl | rfl
    · obtain rfl : x0 = false := by simpa using hbi
      refine wpOpIn_plain rfl rfl rfl ?_
      exact ⟨gs, IB, IS, J9, rfl⟩
    · obtain rfl : x1 = false := by simpa using hbi
      refine wpOpIn_plain (v := Value.pointer (some ⟨w.heap.size, 0, none⟩)) (w' := w') rfl rfl (by simp [Oper.semAt, execOp, go_sem]) ?_
      exact ⟨gs, IB, IS, J9, rfl⟩
    · obtain rfl : x2 = false := by simpa using hbi
      obtain rfl : x1 = true := hdep _ rfl ⟨1, .data⟩ (by simp) rfl
      have c0 := kcell IB.out C0.out
      refine wpOpIn_plain (v := Value.int IntKind.i64 (a)) (w' := w') rfl rfl (by simp [Oper.semAt, execOp, go_sem, c0]) ?_
      exact ⟨gs, IB, IS, J9, rfl⟩
    · obtain rfl : x3 = false := by simpa using hbi
      obtain rfl : x0 = true := hdep _ rfl ⟨0, .data⟩ (by simp) rfl
      obtain rfl : x2 = true := hdep _ rfl ⟨2, .data⟩ (by simp) rfl
      refine wpOpIn_plain (v := Value.int IntKind.i64 (p)) (w' := w') rfl rfl (sem_bin (vx := Value.int IntKind.i64 (x)) (vy := Value.int IntKind.i64 (a)) rfl rfl rfl rfl (EQ.out w')) ?_
      exact ⟨gs, IB, IS, J9, rfl⟩
    · obtain rfl : x4 = false := by simpa using hbi
      refine wpOpIn_plain rfl rfl rfl ?_
      exact ⟨gs, IB, IS, J9, rfl⟩
    · obtain rfl : x5 = false := by simpa using hbi
      refine wpOpIn_plain (v := Value.pointer (some ⟨w.heap.size, 0, none⟩)) (w' := w') rfl rfl (by simp [Oper.semAt, execOp, go_sem]) ?_
      exact ⟨gs, IB, IS, J9, rfl⟩
    · obtain rfl : x6 = false := by simpa using hbi
      obtain rfl : x5 = true := hdep _ rfl ⟨5, .data⟩ (by simp) rfl
      have c0 := kcell IB.out C0.out
      refine wpOpIn_plain (v := Value.int IntKind.i64 (a)) (w' := w') rfl rfl (by simp [Oper.semAt, execOp, go_sem, c0]) ?_
      exact ⟨gs, IB, IS, J9, rfl⟩
    · obtain rfl : x7 = false := by simpa using hbi
      obtain rfl : x4 = true := hdep _ rfl ⟨4, .data⟩ (by simp) rfl
      obtain rfl : x6 = true := hdep _ rfl ⟨6, .data⟩ (by simp) rfl
      refine wpOpIn_plain (v := Value.int IntKind.i64 (q)) (w' := w') rfl rfl (sem_bin (vx := Value.int IntKind.i64 (x)) (vy := Value.int IntKind.i64 (a)) rfl rfl rfl rfl (ER.out w')) ?_
      exact ⟨gs, IB, IS, J9, rfl⟩
    · obtain rfl : x8 = false := by simpa using hbi
      obtain rfl : x3 = true := hdep _ rfl ⟨3, .data⟩ (by simp) rfl
      obtain rfl : x7 = true := hdep _ rfl ⟨7, .data⟩ (by simp) rfl
      obtain rfl : x9 = false := Bool.eq_false_iff.2 fun h => by have := J9.out h; cases this
      refine wpOpIn_plain (v := Value.slice (some ⟨w'.heap.size, 0, none⟩) 2 2) (w' := w'.alloc (.cells #[.int .i64 p, .int .i64 q] 3)) rfl rfl (by simp [Oper.semAt, execOp, go_sem]) ?_
      have hb9 : Below w'.heap.size w' (w'.alloc (.cells #[.int .i64 p, .int .i64 q] 3)) := (Below.refl _ _).alloc (Nat.le_refl _) _
      exact ⟨w'.heap.size, (IB.out.trans (hb9.mono IB.out.size)), (fun _ => ⟨Nat.le_trans HB.out.size IB.out.size, RowAt.two p q⟩), (fun _ => rfl), rfl⟩
    · obtain rfl : x9 = false := by simpa using hbi
      obtain rfl : x8 = true := hdep _ rfl ⟨8, .data⟩ (by simp) rfl
      refine wpOpIn_plain rfl rfl rfl ?_
      exact ⟨gs, IB, IS, (fun _ => rfl), rfl⟩
  case fin =>
  intro listed a' Z hs hall ⟨gs, IB, IS, J9, ha⟩
  obtain ⟨ls⟩ := listed
  match ls, hs with
  | [x0, x1, x2, x3, x4, x5, x6, x7, x8, x9], _ =>
  obtain rfl : x0 = true := hall 0 (by simp)
  obtain rfl : x1 = true := hall 1 (by simp)
  obtain rfl : x2 = true := hall 2 (by simp)
  obtain rfl : x3 = true := hall 3 (by simp)
  obtain rfl : x4 = true := hall 4 (by simp)
  obtain rfl : x5 = true := hall 5 (by simp)
  obtain rfl : x6 = true := hall 6 (by simp)
  obtain rfl : x7 = true := hall 7 (by simp)
  obtain rfl : x8 = true := hall 8 (by simp)
  obtain rfl : x9 = true := hall 9 (by simp)
  subst ha
  have HZ : Hid (Below X.heap.size X Z) := IB
  have HS := Lib.hid (IS.out rfl)
  clear IB IS J9 hall hs EQ ER C0
  dsimp only [Exit.then, Exit.inBlock]
  go_wp2_with fail
  go_ret
  exact ⟨gs, rfl, HS.out.1, HS.out.2, HB.out.trans (HZ.out.mono HB.out.size)⟩
end Go.Proofs.YtbhkenphcahifaaGreat
namespace Go.Proofs.YtbhkenphcahifaaGreat
open Go.RowKit Go.Shelf
attribute [local go_sem] Oper.semAt_some
set_option maxHeartbeats 400000 in
theorem backward_any {w : World} (ex : Nat → Prop) (hx : ¬ ex w.heap.size) (a : Option Addr) (l : List Int) (cap : Nat) (h : Ints w a l) (hax : ∀ g off, a = some ⟨g, off, none⟩ → l ≠ [] → ¬ ex g) :
    Calls Tryz.prog 150 #[.slice a l.length cap] w fun e w' => ∃ lb, e = .returned (.func (.func 159) #[] lb) ∧ Below w.heap.size w w' ∧ BIter l lb ex w' := by
  have HE := Lib.hid h
  have HX := Lib.hid hax
  clear h hax
  go_enter Tryz.func150, Tryz.ntmps150
  go_wp2_with fail
  go_ret
  have hb : Below w.heap.size w (w.alloc (.cells #[.slice a l.length cap] 22)) := (Below.refl _ _).alloc (Nat.le_refl _) _
  exact ⟨_, rfl, hb, backIter _ ex hx a l cap (HE.out.keep hb) HX.out (by simp)⟩
theorem own_blk {β : Type} (B b : Nat) (o : β → Obj) (ho : ∀ s, (o s).isCells = true) : OwnFrom B (fun (s : β) W => W.heap[b]? = some (o s)) := fun s X Y row hs hg hr => by
  refine (hg.block b (Array.getElem?_eq_some_iff.1 hs).1 (fun e => ?_)).trans hs
  obtain ⟨_, o', ho', hc⟩ := hr b e.symm
  rw [hs] at ho'; cases ho'
  rw [ho s] at hc; cases hc
/-- one coordinate -/
def cstep (sizes : List Int) (st : Int × List Int) (i : Nat) : Int × List Int := (st.1 / sizes.getD i 0, st.2.set i (st.1 % sizes.getD i 0))
def cfold (sizes : List Int) (r : Int) (l : List Nat) : Int × List Int := l.foldl (cstep sizes) (r, List.replicate sizes.length 0)
def coordsL (sizes : List Int) (r : Int) : List Int := (cfold sizes r (List.range sizes.length).reverse).2
theorem cfold_snoc (sizes : List Int) (r : Int) (l : List Nat) (i : Nat) : cfold sizes r (l ++ [i]) = cstep sizes (cfold sizes r l) i := by simp [cfold]
theorem cfold_len (sizes : List Int) (r : Int) (l : List Nat) : (cfold sizes r l).2.length = sizes.length := by
  unfold cfold
  have : ∀ (l : List Nat) (st : Int × List Int), (l.foldl (cstep sizes) st).2.length = st.2.length := by
    intro l
    induction l with
    | nil => intro st; rfl
    | cons x l ih => intro st; rw [List.foldl_cons, ih]; simp [cstep]
  rw [this]; simp
/-- a boxed integer -/
def BoxI (w : World) (b : Nat) (v : Int) : Prop := w.heap[b]? = some (.cells #[.int .i64 v] 3 (0, 0))
theorem BoxI.cell {w : World} {b : Nat} {v : Int} (h : BoxI w b v) : w.cell? ⟨b, 0, none⟩ = some (.int .i64 v) ∧ w.frozen? ⟨b, 0, none⟩ = false := by
  unfold BoxI at h
  simp [World.cell?, World.frozen?, h]
theorem BoxI.lt {w : World} {b : Nat} {v : Int} (h : BoxI w b v) : b < w.heap.size := (Array.getElem?_eq_some_iff.1 h).1
theorem BoxI.set {w : World} {b : Nat} {v : Int} (h : BoxI w b v) (u : Int) : BoxI (w.setCell ⟨b, 0, none⟩ (.int .i64 u)) b u := by
  unfold BoxI; rw [heap_setCell_same w b 0 _ 3 _ h]; rfl
set_option maxRecDepth 100000 in
set_option maxHeartbeats 4000000 in
theorem coords_any {w : World} {sa : Option Addr} {sizes : List Int} (h : Ints w sa sizes) (hp : ∀ s ∈ sizes, 1 ≤ s ∧ s ≤ 64) (sc : Nat) (mm : Int) (r : Int) (hr : 0 ≤ r) (hr2 : r ≤ 1000) :
    Calls Tryz.prog 141 #[.agg #[.slice sa sizes.length sc, .int .i64 mm], .int .i64 r] w fun e w' => ∃ b, e = .returned (.slice (some ⟨b, 0, none⟩) sizes.length sizes.length) ∧ w.heap.size ≤ b ∧ RowAt w' b (coordsL sizes r) ∧ Below w.heap.size w w' := by
  have hlen := h.len
  have hmk := make_ints sizes.length hlen
  have HP := Lib.hid hp
  have HE := Lib.hid h
  clear h hp
  refine (callsIn_wide (n := 3)).1 ?_
  refine callsIn_of_wp_marks Tryz.func141 rfl trivial ?_ rfl
  simp only [Tryz.ntmps141, List.size_toArray, List.length_cons, List.length_nil, Nat.reduceAdd, Nat.reduceSub, Array.replicate_succ, Array.replicate_zero, List.push_toArray, List.append_toArray, List.nil_append, List.cons_append]
  gi_wp2
  refine ⟨trivial, ?_⟩
  clear hmk
  have hb0 : Below w.heap.size w ((((w.alloc (.cells #[.slice sa sizes.length sc, .int .i64 mm] 138)).alloc (.cells #[.int .i64 r] 3)).alloc (.cells (rowA (List.replicate sizes.length 0)) 3)).alloc (.cells #[.slice (some ⟨w.heap.size + 1 + 1, 0, none⟩) sizes.length sizes.length] 22)) :=
    ((((Below.refl _ _).alloc (Nat.le_refl _) _).alloc (by simp) _).alloc (by simp; omega) _).alloc (by simp; omega) _
  have q0 : BoxI ((((w.alloc (.cells #[.slice sa sizes.length sc, .int .i64 mm] 138)).alloc (.cells #[.int .i64 r] 3)).alloc (.cells (rowA (List.replicate sizes.length 0)) 3)).alloc (.cells #[.slice (some ⟨w.heap.size + 1 + 1, 0, none⟩) sizes.length sizes.length] 22)) (w.heap.size + 1) r := by
    unfold BoxI
    rw [Below.heap_alloc _ _ _ (by simp), Below.heap_alloc _ _ _ (by simp)]
    have := World.alloc_heap_new (w.alloc (.cells #[.slice sa sizes.length sc, .int .i64 mm] 138)) (.cells #[.int .i64 r] 3)
    simpa using this
  have q1 : RowAt ((((w.alloc (.cells #[.slice sa sizes.length sc, .int .i64 mm] 138)).alloc (.cells #[.int .i64 r] 3)).alloc (.cells (rowA (List.replicate sizes.length 0)) 3)).alloc (.cells #[.slice (some ⟨w.heap.size + 1 + 1, 0, none⟩) sizes.length sizes.length] 22)) (w.heap.size + 2) (List.replicate sizes.length 0) := by
    unfold RowAt
    rw [Below.heap_alloc _ _ _ (by simp)]
    have := World.alloc_heap_new ((w.alloc (.cells #[.slice sa sizes.length sc, .int .i64 mm] 138)).alloc (.cells #[.int .i64 r] 3)) (.cells (rowA (List.replicate sizes.length 0)) 3)
    simpa using this
  have q2 : ((((w.alloc (.cells #[.slice sa sizes.length sc, .int .i64 mm] 138)).alloc (.cells #[.int .i64 r] 3)).alloc (.cells (rowA (List.replicate sizes.length 0)) 3)).alloc (.cells #[.slice (some ⟨w.heap.size + 1 + 1, 0, none⟩) sizes.length sizes.length] 22)).heap[w.heap.size + 3]? = some (.cells #[.slice (some ⟨w.heap.size + 2, 0, none⟩) sizes.length sizes.length] 22 (0, 0)) := by
    have := World.alloc_heap_new (((w.alloc (.cells #[.slice sa sizes.length sc, .int .i64 mm] 138)).alloc (.cells #[.int .i64 r] 3)).alloc (.cells (rowA (List.replicate sizes.length 0)) 3)) (.cells #[.slice (some ⟨w.heap.size + 1 + 1, 0, none⟩) sizes.length sizes.length] 22)
    simpa using this
  have q3 : w.heap.size + 4 = ((((w.alloc (.cells #[.slice sa sizes.length sc, .int .i64 mm] 138)).alloc (.cells #[.int .i64 r] 3)).alloc (.cells (rowA (List.replicate sizes.length 0)) 3)).alloc (.cells #[.slice (some ⟨w.heap.size + 1 + 1, 0, none⟩) sizes.length sizes.length] 22)).heap.size := by simp
  generalize ((((w.alloc (.cells #[.slice sa sizes.length sc, .int .i64 mm] 138)).alloc (.cells #[.int .i64 r] 3)).alloc (.cells (rowA (List.replicate sizes.length 0)) 3)).alloc (.cells #[.slice (some ⟨w.heap.size + 1 + 1, 0, none⟩) sizes.length sizes.length] 22)) = W0 at *
  have hsa : ∀ g off, sa = some ⟨g, off, none⟩ → sizes ≠ [] → ¬ (g = w.heap.size + 1 ∨ g = w.heap.size + 2) := by
    intro g off e hne
    obtain ⟨g', off', e', hc⟩ := HE.out.at_ hne
    rw [e] at e'; cases e'
    have := block_lt_of_cell (hc 0 (by cases sizes with | nil => exact absurd rfl hne | cons x l => simp))
    simp only at this
    omega
  refine (callsIn_wide.2 (backward_any (fun k => k = w.heap.size + 1 ∨ k = w.heap.size + 2) (by omega) sa sizes sc (HE.out.keep hb0) hsa)).mono ?_
  rintro e w1 ⟨lb, rfl, hb1, hit⟩
  clear hsa
  gi_wp2
  have hz1 := hb1.size
  have hx0 : 0 < Fence.wide.depth.isSome.toNat + 1 := by omega
  clear hx0
  refine wpIn_rangeFunc_ownH rfl (by omega) (gf := 159) (lb := lb) rfl trivial hit.1 (hit.2 _) (fun h k => h.trans k) (fun W l o o' h1 h2 h3 h4 => KeepP.putObj W l o o' h2 h3) (Below.refl _ _) (fun _ => rfl)
    (fun pre W => BoxI W (w.heap.size + 1) (cfold sizes r (pre.map (·.1))).1 ∧ RowAt W (w.heap.size + 2) (cfold sizes r (pre.map (·.1))).2 ∧ W.heap[w.heap.size + 3]? = some (.cells #[.slice (some ⟨w.heap.size + 2, 0, none⟩) sizes.length sizes.length] 22 (0, 0)) ∧ Below w.heap.size w W ∧ 0 ≤ (cfold sizes r (pre.map (·.1))).1 ∧ (cfold sizes r (pre.map (·.1))).1 ≤ 1000)
    (fun c pre W => False)
    ?hI ?hIx ?h0 (fun x a' _ => a' = ⟨#[Value.agg #[Value.slice sa sizes.length sc, Value.int IntKind.i64 mm], Value.int IntKind.i64 r,
          Value.pointer (some { block := w.heap.size, off := 0 }),
          Value.pointer (some { block := w.heap.size + 1, off := 0 }), Value.slice none 0 0,
          Value.pointer (some { block := w.heap.size + 1 + 1 + 1, off := 0 }), .int .i64 (x.1 : Int), .int .i64 (sizes.getD x.1 0),
          Value.pointer (some { block := w.heap.size, off := 0 }), Value.slice sa sizes.length sc,
          Value.int IntKind.i64 ↑sizes.length,
          Value.slice (some { block := w.heap.size + 1 + 1, off := 0 }) sizes.length sizes.length,
          Value.pointer (some { block := w.heap.size, off := 0 }), Value.slice sa sizes.length sc,
          Value.func (Fn.func 159) #[] lb, .int .i64 (x.1 : Int), .int .i64 (sizes.getD x.1 0), undef, undef, undef, undef, undef, undef, undef, undef, undef,
          undef], []⟩) ?hAx ?assign ?body ?done ?stop
  case hI => exact OwnFrom.and (own_blk _ _ _ (fun _ => rfl)) (OwnFrom.and (own_blk _ _ _ (fun _ => rfl)) (OwnFrom.and (own_blk _ _ _ (fun _ => rfl)) (OwnFrom.and (ownFrom_below (by omega) (by omega)) (ownFrom_pure _ _))))
  case hIx => exact fun c => ownFrom_pure _ _
  case h0 => exact ⟨(hb1.block _ (by omega)).trans q0, (hb1.block _ (by omega)).trans q1, (hb1.block _ (by omega)).trans q2, hb0.trans (hb1.mono (by omega)), hr, hr2⟩
  case hAx => exact fun x a' => ownFrom_pure _ _
  case assign =>
    rintro ll pre x W K hI hK
    gi_wp2
    exact hK _ _ (KeepsFrom.refl _ _) (KeepP.refl _ _) hI (by simp)
  case body =>
    rintro ll pre x a' W hl ⟨rr, hrr⟩ ⟨hB, hR, hS, hbW, hpos, hpo2⟩ rfl hlt
    have hx := x.2
    obtain ⟨s1, s2⟩ := HP.out (sizes[x.1]) (List.getElem_mem hx)
    have e1 : sizes.getD x.1 0 = sizes[x.1] := by simp [List.getD, hx]
    rw [e1]
    have HF : Hid (cfold sizes r ((pre ++ [x]).map (·.1)) = cstep sizes (cfold sizes r (pre.map (·.1))) x.1) := by show _ = _; rw [List.map_append]; exact cfold_snoc _ _ _ _
    have HL : Hid ((cfold sizes r (pre.map (·.1))).2.length = sizes.length) := cfold_len _ _ _
    have HC : Hid (cstep sizes (cfold sizes r (pre.map (·.1))) x.1 = ((cfold sizes r (pre.map (·.1))).1 / sizes[x.1], (cfold sizes r (pre.map (·.1))).2.set x.1 ((cfold sizes r (pre.map (·.1))).1 % sizes[x.1]))) := by show _ = _; unfold cstep; rw [e1]
    clear hrr e1
    generalize cfold sizes r (pre.map (·.1)) = st at *
    obtain ⟨sr, sl⟩ := st
    dsimp only at *
    obtain ⟨u0, u1⟩ := hB.cell
    have v0 : W.cell? ⟨w.heap.size + 1 + 1 + 1, 0, none⟩ = some (.slice (some ⟨w.heap.size + 2, 0, none⟩) sizes.length sizes.length) := by
      rw [cell_of_row W _ 0 _ _ _ hS]; rfl
    have t0 := hR.cell x.1 (by rw [HL.out]; exact hx)
    have t1 := hR.open_ x.1
    have tl := hR.lt
    generalize sizes[x.1] = sz at *
    have hsz0 : sz ≠ 0 := by omega
    have hmod : sr.tmod sz = sr % sz := Int.tmod_eq_emod_of_nonneg hpos
    have hdle : sr / sz ≤ sr := Int.ediv_le_self _ hpos
    have hdnn : 0 ≤ sr / sz := Int.ediv_nonneg hpos (by omega)
    have hdiv : wrap64 (sr.tdiv sz) = sr / sz := by
      rw [Int.tdiv_eq_ediv_of_nonneg hpos]; unfold wrap64; omega
    gi_wp2
    refine region_det (by kernel_rfl) (I := fun listed a' w' => ((listed.getD 4 false = true → listed.getD 2 false = true) ∧ (listed.getD 4 false = true → listed.getD 3 false = true) ∧ (listed.getD 5 false = true → listed.getD 0 false = true) ∧ (listed.getD 5 false = true → listed.getD 1 false = true) ∧ (listed.getD 6 false = true → listed.getD 0 false = true) ∧ (listed.getD 6 false = true → listed.getD 1 false = true) ∧ (listed.getD 6 false = true → listed.getD 2 false = true) ∧ (listed.getD 6 false = true → listed.getD 3 false = true) ∧ (listed.getD 6 false = true → listed.getD 4 false = true) ∧ (listed.getD 6 false = true → listed.getD 5 false = true)) ∧ w' = (if listed.getD 6 false = true then W.drew.setCell ⟨w.heap.size + 2, x.1, none⟩ (.int .i64 (sr % sz)) else W.drew) ∧ a' = ⟨#[Value.agg #[Value.slice sa sizes.length sc, Value.int IntKind.i64 mm], Value.int IntKind.i64 r, Value.pointer (some { block := w.heap.size, off := 0 }), Value.pointer (some { block := w.heap.size + 1, off := 0 }), Value.slice none 0 0, Value.pointer (some { block := w.heap.size + 1 + 1 + 1, off := 0 }), Value.int IntKind.i64 (x.1 : Int), Value.int IntKind.i64 sz, Value.pointer (some { block := w.heap.size, off := 0 }), Value.slice sa sizes.length sc, Value.int IntKind.i64 ↑sizes.length, Value.slice (some { block := w.heap.size + 1 + 1, off := 0 }) sizes.length sizes.length, Value.pointer (some { block := w.heap.size, off := 0 }), Value.slice sa sizes.length sc, Value.func (Fn.func 159) #[] lb, Value.int IntKind.i64 (x.1 : Int), Value.int IntKind.i64 sz, if listed.getD 0 false = true then .slice (some ⟨w.heap.size + 2, 0, none⟩) sizes.length sizes.length else undef, if listed.getD 1 false = true then .int .i64 (x.1 : Int) else undef, if listed.getD 2 false = true then .int .i64 sr else undef, if listed.getD 3 false = true then .int .i64 sz else undef, if listed.getD 4 false = true then .int .i64 (sr % sz) else undef, if listed.getD 5 false = true then .pointer (some ⟨w.heap.size + 2, x.1, none⟩) else undef, undef, undef, undef, undef], []⟩) (hup_check (by kernel_rfl)) ?h0 ?step ?fin
    case h0 => exact ⟨by simp, rfl, rfl⟩
    case step =>
      intro listed a' w' i hs hbi hdep hi ⟨hinv, hW, ha⟩
      obtain ⟨ls⟩ := listed
      match ls, hs with
      | [b0, b1, b2, b3, b4, b5, b6], _ =>
      subst ha
      have hi' : i = 0 ∨ i = 1 ∨ i = 2 ∨ i = 3 ∨ i = 4 ∨ i = 5 ∨ i = 6 := by simp at hi; omega
      simp only [Array.getD_eq_getD_getElem?, List.getElem?_toArray, List.getElem?_cons_zero, List.getElem?_cons_succ, Option.getD_some] at hinv hW hbi
      rcases hi' with rfl | rfl | rfl | rfl | rfl | rfl | rfl
      · obtain rfl : b0 = false := by simpa using hbi
        obtain rfl : b6 = false := by cases b6 <;> simp_all
        simp only [Bool.false_eq_true, if_false] at hW
        subst hW
        clear hdep hbi hi
        refine wpOpIn_step rfl (fun K' hK => ?_)
        rw [if_pos (by rfl)]
        refine wpInF_plain (fun _ _ => trivial) (v := .slice (some ⟨w.heap.size + 2, 0, none⟩) sizes.length sizes.length) (w' := W.drew) ?_ ?_
        · go_simp
        · exact hK _ _ ⟨by simp_all, by simp, by first | rfl | simp⟩
      · obtain rfl : b1 = false := by simpa using hbi
        obtain rfl : b6 = false := by cases b6 <;> simp_all
        simp only [Bool.false_eq_true, if_false] at hW
        subst hW
        clear hdep hbi hi
        refine wpOpIn_step rfl (fun K' hK => ?_)
        rw [if_pos (by rfl)]
        refine wpInF_plain (fun _ _ => trivial) (v := .int .i64 (x.1 : Int)) (w' := W.drew) ?_ ?_
        · go_simp
        · exact hK _ _ ⟨by simp_all, by simp, by first | rfl | simp⟩
      · obtain rfl : b2 = false := by simpa using hbi
        obtain rfl : b6 = false := by cases b6 <;> simp_all
        simp only [Bool.false_eq_true, if_false] at hW
        subst hW
        clear hdep hbi hi
        refine wpOpIn_step rfl (fun K' hK => ?_)
        rw [if_pos (by rfl)]
        refine wpInF_plain (fun _ _ => trivial) (v := .int .i64 sr) (w' := W.drew) ?_ ?_
        · go_simp
        · exact hK _ _ ⟨by simp_all, by simp, by first | rfl | simp⟩
      · obtain rfl : b3 = false := by simpa using hbi
        obtain rfl : b6 = false := by cases b6 <;> simp_all
        simp only [Bool.false_eq_true, if_false] at hW
        subst hW
        clear hdep hbi hi
        refine wpOpIn_step rfl (fun K' hK => ?_)
        rw [if_pos (by rfl)]
        refine wpInF_plain (fun _ _ => trivial) (v := .int .i64 sz) (w' := W.drew) ?_ ?_
        · go_simp
        · exact hK _ _ ⟨by simp_all, by simp, by first | rfl | simp⟩
      · obtain rfl : b4 = false := by simpa using hbi
        obtain rfl : b2 = true := hdep _ rfl ⟨2, .data⟩ (by simp) rfl
        obtain rfl : b3 = true := hdep _ rfl ⟨3, .data⟩ (by simp) rfl
        obtain rfl : b6 = false := by cases b6 <;> simp_all
        simp only [Bool.false_eq_true, if_false] at hW
        subst hW
        clear hdep hbi hi
        refine wpOpIn_step rfl (fun K' hK => ?_)
        rw [if_pos (by rfl)]
        refine wpInF_plain (fun _ _ => trivial) (v := .int .i64 (sr % sz)) (w' := W.drew) ?_ ?_
        · go_simp
        · exact hK _ _ ⟨by simp_all, by simp, by first | rfl | simp⟩
      · obtain rfl : b5 = false := by simpa using hbi
        obtain rfl : b0 = true := hdep _ rfl ⟨0, .data⟩ (by simp) rfl
        obtain rfl : b1 = true := hdep _ rfl ⟨1, .data⟩ (by simp) rfl
        obtain rfl : b6 = false := by cases b6 <;> simp_all
        simp only [Bool.false_eq_true, if_false] at hW
        subst hW
        clear hdep hbi hi
        refine wpOpIn_step rfl (fun K' hK => ?_)
        rw [if_pos (by rfl)]
        refine wpInF_plain (fun _ _ => trivial) (v := .pointer (some ⟨w.heap.size + 2, x.1, none⟩)) (w' := W.drew) ?_ ?_
        · go_simp
        · exact hK _ _ ⟨by simp_all, by simp, by first | rfl | simp⟩
      · obtain rfl : b6 = false := by simpa using hbi
        obtain rfl : b5 = true := hdep _ rfl ⟨5, .data⟩ (by simp) rfl
        obtain rfl : b4 = true := hdep _ rfl ⟨4, .data⟩ (by simp) rfl
        simp only [Bool.false_eq_true, if_false] at hW
        subst hW
        clear hdep hbi hi
        refine wpOpIn_step rfl (fun K' hK => ?_)
        rw [if_pos (by rfl)]
        refine wpInF_skip (fun _ _ => trivial) (w' := W.drew.setCell ⟨w.heap.size + 2, x.1, none⟩ (.int .i64 (sr % sz))) ?_ ?_
        · go_simp
        · exact hK _ _ ⟨by simp_all, by simp, by first | rfl | simp⟩
    case fin =>
      intro listed a' w' hs hall ⟨_, hW, ha⟩
      obtain ⟨ls⟩ := listed
      match ls, hs with
      | [b0, b1, b2, b3, b4, b5, b6], _ =>
      obtain rfl : b0 = true := hall 0 (by simp)
      obtain rfl : b1 = true := hall 1 (by simp)
      obtain rfl : b2 = true := hall 2 (by simp)
      obtain rfl : b3 = true := hall 3 (by simp)
      obtain rfl : b4 = true := hall 4 (by simp)
      obtain rfl : b5 = true := hall 5 (by simp)
      obtain rfl : b6 = true := hall 6 (by simp)
      clear hall hs
      simp only [Array.getD_eq_getD_getElem?, List.getElem?_toArray, List.getElem?_cons_zero, List.getElem?_cons_succ, Option.getD_some, if_true] at hW ha
      subst ha
      subst hW
      have B1 : BoxI (W.drew.setCell ⟨w.heap.size + 2, x.1, none⟩ (.int .i64 (sr % sz))) (w.heap.size + 1) sr := by unfold BoxI; rw [heap_setCell_other _ _ _ _ (by simp)]; exact hB
      have R1 : RowAt (W.drew.setCell ⟨w.heap.size + 2, x.1, none⟩ (.int .i64 (sr % sz))) (w.heap.size + 2) (sl.set x.1 (sr % sz)) := RowAt.set (w := W.drew) hR x.1 (sr % sz)
      have S1 : (W.drew.setCell ⟨w.heap.size + 2, x.1, none⟩ (.int .i64 (sr % sz))).heap[w.heap.size + 3]? = some (.cells #[.slice (some ⟨w.heap.size + 2, 0, none⟩) sizes.length sizes.length] 22 (0, 0)) := by rw [heap_setCell_other _ _ _ _ (by simp)]; exact hS
      have hb2 : Below w.heap.size w (W.drew.setCell ⟨w.heap.size + 2, x.1, none⟩ (.int .i64 (sr % sz))) := hbW.drew.setCell (by simp) _
      have K1 : KeepsOthers W (W.drew.setCell ⟨w.heap.size + 2, x.1, none⟩ (.int .i64 (sr % sz))) := (KeepsOthers.drew W).trans (KeepsOthers.setCell _ _ _)
      have K2 : KeepP (fun k => k = w.heap.size + 1 ∨ k = w.heap.size + 2) W (W.drew.setCell ⟨w.heap.size + 2, x.1, none⟩ (.int .i64 (sr % sz))) := (KeepP.refl _ _).drew.setCell _ _ (.inr rfl) _
      obtain ⟨u0, u1⟩ := B1.cell
      have ul := hB.lt
      have HS1 := Lib.hid S1
      clear v0 t0 t1 hS S1
      generalize W.drew.setCell ⟨w.heap.size + 2, x.1, none⟩ (.int .i64 (sr % sz)) = V at *
      gi_wp2
      refine ⟨(K1.trans (KeepsOthers.setCell _ _ _)).from _, K2.setCell _ _ (.inl rfl) _, ?_⟩
      dsimp only
      rw [HF.out, HC.out]
      try rw [hdiv]
      refine ⟨B1.set _, R1.set_other _ _ _ (by omega), ?_, hb2.setCell (by simp) _, hdnn, by omega⟩
      rw [heap_setCell_other _ _ _ _ (by simp)]; exact HS1.out
  case done =>
    rintro D xs W hD hxs ⟨hB, hR, hS, hbW, hpos, _⟩ hdf
    rw [hxs] at hR
    have v0 : W.cell? ⟨w.heap.size + 1 + 1 + 1, 0, none⟩ = some (.slice (some ⟨w.heap.size + 2, 0, none⟩) sizes.length sizes.length) := by
      rw [cell_of_row W _ 0 _ _ _ hS]; rfl
    clear hS hB hpos
    gi_wp2
    refine ⟨by simp, .inl ⟨_, _, rfl, run_takeDeferred hdf, ?_⟩⟩
    refine ⟨.slice (some ⟨w.heap.size + 2, 0, none⟩) sizes.length sizes.length, ?_, w.heap.size + 2, rfl, by omega, ?_, hbW.trans ⟨rfl, rfl, rfl, by simp [World.putObj], fun k hk => World.putObj_heap_other (by omega)⟩⟩
    · simp [results, Tryz.results141, go_sem]
    · unfold RowAt; rw [World.putObj_heap_other (by omega)]; exact hR
  case stop => exact fun D c pre W hD hpre h => h.elim
end Go.Proofs.YtbhkenphcahifaaGreat
namespace Go.Proofs.YtbhkenphcahifaaGreat
open Go.RowKit Go.Shelf
attribute [local go_sem] Oper.semAt_some
set_option maxRecDepth 100000
set_option maxHeartbeats 4000000
/-- how many switches -/
def swI (kind : Int) (l : List Int) : Int := if kind = 1 then prodI l else if kind = 2 then l.getD 1 0 * wordsI l else l.getD 0 0 * (l.getD 0 0 * l.getD 1 0 + 1)
/-- how many homes -/
def hoI (kind : Int) (l : List Int) : Int := if kind = 2 then wordsI l else swI kind l
theorem prod_pos_acc : ∀ (l : List Int) (a : Int), 1 ≤ a → (∀ x ∈ l, 1 ≤ x) → 1 ≤ l.foldl (· * ·) a
  | [], a, h, _ => h
  | x :: l, a, h, hl => by
    refine prod_pos_acc l (a * x) ?_ (fun y hy => hl y (List.mem_cons_of_mem _ hy))
    have := Int.mul_le_mul h (hl x (List.mem_cons_self ..)) (by decide) (by omega)
    omega
theorem words_bound {l : List Int} {h : Int} (hr : rOk l h) : 1 ≤ wordsI l ∧ wordsI l * l.getD 0 0 ≤ 256 ∧ wordsI l ≤ 128 := by
  obtain ⟨_, h1, h2, h3, _⟩ := hr
  unfold wordsI
  generalize l.getD 0 0 = kk at *
  generalize l.getD 1 0 = ll at *
  obtain ⟨kn, rfl⟩ := Int.eq_ofNat_of_zero_le (show 0 ≤ kk by omega)
  obtain ⟨ln, rfl⟩ := Int.eq_ofNat_of_zero_le (show 0 ≤ ll by omega)
  simp only [Int.toNat_natCast] at *
  have e : kn ^ ln = kn ^ (ln - 1) * kn := by rw [← Nat.pow_succ, show (ln - 1).succ = ln by omega]
  have hp : 1 ≤ kn ^ (ln - 1) := Nat.one_le_pow _ _ (by omega)
  rw [e] at h3
  generalize kn ^ (ln - 1) = p at *
  have h9 : p * 2 ≤ p * kn := Nat.mul_le_mul_left p (by omega)
  have h8 : ((p * kn : Nat) : Int) = (p : Int) * (kn : Int) := by simp
  omega
theorem v_bound {kind : Int} {l : List Int} {h : Int} (hv : vOk kind l h) : 1 ≤ hoI kind l ∧ hoI kind l ≤ 256 ∧ hoI kind l ≤ swI kind l ∧ swI kind l ≤ 512 ∧ 1 ≤ h ∧ h ≤ 8 := by
  rcases hv with ⟨rfl, h1⟩ | ⟨rfl, h1⟩ | ⟨rfl, h1⟩
  · have hp : 1 ≤ prodI l := prod_pos_acc l 1 (by decide) (fun x hx => by have := h1.2.2.1 x hx; omega)
    have h2 := h1.2.1
    have h3 := h1.2.2.2
    unfold hoI swI
    rw [if_neg (by decide), if_pos rfl]
    omega
  · obtain ⟨w1, w2, w3⟩ := words_bound h1
    obtain ⟨_, k1, k2, k3, k4⟩ := h1
    unfold hoI swI
    rw [if_pos rfl, if_neg (by decide), if_pos rfl]
    have e1 := Int.mul_le_mul k2.2 w3 (by omega) (by decide)
    have e2 := Int.mul_le_mul k2.1 (Int.le_refl (wordsI l)) (by omega) (by omega)
    omega
  · obtain ⟨_, k0, k1, k2, k3⟩ := h1
    obtain ⟨b1, b2, b3, b4⟩ := drag_bound k1.1 k1.2 k2.1 k2.2
    unfold hoI swI
    rw [if_neg (by decide), if_neg (by decide), if_neg (by decide)]
    omega
theorem m_size1 (sa : Option Addr) (n sc : Nat) (m : Int) (w : World) : (method 330 138 (.agg #[.slice sa n sc, .int .i64 m]) "armada/net.size").run Tryz.prog w = .ok (144, .agg #[.slice sa n sc, .int .i64 m]) w := by kernel_rfl
theorem m_size2 (a b c : Int) (w : World) : (method 330 142 (.agg #[.int .i64 a, .int .i64 b, .int .i64 c]) "armada/net.size").run Tryz.prog w = .ok (185, .agg #[.int .i64 a, .int .i64 b, .int .i64 c]) w := by kernel_rfl
theorem m_size3 (a b c : Int) (w : World) : (method 330 146 (.agg #[.int .i64 a, .int .i64 b, .int .i64 c]) "armada/net.size").run Tryz.prog w = .ok (199, .agg #[.int .i64 a, .int .i64 b, .int .i64 c]) w := by kernel_rfl
theorem m_place1 (sa : Option Addr) (n sc : Nat) (m : Int) (w : World) : (method 330 138 (.agg #[.slice sa n sc, .int .i64 m]) "armada/net.place").run Tryz.prog w = .ok (141, .agg #[.slice sa n sc, .int .i64 m]) w := by kernel_rfl
theorem m_place2 (a b c : Int) (w : World) : (method 330 142 (.agg #[.int .i64 a, .int .i64 b, .int .i64 c]) "armada/net.place").run Tryz.prog w = .ok (182, .agg #[.int .i64 a, .int .i64 b, .int .i64 c]) w := by kernel_rfl
theorem m_place3 (a b c : Int) (w : World) : (method 330 146 (.agg #[.int .i64 a, .int .i64 b, .int .i64 c]) "armada/net.place").run Tryz.prog w = .ok (196, .agg #[.int .i64 a, .int .i64 b, .int .i64 c]) w := by kernel_rfl
theorem Size1_any {w : World} {sa : Option Addr} {l : List Int} (h : Ints w sa l) (sc : Nat) (hosts : Int) (hv : vOk 1 l hosts) :
    Calls Tryz.prog 41 #[.agg #[.int .i64 1, .slice sa l.length sc, .int .i64 hosts]] w fun e w' => e = .returned (.tuple #[.int .i64 (swI 1 l), .int .i64 (hoI 1 l * hosts), .int .i64 0]) ∧ Below w.heap.size w w' := by
  have HO : Hid (∀ W, Below w.heap.size w W → Calls Tryz.prog 47 #[.agg #[.int .i64 1, .slice sa l.length sc, .int .i64 hosts]] W fun e w' => Below W.heap.size W w' ∧ ((vOk 1 l hosts ∧ e = .returned (.tuple #[netV 1 sa sc l, .int .i64 0])) ∨ (¬ vOk 1 l hosts ∧ e = .returned (.tuple #[.nilIface, .int .i64 2])))) := fun W hb => networkOf_any (h.keep hb) sc 1 hosts
  have hb0 : Below w.heap.size w (w.alloc (.cells #[.int .i64 1, .slice sa l.length sc, .int .i64 hosts] 24)) := (Below.refl _ _).alloc (Nat.le_refl _) _
  have Q0 := Lib.hid (heap_alloc_new w (.cells #[.int .i64 1, .slice sa l.length sc, .int .i64 hosts] 24))
  have HB := Lib.hid hb0
  have c0 := cellR 0 Q0.out rfl
  have c1 := cellR 1 Q0.out rfl
  have c2 := cellR 2 Q0.out rfl
  obtain ⟨v1, v2, v3, v4, v5, v6⟩ := v_bound hv
  have hmul := Int.mul_le_mul v2 v6 (by omega) (by decide)
  have hmul0 := Int.mul_nonneg (show 0 ≤ hoI 1 l by omega) (show 0 ≤ hosts by omega)
  have hw : wrap64 (hoI 1 l * hosts) = hoI 1 l * hosts := by generalize hoI 1 l * hosts = z at *; unfold wrap64; omega
  have HWW := Lib.hid hw
  have HSZ : Hid (∀ W, Calls Tryz.prog 144 #[.agg #[.slice sa l.length sc, .int .i64 (prodI l)]] W fun e w' => e = .returned (.tuple #[.int .i64 (swI 1 l), .int .i64 (hoI 1 l)]) ∧ Below W.heap.size W w') := fun W => sizeT_any sa l.length sc (prodI l) W
  have HNV : Hid (netV 1 sa sc l = .iface 138 (.agg #[.slice sa l.length sc, .int .i64 (prodI l)])) := rfl
  clear h hb0 hmul hmul0 hw v1 v2 v3 v4 v5 v6
  generalize swI 1 l = SW at *
  generalize hoI 1 l = HO_ at *
  go_enter Tryz.func41, Tryz.ntmps41
  go_wp2_with fail
  generalize w.alloc (.cells #[.int .i64 1, .slice sa l.length sc, .int .i64 hosts] 24) = X at *
  refine (HO.out _ HB.out).mono ?_
  rintro e w1 ⟨hb1, ⟨_, rfl⟩ | ⟨hn, _⟩⟩
  · rw [HNV.out]
    have hm := m_size1 sa l.length sc (prodI l)
    have Q1 := Lib.hid (heapB hb1 Q0.out)
    have HB1 := Lib.hid (HB.out.trans (hb1.mono HB.out.size))
    clear c0 c1 c2 Q0 HB hb1 HO
    go_wp2_with fail
    refine (HSZ.out _).mono ?_
    rintro e w2 ⟨rfl, hb2⟩
    have Q2 := Lib.hid (heapB hb2 Q1.out)
    have HB2 := Lib.hid (HB1.out.trans (hb2.mono HB1.out.size))
    clear Q1 HB1 hb2 HSZ hm
    have c2 := cellR 2 Q2.out rfl
    go_wp2_with fail
    go_quiet (fail)
    go_wp2_with fail
    go_ret3
    exact ⟨by show Ending.returned (.tuple #[.int .i64 SW, .int .i64 (wrap64 (HO_ * hosts)), .int .i64 0]) = _; rw [HWW.out], below_drewN HB2.out _⟩
  · exact absurd hv hn
theorem Size2_any {w : World} {sa : Option Addr} {l : List Int} (h : Ints w sa l) (sc : Nat) (hosts : Int) (hv : vOk 2 l hosts) :
    Calls Tryz.prog 41 #[.agg #[.int .i64 2, .slice sa l.length sc, .int .i64 hosts]] w fun e w' => e = .returned (.tuple #[.int .i64 (swI 2 l), .int .i64 (hoI 2 l * hosts), .int .i64 0]) ∧ Below w.heap.size w w' := by
  have HO : Hid (∀ W, Below w.heap.size w W → Calls Tryz.prog 47 #[.agg #[.int .i64 2, .slice sa l.length sc, .int .i64 hosts]] W fun e w' => Below W.heap.size W w' ∧ ((vOk 2 l hosts ∧ e = .returned (.tuple #[netV 2 sa sc l, .int .i64 0])) ∨ (¬ vOk 2 l hosts ∧ e = .returned (.tuple #[.nilIface, .int .i64 2])))) := fun W hb => networkOf_any (h.keep hb) sc 2 hosts
  have hb0 : Below w.heap.size w (w.alloc (.cells #[.int .i64 2, .slice sa l.length sc, .int .i64 hosts] 24)) := (Below.refl _ _).alloc (Nat.le_refl _) _
  have Q0 := Lib.hid (heap_alloc_new w (.cells #[.int .i64 2, .slice sa l.length sc, .int .i64 hosts] 24))
  have HB := Lib.hid hb0
  have c0 := cellR 0 Q0.out rfl
  have c1 := cellR 1 Q0.out rfl
  have c2 := cellR 2 Q0.out rfl
  obtain ⟨v1, v2, v3, v4, v5, v6⟩ := v_bound hv
  have hmul := Int.mul_le_mul v2 v6 (by omega) (by decide)
  have hmul0 := Int.mul_nonneg (show 0 ≤ hoI 2 l by omega) (show 0 ≤ hosts by omega)
  have hw : wrap64 (hoI 2 l * hosts) = hoI 2 l * hosts := by generalize hoI 2 l * hosts = z at *; unfold wrap64; omega
  have HWW := Lib.hid hw
  have HSZ : Hid (∀ W, Calls Tryz.prog 185 #[.agg #[.int .i64 (l.getD 0 0), .int .i64 (l.getD 1 0), .int .i64 (wordsI l)]] W fun e w' => e = .returned (.tuple #[.int .i64 (swI 2 l), .int .i64 (hoI 2 l)]) ∧ Below W.heap.size W w') := fun W => by
    rcases hv with ⟨h9, _⟩ | ⟨_, h9⟩ | ⟨h9, _⟩
    · cases h9
    · have hwb := words_bound h9
      have h8 := h9.2.2.1
      exact sizeR_any (l.getD 0 0) (l.getD 1 0) (wordsI l) (by omega) (by omega) (by omega) (by omega) W
    · cases h9
  have HNV : Hid (netV 2 sa sc l = .iface 142 (.agg #[.int .i64 (l.getD 0 0), .int .i64 (l.getD 1 0), .int .i64 (wordsI l)])) := rfl
  clear h hb0 hmul hmul0 hw v1 v2 v3 v4 v5 v6
  generalize swI 2 l = SW at *
  generalize hoI 2 l = HO_ at *
  go_enter Tryz.func41, Tryz.ntmps41
  go_wp2_with fail
  generalize w.alloc (.cells #[.int .i64 2, .slice sa l.length sc, .int .i64 hosts] 24) = X at *
  refine (HO.out _ HB.out).mono ?_
  rintro e w1 ⟨hb1, ⟨_, rfl⟩ | ⟨hn, _⟩⟩
  · rw [HNV.out]
    have hm := m_size2 (l.getD 0 0) (l.getD 1 0) (wordsI l)
    have Q1 := Lib.hid (heapB hb1 Q0.out)
    have HB1 := Lib.hid (HB.out.trans (hb1.mono HB.out.size))
    clear c0 c1 c2 Q0 HB hb1 HO
    go_wp2_with fail
    refine (HSZ.out _).mono ?_
    rintro e w2 ⟨rfl, hb2⟩
    have Q2 := Lib.hid (heapB hb2 Q1.out)
    have HB2 := Lib.hid (HB1.out.trans (hb2.mono HB1.out.size))
    clear Q1 HB1 hb2 HSZ hm
    have c2 := cellR 2 Q2.out rfl
    go_wp2_with fail
    go_quiet (fail)
    go_wp2_with fail
    go_ret3
    exact ⟨by show Ending.returned (.tuple #[.int .i64 SW, .int .i64 (wrap64 (HO_ * hosts)), .int .i64 0]) = _; rw [HWW.out], below_drewN HB2.out _⟩
  · exact absurd hv hn
theorem Size3_any {w : World} {sa : Option Addr} {l : List Int} (h : Ints w sa l) (sc : Nat) (hosts : Int) (hv : vOk 3 l hosts) :
    Calls Tryz.prog 41 #[.agg #[.int .i64 3, .slice sa l.length sc, .int .i64 hosts]] w fun e w' => e = .returned (.tuple #[.int .i64 (swI 3 l), .int .i64 (hoI 3 l * hosts), .int .i64 0]) ∧ Below w.heap.size w w' := by
  have HO : Hid (∀ W, Below w.heap.size w W → Calls Tryz.prog 47 #[.agg #[.int .i64 3, .slice sa l.length sc, .int .i64 hosts]] W fun e w' => Below W.heap.size W w' ∧ ((vOk 3 l hosts ∧ e = .returned (.tuple #[netV 3 sa sc l, .int .i64 0])) ∨ (¬ vOk 3 l hosts ∧ e = .returned (.tuple #[.nilIface, .int .i64 2])))) := fun W hb => networkOf_any (h.keep hb) sc 3 hosts
  have hb0 : Below w.heap.size w (w.alloc (.cells #[.int .i64 3, .slice sa l.length sc, .int .i64 hosts] 24)) := (Below.refl _ _).alloc (Nat.le_refl _) _
  have Q0 := Lib.hid (heap_alloc_new w (.cells #[.int .i64 3, .slice sa l.length sc, .int .i64 hosts] 24))
  have HB := Lib.hid hb0
  have c0 := cellR 0 Q0.out rfl
  have c1 := cellR 1 Q0.out rfl
  have c2 := cellR 2 Q0.out rfl
  obtain ⟨v1, v2, v3, v4, v5, v6⟩ := v_bound hv
  have hmul := Int.mul_le_mul v2 v6 (by omega) (by decide)
  have hmul0 := Int.mul_nonneg (show 0 ≤ hoI 3 l by omega) (show 0 ≤ hosts by omega)
  have hw : wrap64 (hoI 3 l * hosts) = hoI 3 l * hosts := by generalize hoI 3 l * hosts = z at *; unfold wrap64; omega
  have HWW := Lib.hid hw
  have HSZ : Hid (∀ W, Calls Tryz.prog 199 #[.agg #[.int .i64 (l.getD 0 0), .int .i64 (l.getD 1 0), .int .i64 (l.getD 0 0 * l.getD 1 0 + 1)]] W fun e w' => e = .returned (.tuple #[.int .i64 (swI 3 l), .int .i64 (hoI 3 l)]) ∧ Below W.heap.size W w') := fun W => by
    rcases hv with ⟨h9, _⟩ | ⟨h9, _⟩ | ⟨_, h9⟩
    · cases h9
    · cases h9
    · obtain ⟨b1, b2, b3, b4⟩ := drag_bound h9.2.2.1.1 h9.2.2.1.2 h9.2.2.2.1.1 h9.2.2.2.1.2
      have h8 := h9.2.2.1
      exact sizeD_any (l.getD 0 0) (l.getD 1 0) (l.getD 0 0 * l.getD 1 0 + 1) (by omega) (by omega) (by omega) (by omega) W
  have HNV : Hid (netV 3 sa sc l = .iface 146 (.agg #[.int .i64 (l.getD 0 0), .int .i64 (l.getD 1 0), .int .i64 (l.getD 0 0 * l.getD 1 0 + 1)])) := rfl
  clear h hb0 hmul hmul0 hw v1 v2 v3 v4 v5 v6
  generalize swI 3 l = SW at *
  generalize hoI 3 l = HO_ at *
  go_enter Tryz.func41, Tryz.ntmps41
  go_wp2_with fail
  generalize w.alloc (.cells #[.int .i64 3, .slice sa l.length sc, .int .i64 hosts] 24) = X at *
  refine (HO.out _ HB.out).mono ?_
  rintro e w1 ⟨hb1, ⟨_, rfl⟩ | ⟨hn, _⟩⟩
  · rw [HNV.out]
    have hm := m_size3 (l.getD 0 0) (l.getD 1 0) (l.getD 0 0 * l.getD 1 0 + 1)
    have Q1 := Lib.hid (heapB hb1 Q0.out)
    have HB1 := Lib.hid (HB.out.trans (hb1.mono HB.out.size))
    clear c0 c1 c2 Q0 HB hb1 HO
    go_wp2_with fail
    refine (HSZ.out _).mono ?_
    rintro e w2 ⟨rfl, hb2⟩
    have Q2 := Lib.hid (heapB hb2 Q1.out)
    have HB2 := Lib.hid (HB1.out.trans (hb2.mono HB1.out.size))
    clear Q1 HB1 hb2 HSZ hm
    have c2 := cellR 2 Q2.out rfl
    go_wp2_with fail
    go_quiet (fail)
    go_wp2_with fail
    go_ret3
    exact ⟨by show Ending.returned (.tuple #[.int .i64 SW, .int .i64 (wrap64 (HO_ * hosts)), .int .i64 0]) = _; rw [HWW.out], below_drewN HB2.out _⟩
  · exact absurd hv hn
end Go.Proofs.YtbhkenphcahifaaGreat
namespace Go.Proofs.YtbhkenphcahifaaGreat
open Go.RowKit Go.Shelf
attribute [local go_sem] Oper.semAt_some
set_option maxRecDepth 100000
set_option maxHeartbeats 4000000
theorem v_kind {kind : Int} {l : List Int} {h : Int} (hv : vOk kind l h) : kind = 1 ∨ kind = 2 ∨ kind = 3 := by
  rcases hv with ⟨h1, _⟩ | ⟨h1, _⟩ | ⟨h1, _⟩
  · exact .inl h1
  · exact .inr (.inl h1)
  · exact .inr (.inr h1)
def errI (kind : Int) (l : List Int) (h : Int) : Int := if vOk kind l h then 0 else 2
def szI (kind : Int) (l : List Int) (h : Int) : Int := if vOk kind l h then swI kind l else 0
def hsI (kind : Int) (l : List Int) (h : Int) : Int := if vOk kind l h then hoI kind l * h else 0
theorem Size_bad {w : World} {sa : Option Addr} {l : List Int} (h : Ints w sa l) (sc : Nat) (kind hosts : Int) (hv : ¬ vOk kind l hosts) :
    Calls Tryz.prog 41 #[.agg #[.int .i64 kind, .slice sa l.length sc, .int .i64 hosts]] w fun e w' => e = .returned (.tuple #[.int .i64 0, .int .i64 0, .int .i64 2]) ∧ Below w.heap.size w w' := by
  have HO : Hid (∀ W, Below w.heap.size w W → Calls Tryz.prog 47 #[.agg #[.int .i64 kind, .slice sa l.length sc, .int .i64 hosts]] W fun e w' => Below W.heap.size W w' ∧ ((vOk kind l hosts ∧ e = .returned (.tuple #[netV kind sa sc l, .int .i64 0])) ∨ (¬ vOk kind l hosts ∧ e = .returned (.tuple #[.nilIface, .int .i64 2])))) := fun W hb => networkOf_any (h.keep hb) sc kind hosts
  have HB := Lib.hid ((Below.refl w.heap.size w).alloc (Nat.le_refl _) (.cells #[.int .i64 kind, .slice sa l.length sc, .int .i64 hosts] 24))
  have q0 := heap_alloc_new w (.cells #[.int .i64 kind, .slice sa l.length sc, .int .i64 hosts] 24)
  have c0 := cellR 0 q0 rfl
  have c1 := cellR 1 q0 rfl
  have c2 := cellR 2 q0 rfl
  clear h q0
  go_enter Tryz.func41, Tryz.ntmps41
  go_wp2_with fail
  generalize w.alloc (.cells #[.int .i64 kind, .slice sa l.length sc, .int .i64 hosts] 24) = X at *
  refine (HO.out _ HB.out).mono ?_
  rintro e w1 ⟨hb1, ⟨hn, _⟩ | ⟨_, rfl⟩⟩
  · exact absurd hn hv
  · have HB1 := Lib.hid (HB.out.trans (hb1.mono HB.out.size))
    clear c0 c1 c2 HB hb1 HO
    go_wp2_with fail
    go_ret3
    exact ⟨rfl, HB1.out⟩
theorem Size_any {w : World} {sa : Option Addr} {l : List Int} (h : Ints w sa l) (sc : Nat) (kind hosts : Int) :
    Calls Tryz.prog 41 #[.agg #[.int .i64 kind, .slice sa l.length sc, .int .i64 hosts]] w fun e w' => e = .returned (.tuple #[.int .i64 (szI kind l hosts), .int .i64 (hsI kind l hosts), .int .i64 (errI kind l hosts)]) ∧ Below w.heap.size w w' := by
  unfold szI hsI errI
  by_cases hv : vOk kind l hosts
  · rw [if_pos hv, if_pos hv, if_pos hv]
    rcases v_kind hv with rfl | rfl | rfl
    · exact Size1_any h sc hosts hv
    · exact Size2_any h sc hosts hv
    · exact Size3_any h sc hosts hv
  · rw [if_neg hv, if_neg hv, if_neg hv]
    exact Size_bad h sc kind hosts hv
theorem allBelow_any {w : World} {sa : Option Addr} {l : List Int} (h : Ints w sa l) (sc : Nat) (n : Int) (hn : 0 ≤ n) (hn2 : n ≤ 1000000) : Calls Tryz.prog 97 #[.int .i64 n, .slice sa l.length sc] w fun e w' => e = .returned (.bool (l.all fun x => decide (0 ≤ x ∧ x ≤ n - 1))) ∧ w = w' := by
  have hlen := h.len
  have HL := Lib.hid h
  have WI := Lib.hid (fun x W => within_any x 0 (n - 1) W)
  obtain ⟨N, hN⟩ : ∃ N, N = l.length := ⟨_, rfl⟩
  have HN := Lib.hid hN
  rw [← hN] at hlen ⊢
  obtain ⟨R, hR⟩ : ∃ R, R = l.all fun x => decide (0 ≤ x ∧ x ≤ n - 1) := ⟨_, rfl⟩
  have HR := Lib.hid hR
  rw [← hR]
  have hw : wrap64 (n - 1) = n - 1 := by unfold wrap64; omega
  clear h hN hR
  go_enter Tryz.func97, Tryz.ntmps97
  go_wp2_with fail
  go_loop [9] (fun i => ∃ k : Nat, k ≤ N ∧ i = .int .i64 k ∧ Hid (∀ j (hj : j < l.length), j < k → 0 ≤ l[j] ∧ l[j] ≤ n - 1)) (fun i => N - (intOf i).toNat)
  case atStart => exact ⟨0, Nat.zero_le _, rfl, fun j _ h => by omega⟩
  case round =>
    obtain ⟨k, hk, rfl, HP⟩ := hrel
    by_cases hlt : k < N
    · have hk1 : k < l.length := by rw [← HN.out]; exact hlt
      obtain ⟨g, o, rfl, hc⟩ := HL.out.at_ (ne_nil_of_lt hk1)
      have e0 := hc k hk1
      have HP2 : Hid (0 ≤ l[k] ∧ l[k] ≤ n - 1 → ∀ j (hj : j < l.length), j < k + 1 → 0 ≤ l[j] ∧ l[j] ≤ n - 1) := fun h j hj h2 => by
        by_cases h3 : j < k
        · exact HP.out j hj h3
        · obtain rfl : j = k := by omega
          exact h
      have HNR : Hid (¬ (0 ≤ l[k] ∧ l[k] ≤ n - 1) → R = false) := fun h => by
        rw [HR.out, List.all_eq_false]
        exact ⟨l[k], List.getElem_mem hk1, by simpa using h⟩
      generalize l[k] = x at *
      clear hc hk1 HP
      by_cases hx : 0 ≤ x ∧ x ≤ n - 1
      · have W1 := Lib.hid (fun W => WI.out x W)
        rw [show decide (0 ≤ x ∧ x ≤ n - 1) = true from decide_eq_true hx] at W1
        have HP3 := Lib.hid (HP2.out hx)
        clear hx HP2 HNR
        go_wp2_with fail
        refine (W1.out _).mono ?_
        rintro e w1 ⟨rfl, rfl⟩
        clear W1
        go_wp2_with fail
        go_round
        case rel => exact ⟨k + 1, by omega, by go_num, HP3⟩
        case measure => simp [intOf]; omega
      · have W1 := Lib.hid (fun W => WI.out x W)
        rw [show decide (0 ≤ x ∧ x ≤ n - 1) = false from decide_eq_false hx] at W1
        have HR2 := Lib.hid (HNR.out hx)
        clear hx HP2 HNR
        go_wp2_with fail
        refine (W1.out _).mono ?_
        rintro e w1 ⟨rfl, rfl⟩
        clear W1
        go_wp2_with fail
        go_ret
        exact ⟨by rw [HR2.out]; rfl, rfl⟩
    · have HR2 : Hid (R = true) := by
        show _ = _
        rw [HR.out, List.all_eq_true]
        intro x hx
        obtain ⟨j, hj, rfl⟩ := List.getElem_of_mem hx
        exact decide_eq_true (HP.out j hj (by have := HN.out; omega))
      have hkn : k = N := by omega
      subst hkn
      clear HP
      go_wp2_with fail
      go_ret
      exact ⟨by rw [HR2.out]; rfl, rfl⟩
end Go.Proofs.YtbhkenphcahifaaGreat
namespace Go.Proofs.YtbhkenphcahifaaGreat
open Go.RowKit Go.Shelf
attribute [local go_sem] Oper.semAt_some
set_option maxRecDepth 100000
set_option maxHeartbeats 4000000
/-- are some numbers those of switches -/
def inB (n : Int) (l : List Int) : Bool := l.all fun x => decide (0 ≤ x ∧ x ≤ n - 1)
/-- where a switch is -/
def placeL (kind : Int) (l : List Int) (x : Int) : List Int := if kind = 1 then coordsL l x else if kind = 2 then [x / wordsI l, x % wordsI l] else [x / l.getD 0 0, x % l.getD 0 0]
theorem networkWith1_any {w : World} {sa xa : Option Addr} {l xl : List Int} (h : Ints w sa l) (hx : Ints w xa xl) (sc xc : Nat) (hosts : Int) (hv : vOk 1 l hosts) :
    Calls Tryz.prog 53 #[.agg #[.int .i64 1, .slice sa l.length sc, .int .i64 hosts], .slice xa xl.length xc] w fun e w' => e = .returned (if inB (swI 1 l) xl = true then .tuple #[netV 1 sa sc l, .int .i64 0] else .tuple #[.nilIface, .int .i64 3]) ∧ Below w.heap.size w w' := by
  have HO : Hid (∀ W, Below w.heap.size w W → Calls Tryz.prog 47 #[.agg #[.int .i64 1, .slice sa l.length sc, .int .i64 hosts]] W fun e w' => Below W.heap.size W w' ∧ ((vOk 1 l hosts ∧ e = .returned (.tuple #[netV 1 sa sc l, .int .i64 0])) ∨ (¬ vOk 1 l hosts ∧ e = .returned (.tuple #[.nilIface, .int .i64 2])))) := fun W hb => networkOf_any (h.keep hb) sc 1 hosts
  have HB := Lib.hid ((Below.refl w.heap.size w).alloc (Nat.le_refl _) (.cells #[.int .i64 1, .slice sa l.length sc, .int .i64 hosts] 24))
  have Q0 := Lib.hid (heap_alloc_new w (.cells #[.int .i64 1, .slice sa l.length sc, .int .i64 hosts] 24))
  have c0 := cellR 0 Q0.out rfl
  have c1 := cellR 1 Q0.out rfl
  have c2 := cellR 2 Q0.out rfl
  have hvb := v_bound hv
  have HAB : Hid (∀ W, Below w.heap.size w W → Calls Tryz.prog 97 #[.int .i64 (swI 1 l), .slice xa xl.length xc] W fun e w' => e = .returned (.bool (inB (swI 1 l) xl)) ∧ W = w') := fun W hb => allBelow_any (hx.keep hb) xc (swI 1 l) (by omega) (by omega)
  have HSZ : Hid (∀ W, Calls Tryz.prog 144 #[.agg #[.slice sa l.length sc, .int .i64 (prodI l)]] W fun e w' => e = .returned (.tuple #[.int .i64 (swI 1 l), .int .i64 (hoI 1 l)]) ∧ Below W.heap.size W w') := fun W => sizeT_any sa l.length sc (prodI l) W
  have HNV : Hid (netV 1 sa sc l = .iface 138 (.agg #[.slice sa l.length sc, .int .i64 (prodI l)])) := rfl
  clear h hx hvb
  generalize inB (swI 1 l) xl = R at *
  generalize swI 1 l = SW at *
  generalize hoI 1 l = HO_ at *
  rw [HNV.out]
  cases R with
  | true =>
    go_enter Tryz.func53, Tryz.ntmps53
    go_wp2_with fail
    generalize w.alloc (.cells #[.int .i64 1, .slice sa l.length sc, .int .i64 hosts] 24) = X at *
    refine (HO.out _ HB.out).mono ?_
    rintro e w1 ⟨hb1, ⟨_, rfl⟩ | ⟨hn, _⟩⟩
    · rw [HNV.out]
      have hm := m_size1 sa l.length sc (prodI l)
      have HB1 := Lib.hid (HB.out.trans (hb1.mono HB.out.size))
      clear c0 c1 c2 Q0 HB hb1 HO
      go_wp2_with fail
      refine (HSZ.out _).mono ?_
      rintro e w2 ⟨rfl, hb2⟩
      have HB2 := Lib.hid (HB1.out.trans (hb2.mono HB1.out.size))
      clear HB1 hb2 HSZ hm
      go_wp2_with fail
      refine (HAB.out _ HB2.out).mono ?_
      rintro e w3 ⟨rfl, rfl⟩
      clear HAB
      go_wp2_with fail
      go_ret2
      exact ⟨rfl, HB2.out⟩
    · exact absurd hv hn
  | false =>
    go_enter Tryz.func53, Tryz.ntmps53
    go_wp2_with fail
    generalize w.alloc (.cells #[.int .i64 1, .slice sa l.length sc, .int .i64 hosts] 24) = X at *
    refine (HO.out _ HB.out).mono ?_
    rintro e w1 ⟨hb1, ⟨_, rfl⟩ | ⟨hn, _⟩⟩
    · rw [HNV.out]
      have hm := m_size1 sa l.length sc (prodI l)
      have HB1 := Lib.hid (HB.out.trans (hb1.mono HB.out.size))
      clear c0 c1 c2 Q0 HB hb1 HO
      go_wp2_with fail
      refine (HSZ.out _).mono ?_
      rintro e w2 ⟨rfl, hb2⟩
      have HB2 := Lib.hid (HB1.out.trans (hb2.mono HB1.out.size))
      clear HB1 hb2 HSZ hm
      go_wp2_with fail
      refine (HAB.out _ HB2.out).mono ?_
      rintro e w3 ⟨rfl, rfl⟩
      clear HAB
      go_wp2_with fail
      go_ret2
      exact ⟨rfl, HB2.out⟩
    · exact absurd hv hn
theorem networkWith2_any {w : World} {sa xa : Option Addr} {l xl : List Int} (h : Ints w sa l) (hx : Ints w xa xl) (sc xc : Nat) (hosts : Int) (hv : vOk 2 l hosts) :
    Calls Tryz.prog 53 #[.agg #[.int .i64 2, .slice sa l.length sc, .int .i64 hosts], .slice xa xl.length xc] w fun e w' => e = .returned (if inB (swI 2 l) xl = true then .tuple #[netV 2 sa sc l, .int .i64 0] else .tuple #[.nilIface, .int .i64 3]) ∧ Below w.heap.size w w' := by
  have HO : Hid (∀ W, Below w.heap.size w W → Calls Tryz.prog 47 #[.agg #[.int .i64 2, .slice sa l.length sc, .int .i64 hosts]] W fun e w' => Below W.heap.size W w' ∧ ((vOk 2 l hosts ∧ e = .returned (.tuple #[netV 2 sa sc l, .int .i64 0])) ∨ (¬ vOk 2 l hosts ∧ e = .returned (.tuple #[.nilIface, .int .i64 2])))) := fun W hb => networkOf_any (h.keep hb) sc 2 hosts
  have HB := Lib.hid ((Below.refl w.heap.size w).alloc (Nat.le_refl _) (.cells #[.int .i64 2, .slice sa l.length sc, .int .i64 hosts] 24))
  have Q0 := Lib.hid (heap_alloc_new w (.cells #[.int .i64 2, .slice sa l.length sc, .int .i64 hosts] 24))
  have c0 := cellR 0 Q0.out rfl
  have c1 := cellR 1 Q0.out rfl
  have c2 := cellR 2 Q0.out rfl
  have hvb := v_bound hv
  have HAB : Hid (∀ W, Below w.heap.size w W → Calls Tryz.prog 97 #[.int .i64 (swI 2 l), .slice xa xl.length xc] W fun e w' => e = .returned (.bool (inB (swI 2 l) xl)) ∧ W = w') := fun W hb => allBelow_any (hx.keep hb) xc (swI 2 l) (by omega) (by omega)
  have HSZ : Hid (∀ W, Calls Tryz.prog 185 #[.agg #[.int .i64 (l.getD 0 0), .int .i64 (l.getD 1 0), .int .i64 (wordsI l)]] W fun e w' => e = .returned (.tuple #[.int .i64 (swI 2 l), .int .i64 (hoI 2 l)]) ∧ Below W.heap.size W w') := fun W => by
    rcases hv with ⟨h9, _⟩ | ⟨_, h9⟩ | ⟨h9, _⟩
    · cases h9
    · have hwb := words_bound h9
      have h8 := h9.2.2.1
      exact sizeR_any (l.getD 0 0) (l.getD 1 0) (wordsI l) (by omega) (by omega) (by omega) (by omega) W
    · cases h9
  have HNV : Hid (netV 2 sa sc l = .iface 142 (.agg #[.int .i64 (l.getD 0 0), .int .i64 (l.getD 1 0), .int .i64 (wordsI l)])) := rfl
  clear h hx hvb
  generalize inB (swI 2 l) xl = R at *
  generalize swI 2 l = SW at *
  generalize hoI 2 l = HO_ at *
  rw [HNV.out]
  cases R with
  | true =>
    go_enter Tryz.func53, Tryz.ntmps53
    go_wp2_with fail
    generalize w.alloc (.cells #[.int .i64 2, .slice sa l.length sc, .int .i64 hosts] 24) = X at *
    refine (HO.out _ HB.out).mono ?_
    rintro e w1 ⟨hb1, ⟨_, rfl⟩ | ⟨hn, _⟩⟩
    · rw [HNV.out]
      have hm := m_size2 (l.getD 0 0) (l.getD 1 0) (wordsI l)
      have HB1 := Lib.hid (HB.out.trans (hb1.mono HB.out.size))
      clear c0 c1 c2 Q0 HB hb1 HO
      go_wp2_with fail
      refine (HSZ.out _).mono ?_
      rintro e w2 ⟨rfl, hb2⟩
      have HB2 := Lib.hid (HB1.out.trans (hb2.mono HB1.out.size))
      clear HB1 hb2 HSZ hm
      go_wp2_with fail
      refine (HAB.out _ HB2.out).mono ?_
      rintro e w3 ⟨rfl, rfl⟩
      clear HAB
      go_wp2_with fail
      go_ret2
      exact ⟨rfl, HB2.out⟩
    · exact absurd hv hn
  | false =>
    go_enter Tryz.func53, Tryz.ntmps53
    go_wp2_with fail
    generalize w.alloc (.cells #[.int .i64 2, .slice sa l.length sc, .int .i64 hosts] 24) = X at *
    refine (HO.out _ HB.out).mono ?_
    rintro e w1 ⟨hb1, ⟨_, rfl⟩ | ⟨hn, _⟩⟩
    · rw [HNV.out]
      have hm := m_size2 (l.getD 0 0) (l.getD 1 0) (wordsI l)
      have HB1 := Lib.hid (HB.out.trans (hb1.mono HB.out.size))
      clear c0 c1 c2 Q0 HB hb1 HO
      go_wp2_with fail
      refine (HSZ.out _).mono ?_
      rintro e w2 ⟨rfl, hb2⟩
      have HB2 := Lib.hid (HB1.out.trans (hb2.mono HB1.out.size))
      clear HB1 hb2 HSZ hm
      go_wp2_with fail
      refine (HAB.out _ HB2.out).mono ?_
      rintro e w3 ⟨rfl, rfl⟩
      clear HAB
      go_wp2_with fail
      go_ret2
      exact ⟨rfl, HB2.out⟩
    · exact absurd hv hn
theorem networkWith3_any {w : World} {sa xa : Option Addr} {l xl : List Int} (h : Ints w sa l) (hx : Ints w xa xl) (sc xc : Nat) (hosts : Int) (hv : vOk 3 l hosts) :
    Calls Tryz.prog 53 #[.agg #[.int .i64 3, .slice sa l.length sc, .int .i64 hosts], .slice xa xl.length xc] w fun e w' => e = .returned (if inB (swI 3 l) xl = true then .tuple #[netV 3 sa sc l, .int .i64 0] else .tuple #[.nilIface, .int .i64 3]) ∧ Below w.heap.size w w' := by
  have HO : Hid (∀ W, Below w.heap.size w W → Calls Tryz.prog 47 #[.agg #[.int .i64 3, .slice sa l.length sc, .int .i64 hosts]] W fun e w' => Below W.heap.size W w' ∧ ((vOk 3 l hosts ∧ e = .returned (.tuple #[netV 3 sa sc l, .int .i64 0])) ∨ (¬ vOk 3 l hosts ∧ e = .returned (.tuple #[.nilIface, .int .i64 2])))) := fun W hb => networkOf_any (h.keep hb) sc 3 hosts
  have HB := Lib.hid ((Below.refl w.heap.size w).alloc (Nat.le_refl _) (.cells #[.int .i64 3, .slice sa l.length sc, .int .i64 hosts] 24))
  have Q0 := Lib.hid (heap_alloc_new w (.cells #[.int .i64 3, .slice sa l.length sc, .int .i64 hosts] 24))
  have c0 := cellR 0 Q0.out rfl
  have c1 := cellR 1 Q0.out rfl
  have c2 := cellR 2 Q0.out rfl
  have hvb := v_bound hv
  have HAB : Hid (∀ W, Below w.heap.size w W → Calls Tryz.prog 97 #[.int .i64 (swI 3 l), .slice xa xl.length xc] W fun e w' => e = .returned (.bool (inB (swI 3 l) xl)) ∧ W = w') := fun W hb => allBelow_any (hx.keep hb) xc (swI 3 l) (by omega) (by omega)
  have HSZ : Hid (∀ W, Calls Tryz.prog 199 #[.agg #[.int .i64 (l.getD 0 0), .int .i64 (l.getD 1 0), .int .i64 (l.getD 0 0 * l.getD 1 0 + 1)]] W fun e w' => e = .returned (.tuple #[.int .i64 (swI 3 l), .int .i64 (hoI 3 l)]) ∧ Below W.heap.size W w') := fun W => by
    rcases hv with ⟨h9, _⟩ | ⟨h9, _⟩ | ⟨_, h9⟩
    · cases h9
    · cases h9
    · obtain ⟨b1, b2, b3, b4⟩ := drag_bound h9.2.2.1.1 h9.2.2.1.2 h9.2.2.2.1.1 h9.2.2.2.1.2
      have h8 := h9.2.2.1
      exact sizeD_any (l.getD 0 0) (l.getD 1 0) (l.getD 0 0 * l.getD 1 0 + 1) (by omega) (by omega) (by omega) (by omega) W
  have HNV : Hid (netV 3 sa sc l = .iface 146 (.agg #[.int .i64 (l.getD 0 0), .int .i64 (l.getD 1 0), .int .i64 (l.getD 0 0 * l.getD 1 0 + 1)])) := rfl
  clear h hx hvb
  generalize inB (swI 3 l) xl = R at *
  generalize swI 3 l = SW at *
  generalize hoI 3 l = HO_ at *
  rw [HNV.out]
  cases R with
  | true =>
    go_enter Tryz.func53, Tryz.ntmps53
    go_wp2_with fail
    generalize w.alloc (.cells #[.int .i64 3, .slice sa l.length sc, .int .i64 hosts] 24) = X at *
    refine (HO.out _ HB.out).mono ?_
    rintro e w1 ⟨hb1, ⟨_, rfl⟩ | ⟨hn, _⟩⟩
    · rw [HNV.out]
      have hm := m_size3 (l.getD 0 0) (l.getD 1 0) (l.getD 0 0 * l.getD 1 0 + 1)
      have HB1 := Lib.hid (HB.out.trans (hb1.mono HB.out.size))
      clear c0 c1 c2 Q0 HB hb1 HO
      go_wp2_with fail
      refine (HSZ.out _).mono ?_
      rintro e w2 ⟨rfl, hb2⟩
      have HB2 := Lib.hid (HB1.out.trans (hb2.mono HB1.out.size))
      clear HB1 hb2 HSZ hm
      go_wp2_with fail
      refine (HAB.out _ HB2.out).mono ?_
      rintro e w3 ⟨rfl, rfl⟩
      clear HAB
      go_wp2_with fail
      go_ret2
      exact ⟨rfl, HB2.out⟩
    · exact absurd hv hn
  | false =>
    go_enter Tryz.func53, Tryz.ntmps53
    go_wp2_with fail
    generalize w.alloc (.cells #[.int .i64 3, .slice sa l.length sc, .int .i64 hosts] 24) = X at *
    refine (HO.out _ HB.out).mono ?_
    rintro e w1 ⟨hb1, ⟨_, rfl⟩ | ⟨hn, _⟩⟩
    · rw [HNV.out]
      have hm := m_size3 (l.getD 0 0) (l.getD 1 0) (l.getD 0 0 * l.getD 1 0 + 1)
      have HB1 := Lib.hid (HB.out.trans (hb1.mono HB.out.size))
      clear c0 c1 c2 Q0 HB hb1 HO
      go_wp2_with fail
      refine (HSZ.out _).mono ?_
      rintro e w2 ⟨rfl, hb2⟩
      have HB2 := Lib.hid (HB1.out.trans (hb2.mono HB1.out.size))
      clear HB1 hb2 HSZ hm
      go_wp2_with fail
      refine (HAB.out _ HB2.out).mono ?_
      rintro e w3 ⟨rfl, rfl⟩
      clear HAB
      go_wp2_with fail
      go_ret2
      exact ⟨rfl, HB2.out⟩
    · exact absurd hv hn
theorem networkWith_bad {w : World} {sa xa : Option Addr} {l : List Int} (h : Ints w sa l) (sc xn xc : Nat) (kind hosts : Int) (hv : ¬ vOk kind l hosts) :
    Calls Tryz.prog 53 #[.agg #[.int .i64 kind, .slice sa l.length sc, .int .i64 hosts], .slice xa xn xc] w fun e w' => e = .returned (.tuple #[.nilIface, .int .i64 2]) ∧ Below w.heap.size w w' := by
  have HO : Hid (∀ W, Below w.heap.size w W → Calls Tryz.prog 47 #[.agg #[.int .i64 kind, .slice sa l.length sc, .int .i64 hosts]] W fun e w' => Below W.heap.size W w' ∧ ((vOk kind l hosts ∧ e = .returned (.tuple #[netV kind sa sc l, .int .i64 0])) ∨ (¬ vOk kind l hosts ∧ e = .returned (.tuple #[.nilIface, .int .i64 2])))) := fun W hb => networkOf_any (h.keep hb) sc kind hosts
  have HB := Lib.hid ((Below.refl w.heap.size w).alloc (Nat.le_refl _) (.cells #[.int .i64 kind, .slice sa l.length sc, .int .i64 hosts] 24))
  have Q0 := Lib.hid (heap_alloc_new w (.cells #[.int .i64 kind, .slice sa l.length sc, .int .i64 hosts] 24))
  have c0 := cellR 0 Q0.out rfl
  have c1 := cellR 1 Q0.out rfl
  have c2 := cellR 2 Q0.out rfl
  clear h
  go_enter Tryz.func53, Tryz.ntmps53
  go_wp2_with fail
  generalize w.alloc (.cells #[.int .i64 kind, .slice sa l.length sc, .int .i64 hosts] 24) = X at *
  refine (HO.out _ HB.out).mono ?_
  rintro e w1 ⟨hb1, ⟨hn, _⟩ | ⟨_, rfl⟩⟩
  · exact absurd hn hv
  · have HB1 := Lib.hid (HB.out.trans (hb1.mono HB.out.size))
    clear c0 c1 c2 HB hb1 HO Q0
    go_wp2_with fail
    go_ret2
    exact ⟨rfl, HB1.out⟩
/-- what networkWith returns -/
def withV (kind : Int) (sa : Option Addr) (sc : Nat) (l : List Int) (hosts : Int) (xl : List Int) : Value :=
  if vOk kind l hosts then (if inB (swI kind l) xl = true then .tuple #[netV kind sa sc l, .int .i64 0] else .tuple #[.nilIface, .int .i64 3]) else .tuple #[.nilIface, .int .i64 2]
theorem networkWith_any {w : World} {sa xa : Option Addr} {l xl : List Int} (h : Ints w sa l) (hx : Ints w xa xl) (sc xc : Nat) (kind hosts : Int) :
    Calls Tryz.prog 53 #[.agg #[.int .i64 kind, .slice sa l.length sc, .int .i64 hosts], .slice xa xl.length xc] w fun e w' => e = .returned (withV kind sa sc l hosts xl) ∧ Below w.heap.size w w' := by
  unfold withV
  by_cases hv : vOk kind l hosts
  · rw [if_pos hv]
    rcases v_kind hv with rfl | rfl | rfl
    · exact networkWith1_any h hx sc xc hosts hv
    · exact networkWith2_any h hx sc xc hosts hv
    · exact networkWith3_any h hx sc xc hosts hv
  · rw [if_neg hv]
    exact networkWith_bad h sc xl.length xc kind hosts hv
def plaE (kind : Int) (l : List Int) (hosts x : Int) : Int := if vOk kind l hosts then (if inB (swI kind l) [x] = true then 0 else 3) else 2
theorem ints_one (w : World) (x : Int) : Ints (w.alloc (.cells #[.int .i64 x] 3)) (some ⟨w.heap.size, 0, none⟩) [x] := by
  refine ⟨by simp, fun _ => ⟨w.heap.size, 0, rfl, fun j hj => ?_⟩⟩
  have : j = 0 := by simp at hj; omega
  subst this
  exact cellR 0 (heap_alloc_new w (.cells #[.int .i64 x] 3)) rfl
theorem Place_bad {w : World} {sa : Option Addr} {l : List Int} (h : Ints w sa l) (sc : Nat) (kind hosts x : Int) (hE : plaE kind l hosts x ≠ 0) :
    Calls Tryz.prog 43 #[.agg #[.int .i64 kind, .slice sa l.length sc, .int .i64 hosts], .int .i64 x] w fun e w' => e = .returned (.tuple #[.slice none 0 0, .int .i64 (plaE kind l hosts x)]) ∧ Below w.heap.size w w' := by
  obtain ⟨hbx, q0, q1, hz⟩ := twoN w (.cells #[.int .i64 kind, .slice sa l.length sc, .int .i64 hosts] 24) (.cells #[.int .i64 x] 3)
  have HB := Lib.hid hbx
  have c0 := cellR 0 (heap_alloc_new w (.cells #[.int .i64 kind, .slice sa l.length sc, .int .i64 hosts] 24)) rfl
  have c1 := cellR 1 (heap_alloc_new w (.cells #[.int .i64 kind, .slice sa l.length sc, .int .i64 hosts] 24)) rfl
  have c2 := cellR 2 (heap_alloc_new w (.cells #[.int .i64 kind, .slice sa l.length sc, .int .i64 hosts] 24)) rfl
  have hi := ints_one (w.alloc (.cells #[.int .i64 kind, .slice sa l.length sc, .int .i64 hosts] 24)) x
  rw [show (w.alloc (.cells #[.int .i64 kind, .slice sa l.length sc, .int .i64 hosts] 24)).heap.size = w.heap.size + 1 by simp] at hi
  have HC : Hid (Calls Tryz.prog 53 #[.agg #[.int .i64 kind, .slice sa l.length sc, .int .i64 hosts], .slice (some ⟨w.heap.size + 1, 0, none⟩) 1 1] ((w.alloc (.cells #[.int .i64 kind, .slice sa l.length sc, .int .i64 hosts] 24)).alloc (.cells #[.int .i64 x] 3)) fun e w' => e = .returned (.tuple #[.nilIface, .int .i64 (plaE kind l hosts x)]) ∧ Below w.heap.size ((w.alloc (.cells #[.int .i64 kind, .slice sa l.length sc, .int .i64 hosts] 24)).alloc (.cells #[.int .i64 x] 3)) w') := by
    refine (networkWith_any (h.keep hbx) hi sc 1 kind hosts).mono ?_
    rintro e w' ⟨rfl, hb⟩
    refine ⟨?_, hb.mono (by rw [hz]; omega)⟩
    unfold withV
    unfold plaE at hE ⊢
    by_cases hv : vOk kind l hosts
    · rw [if_pos hv] at hE ⊢
      by_cases hi2 : inB (swI kind l) [x] = true
      · rw [if_pos hi2] at hE; exact absurd rfl hE
      · rw [if_neg hi2, if_pos hv, if_neg hi2]
    · rw [if_neg hv, if_neg hv]
  have hne : (plaE kind l hosts x != 0) = true := bne_iff_ne.2 hE
  generalize plaE kind l hosts x = E at *
  clear h hbx q0 q1 hi hz hE
  go_enter Tryz.func43, Tryz.ntmps43
  go_wp2_with fail
  refine HC.out.mono ?_
  rintro e w1 ⟨rfl, hb1⟩
  have HB1 := Lib.hid (HB.out.trans hb1)
  clear HC hb1 HB c0 c1 c2
  go_wp2_with fail
  go_ret2
  exact ⟨rfl, HB1.out⟩
theorem Place1_any {w : World} {sa : Option Addr} {l : List Int} (h : Ints w sa l) (sc : Nat) (hosts x : Int) (hv : vOk 1 l hosts) (hin : inB (swI 1 l) [x] = true) :
    Calls Tryz.prog 43 #[.agg #[.int .i64 1, .slice sa l.length sc, .int .i64 hosts], .int .i64 x] w fun e w' => ∃ g, e = .returned (.tuple #[.slice (some ⟨g, 0, none⟩) (placeL 1 l x).length (placeL 1 l x).length, .int .i64 0]) ∧ w.heap.size ≤ g ∧ RowAt w' g (placeL 1 l x) ∧ Below w.heap.size w w' := by
  obtain ⟨hx0, hx1⟩ : 0 ≤ x ∧ x ≤ swI 1 l - 1 := by simpa [inB] using hin
  have hvb := v_bound hv
  obtain ⟨hbx, q0, q1, hz⟩ := twoN w (.cells #[.int .i64 1, .slice sa l.length sc, .int .i64 hosts] 24) (.cells #[.int .i64 x] 3)
  have HB := Lib.hid hbx
  have c0 := cellR 0 (heap_alloc_new w (.cells #[.int .i64 1, .slice sa l.length sc, .int .i64 hosts] 24)) rfl
  have c1 := cellR 1 (heap_alloc_new w (.cells #[.int .i64 1, .slice sa l.length sc, .int .i64 hosts] 24)) rfl
  have c2 := cellR 2 (heap_alloc_new w (.cells #[.int .i64 1, .slice sa l.length sc, .int .i64 hosts] 24)) rfl
  have hi := ints_one (w.alloc (.cells #[.int .i64 1, .slice sa l.length sc, .int .i64 hosts] 24)) x
  rw [show (w.alloc (.cells #[.int .i64 1, .slice sa l.length sc, .int .i64 hosts] 24)).heap.size = w.heap.size + 1 by simp] at hi
  have HC : Hid (Calls Tryz.prog 53 #[.agg #[.int .i64 1, .slice sa l.length sc, .int .i64 hosts], .slice (some ⟨w.heap.size + 1, 0, none⟩) 1 1] ((w.alloc (.cells #[.int .i64 1, .slice sa l.length sc, .int .i64 hosts] 24)).alloc (.cells #[.int .i64 x] 3)) fun e w' => e = .returned (.tuple #[.iface 138 (.agg #[.slice sa l.length sc, .int .i64 (prodI l)]), .int .i64 0]) ∧ Below w.heap.size ((w.alloc (.cells #[.int .i64 1, .slice sa l.length sc, .int .i64 hosts] 24)).alloc (.cells #[.int .i64 x] 3)) w') := by
    refine (networkWith1_any (h.keep hbx) hi sc 1 hosts hv).mono ?_
    rintro e w' ⟨rfl, hb⟩
    exact ⟨by rw [if_pos hin]; rfl, hb.mono (by rw [hz]; omega)⟩
  have HP : Hid (∀ W, Below w.heap.size w W → Calls Tryz.prog 141 #[.agg #[.slice sa l.length sc, .int .i64 (prodI l)], .int .i64 x] W fun e w' => ∃ g, e = .returned (.slice (some ⟨g, 0, none⟩) (placeL 1 l x).length (placeL 1 l x).length) ∧ W.heap.size ≤ g ∧ RowAt w' g (placeL 1 l x) ∧ Below W.heap.size W w') := fun W hb => by
    rcases hv with ⟨_, h9⟩ | ⟨h9, _⟩ | ⟨h9, _⟩
    · refine (coords_any (h.keep hb) (fun s hs => by have := h9.2.2.1 s hs; omega) sc (prodI l) x hx0 (by omega)).mono ?_
      rintro e w' ⟨g, rfl, h1, h2, h3⟩
      have hln : (coordsL l x).length = l.length := cfold_len _ _ _
      exact ⟨g, by rw [show placeL 1 l x = coordsL l x from rfl, hln], h1, h2, h3⟩
    · cases h9
    · cases h9
  have hm := m_place1 sa l.length sc (prodI l)
  generalize placeL 1 l x = PLL at *
  clear h hbx q0 q1 hi hz hv hin hx0 hx1 hvb
  go_enter Tryz.func43, Tryz.ntmps43
  go_wp2_with fail
  refine HC.out.mono ?_
  rintro e w1 ⟨rfl, hb1⟩
  have HB1 := Lib.hid (HB.out.trans hb1)
  clear HC hb1 HB c0 c1 c2
  go_wp2_with fail
  refine (HP.out _ HB1.out).mono ?_
  rintro e w2 ⟨g, rfl, hg, hR, hb2⟩
  have HR := Lib.hid hR
  have HB2 := Lib.hid (HB1.out.trans (hb2.mono HB1.out.size))
  have HG : Hid (w.heap.size ≤ g) := Nat.le_trans HB1.out.size hg
  clear HP hR hb2 hg hm HB1
  go_wp2_with fail
  go_ret2
  exact ⟨g, rfl, HG.out, HR.out, HB2.out⟩
theorem Place2_any {w : World} {sa : Option Addr} {l : List Int} (h : Ints w sa l) (sc : Nat) (hosts x : Int) (hv : vOk 2 l hosts) (hin : inB (swI 2 l) [x] = true) :
    Calls Tryz.prog 43 #[.agg #[.int .i64 2, .slice sa l.length sc, .int .i64 hosts], .int .i64 x] w fun e w' => ∃ g, e = .returned (.tuple #[.slice (some ⟨g, 0, none⟩) (placeL 2 l x).length (placeL 2 l x).length, .int .i64 0]) ∧ w.heap.size ≤ g ∧ RowAt w' g (placeL 2 l x) ∧ Below w.heap.size w w' := by
  obtain ⟨hx0, hx1⟩ : 0 ≤ x ∧ x ≤ swI 2 l - 1 := by simpa [inB] using hin
  have hvb := v_bound hv
  obtain ⟨hbx, q0, q1, hz⟩ := twoN w (.cells #[.int .i64 2, .slice sa l.length sc, .int .i64 hosts] 24) (.cells #[.int .i64 x] 3)
  have HB := Lib.hid hbx
  have c0 := cellR 0 (heap_alloc_new w (.cells #[.int .i64 2, .slice sa l.length sc, .int .i64 hosts] 24)) rfl
  have c1 := cellR 1 (heap_alloc_new w (.cells #[.int .i64 2, .slice sa l.length sc, .int .i64 hosts] 24)) rfl
  have c2 := cellR 2 (heap_alloc_new w (.cells #[.int .i64 2, .slice sa l.length sc, .int .i64 hosts] 24)) rfl
  have hi := ints_one (w.alloc (.cells #[.int .i64 2, .slice sa l.length sc, .int .i64 hosts] 24)) x
  rw [show (w.alloc (.cells #[.int .i64 2, .slice sa l.length sc, .int .i64 hosts] 24)).heap.size = w.heap.size + 1 by simp] at hi
  have HC : Hid (Calls Tryz.prog 53 #[.agg #[.int .i64 2, .slice sa l.length sc, .int .i64 hosts], .slice (some ⟨w.heap.size + 1, 0, none⟩) 1 1] ((w.alloc (.cells #[.int .i64 2, .slice sa l.length sc, .int .i64 hosts] 24)).alloc (.cells #[.int .i64 x] 3)) fun e w' => e = .returned (.tuple #[.iface 142 (.agg #[.int .i64 (l.getD 0 0), .int .i64 (l.getD 1 0), .int .i64 (wordsI l)]), .int .i64 0]) ∧ Below w.heap.size ((w.alloc (.cells #[.int .i64 2, .slice sa l.length sc, .int .i64 hosts] 24)).alloc (.cells #[.int .i64 x] 3)) w') := by
    refine (networkWith2_any (h.keep hbx) hi sc 1 hosts hv).mono ?_
    rintro e w' ⟨rfl, hb⟩
    exact ⟨by rw [if_pos hin]; rfl, hb.mono (by rw [hz]; omega)⟩
  have HP : Hid (∀ W, Below w.heap.size w W → Calls Tryz.prog 182 #[.agg #[.int .i64 (l.getD 0 0), .int .i64 (l.getD 1 0), .int .i64 (wordsI l)], .int .i64 x] W fun e w' => ∃ g, e = .returned (.slice (some ⟨g, 0, none⟩) (placeL 2 l x).length (placeL 2 l x).length) ∧ W.heap.size ≤ g ∧ RowAt w' g (placeL 2 l x) ∧ Below W.heap.size W w') := fun W hb => by
    rcases hv with ⟨h9, _⟩ | ⟨_, h9⟩ | ⟨h9, _⟩
    · cases h9
    · have hwb := words_bound h9
      exact placeR_any (l.getD 0 0) (l.getD 1 0) (wordsI l) x hx0 (by omega) hwb.1 W
    · cases h9
  have hm := m_place2 (l.getD 0 0) (l.getD 1 0) (wordsI l)
  generalize placeL 2 l x = PLL at *
  clear h hbx q0 q1 hi hz hv hin hx0 hx1 hvb
  go_enter Tryz.func43, Tryz.ntmps43
  go_wp2_with fail
  refine HC.out.mono ?_
  rintro e w1 ⟨rfl, hb1⟩
  have HB1 := Lib.hid (HB.out.trans hb1)
  clear HC hb1 HB c0 c1 c2
  go_wp2_with fail
  refine (HP.out _ HB1.out).mono ?_
  rintro e w2 ⟨g, rfl, hg, hR, hb2⟩
  have HR := Lib.hid hR
  have HB2 := Lib.hid (HB1.out.trans (hb2.mono HB1.out.size))
  have HG : Hid (w.heap.size ≤ g) := Nat.le_trans HB1.out.size hg
  clear HP hR hb2 hg hm HB1
  go_wp2_with fail
  go_ret2
  exact ⟨g, rfl, HG.out, HR.out, HB2.out⟩
theorem Place3_any {w : World} {sa : Option Addr} {l : List Int} (h : Ints w sa l) (sc : Nat) (hosts x : Int) (hv : vOk 3 l hosts) (hin : inB (swI 3 l) [x] = true) :
    Calls Tryz.prog 43 #[.agg #[.int .i64 3, .slice sa l.length sc, .int .i64 hosts], .int .i64 x] w fun e w' => ∃ g, e = .returned (.tuple #[.slice (some ⟨g, 0, none⟩) (placeL 3 l x).length (placeL 3 l x).length, .int .i64 0]) ∧ w.heap.size ≤ g ∧ RowAt w' g (placeL 3 l x) ∧ Below w.heap.size w w' := by
  obtain ⟨hx0, hx1⟩ : 0 ≤ x ∧ x ≤ swI 3 l - 1 := by simpa [inB] using hin
  have hvb := v_bound hv
  obtain ⟨hbx, q0, q1, hz⟩ := twoN w (.cells #[.int .i64 3, .slice sa l.length sc, .int .i64 hosts] 24) (.cells #[.int .i64 x] 3)
  have HB := Lib.hid hbx
  have c0 := cellR 0 (heap_alloc_new w (.cells #[.int .i64 3, .slice sa l.length sc, .int .i64 hosts] 24)) rfl
  have c1 := cellR 1 (heap_alloc_new w (.cells #[.int .i64 3, .slice sa l.length sc, .int .i64 hosts] 24)) rfl
  have c2 := cellR 2 (heap_alloc_new w (.cells #[.int .i64 3, .slice sa l.length sc, .int .i64 hosts] 24)) rfl
  have hi := ints_one (w.alloc (.cells #[.int .i64 3, .slice sa l.length sc, .int .i64 hosts] 24)) x
  rw [show (w.alloc (.cells #[.int .i64 3, .slice sa l.length sc, .int .i64 hosts] 24)).heap.size = w.heap.size + 1 by simp] at hi
  have HC : Hid (Calls Tryz.prog 53 #[.agg #[.int .i64 3, .slice sa l.length sc, .int .i64 hosts], .slice (some ⟨w.heap.size + 1, 0, none⟩) 1 1] ((w.alloc (.cells #[.int .i64 3, .slice sa l.length sc, .int .i64 hosts] 24)).alloc (.cells #[.int .i64 x] 3)) fun e w' => e = .returned (.tuple #[.iface 146 (.agg #[.int .i64 (l.getD 0 0), .int .i64 (l.getD 1 0), .int .i64 (l.getD 0 0 * l.getD 1 0 + 1)]), .int .i64 0]) ∧ Below w.heap.size ((w.alloc (.cells #[.int .i64 3, .slice sa l.length sc, .int .i64 hosts] 24)).alloc (.cells #[.int .i64 x] 3)) w') := by
    refine (networkWith3_any (h.keep hbx) hi sc 1 hosts hv).mono ?_
    rintro e w' ⟨rfl, hb⟩
    exact ⟨by rw [if_pos hin]; rfl, hb.mono (by rw [hz]; omega)⟩
  have HP : Hid (∀ W, Below w.heap.size w W → Calls Tryz.prog 196 #[.agg #[.int .i64 (l.getD 0 0), .int .i64 (l.getD 1 0), .int .i64 (l.getD 0 0 * l.getD 1 0 + 1)], .int .i64 x] W fun e w' => ∃ g, e = .returned (.slice (some ⟨g, 0, none⟩) (placeL 3 l x).length (placeL 3 l x).length) ∧ W.heap.size ≤ g ∧ RowAt w' g (placeL 3 l x) ∧ Below W.heap.size W w') := fun W hb => by
    rcases hv with ⟨h9, _⟩ | ⟨h9, _⟩ | ⟨_, h9⟩
    · cases h9
    · cases h9
    · exact placeD_any (l.getD 0 0) (l.getD 1 0) (l.getD 0 0 * l.getD 1 0 + 1) x hx0 (by omega) h9.2.2.1.1 W
  have hm := m_place3 (l.getD 0 0) (l.getD 1 0) (l.getD 0 0 * l.getD 1 0 + 1)
  generalize placeL 3 l x = PLL at *
  clear h hbx q0 q1 hi hz hv hin hx0 hx1 hvb
  go_enter Tryz.func43, Tryz.ntmps43
  go_wp2_with fail
  refine HC.out.mono ?_
  rintro e w1 ⟨rfl, hb1⟩
  have HB1 := Lib.hid (HB.out.trans hb1)
  clear HC hb1 HB c0 c1 c2
  go_wp2_with fail
  refine (HP.out _ HB1.out).mono ?_
  rintro e w2 ⟨g, rfl, hg, hR, hb2⟩
  have HR := Lib.hid hR
  have HB2 := Lib.hid (HB1.out.trans (hb2.mono HB1.out.size))
  have HG : Hid (w.heap.size ≤ g) := Nat.le_trans HB1.out.size hg
  clear HP hR hb2 hg hm HB1
  go_wp2_with fail
  go_ret2
  exact ⟨g, rfl, HG.out, HR.out, HB2.out⟩
/-- Place: an error, or the list in new memory -/
theorem Place_any {w : World} {sa : Option Addr} {l : List Int} (h : Ints w sa l) (sc : Nat) (kind hosts x : Int) :
    Calls Tryz.prog 43 #[.agg #[.int .i64 kind, .slice sa l.length sc, .int .i64 hosts], .int .i64 x] w fun e w' => Below w.heap.size w w' ∧ ((plaE kind l hosts x ≠ 0 ∧ e = .returned (.tuple #[.slice none 0 0, .int .i64 (plaE kind l hosts x)])) ∨ (plaE kind l hosts x = 0 ∧ ∃ g, e = .returned (.tuple #[.slice (some ⟨g, 0, none⟩) (placeL kind l x).length (placeL kind l x).length, .int .i64 0]) ∧ w.heap.size ≤ g ∧ RowAt w' g (placeL kind l x))) := by
  by_cases hE : plaE kind l hosts x = 0
  · have h1 : vOk kind l hosts ∧ inB (swI kind l) [x] = true := by
      unfold plaE at hE
      by_cases hv : vOk kind l hosts
      · rw [if_pos hv] at hE
        by_cases hi : inB (swI kind l) [x] = true
        · exact ⟨hv, hi⟩
        · rw [if_neg hi] at hE; cases hE
      · rw [if_neg hv] at hE; cases hE
    rcases v_kind h1.1 with rfl | rfl | rfl
    · exact (Place1_any h sc hosts x h1.1 h1.2).mono fun e w' ⟨g, a1, a2, a3, a4⟩ => ⟨a4, .inr ⟨hE, g, a1, a2, a3⟩⟩
    · exact (Place2_any h sc hosts x h1.1 h1.2).mono fun e w' ⟨g, a1, a2, a3, a4⟩ => ⟨a4, .inr ⟨hE, g, a1, a2, a3⟩⟩
    · exact (Place3_any h sc hosts x h1.1 h1.2).mono fun e w' ⟨g, a1, a2, a3, a4⟩ => ⟨a4, .inr ⟨hE, g, a1, a2, a3⟩⟩
  · exact (Place_bad h sc kind hosts x hE).mono fun e w' ⟨a1, a2⟩ => ⟨a2, .inl ⟨hE, a1⟩⟩
end Go.Proofs.YtbhkenphcahifaaGreat
namespace Go.Proofs.YtbhkenphcahifaaGreat
open Go.RowKit Go.Shelf
attribute [local go_sem] Oper.semAt_some
set_option maxRecDepth 100000
set_option maxHeartbeats 4000000
theorem rpower_any (k n : Nat) (hk : k ≤ 16) (hn : n ≤ 5) (w : World) : Calls Tryz.prog 63 #[.int .i64 k, .int .i64 n] w fun e w' => e = .returned (.int .i64 ((k ^ n : Nat) : Int)) ∧ w = w' := by
  have HP : Hid (∀ j, j ≤ n → k ^ j ≤ 1048576) := fun j hj => pow_small hk (by omega)
  have HS : Hid (∀ j, k ^ (j + 1) = k ^ j * k) := fun j => Nat.pow_succ ..
  go_enter Tryz.func63, Tryz.ntmps63
  go_wp2_with fail
  go_loop [5, 6] (fun p i => ∃ j : Nat, j ≤ n ∧ i = .int .i64 j ∧ p = .int .i64 ((k ^ j : Nat) : Int)) (fun _ i => n - (intOf i).toNat)
  case atStart => exact ⟨0, Nat.zero_le _, rfl, by simp⟩
  case round =>
    obtain ⟨j, hj, rfl, rfl⟩ := hrel
    by_cases hlt : j < n
    · have h1 := HP.out j hj
      have h2 := HS.out j
      have h3 := HP.out (j + 1) hlt
      obtain ⟨P2, hP2⟩ : ∃ P2, P2 = k ^ (j + 1) := ⟨_, rfl⟩
      rw [← hP2] at h2 h3
      have HP2 := Lib.hid hP2
      clear hP2
      obtain ⟨P, hP⟩ : ∃ P, P = k ^ j := ⟨_, rfl⟩
      rw [← hP] at h1 h2 ⊢
      clear hP
      have hw : wrap64 ((P : Int) * k) = (P2 : Int) := by
        rw [h2]
        have : ((P * k : Nat) : Int) = (P : Int) * k := by simp
        rw [← this]
        unfold wrap64
        omega
      have HH := Lib.hid h2
      clear h2
      go_wp2_with fail
      go_round
      case rel => exact ⟨j + 1, by omega, by go_num, by rw [← HP2.out, hw]⟩
      case measure => simp [intOf]; omega
    · have hjn : j = n := by omega
      subst hjn
      go_wp2_with fail
      go_ret
      exact ⟨rfl, rfl⟩
theorem same_of {f : FuncId} {args : Array Value} {v : Value} (h : ∀ W, Calls Tryz.prog f args W fun e w' => e = .returned v ∧ W = w') : Hid (∀ W : World, Calls Tryz.prog f args W fun e w' => e = .returned v ∧ w' = W) := fun W => (h W).mono fun _ _ ⟨h1, h2⟩ => ⟨h1, h2.symm⟩
theorem rCheck1_any {w : World} {sa : Option Addr} {l : List Int} (h : Ints w sa l) (sc : Nat) (hosts : Int) :
    Calls Tryz.prog 50 #[.agg #[.int .i64 1, .slice sa l.length sc, .int .i64 hosts]] w fun e w' => e = .returned (.int .i64 (errI 1 l hosts)) ∧ Below w.heap.size w w' := by
  have hlen := h.len
  have HL := Lib.hid h
  obtain ⟨N, hN⟩ : ∃ N, N = l.length := ⟨_, rfl⟩
  have HN := Lib.hid hN
  rw [← hN] at hlen ⊢
  have HT : Hid (tOk l hosts = ((1 ≤ (N : Int) ∧ (N : Int) ≤ 4) ∧ (1 ≤ hosts ∧ hosts ≤ 4) ∧ (∀ x ∈ l, 2 ≤ x ∧ x ≤ 16) ∧ prodI l ≤ 256)) := by show _ = _; unfold tOk; rw [hN]
  have WI := Lib.hid (fun x lo hi W => rwithin_any x lo hi W)
  have HB := Lib.hid ((Below.refl w.heap.size w).alloc (Nat.le_refl _) (.cells #[.int .i64 1, .slice sa N sc, .int .i64 hosts] 34))
  have q0 := heap_alloc_new w (.cells #[.int .i64 1, .slice sa N sc, .int .i64 hosts] 34)
  have c0 := cellR 0 q0 rfl
  have c1 := cellR 1 q0 rfl
  have c2 := cellR 2 q0 rfl
  clear q0
  clear h hN
  have HE0 : Hid (¬ tOk l hosts → errI 1 l hosts = 2) := fun h => by
    unfold errI; rw [if_neg]; rintro (⟨_, h1⟩ | ⟨h1, _⟩ | ⟨h1, _⟩)
    · exact h h1
    · cases h1
    · cases h1
  have HE1 : Hid (tOk l hosts → errI 1 l hosts = 0) := fun h => by unfold errI; rw [if_pos (.inl ⟨rfl, h⟩)]
  generalize errI 1 l hosts = E at *
  by_cases g1 : 1 ≤ (N : Int) ∧ (N : Int) ≤ 4
  case neg =>
    have HV := Lib.hid (HE0.out (by rw [HT.out]; exact fun h => g1 h.1))
    have W1 := Lib.hid (fun W => WI.out (N : Int) 1 4 W)
    rw [show decide (1 ≤ (N : Int) ∧ (N : Int) ≤ 4) = false from decide_eq_false g1] at W1
    clear WI g1 HT HE0 HE1
    go_enter Tryz.func50, Tryz.ntmps50
    go_wp2_with fail
    generalize w.alloc (.cells #[.int .i64 1, .slice sa N sc, .int .i64 hosts] 34) = X at *
    refine (W1.out _).mono ?_
    rintro e w1 ⟨rfl, rfl⟩
    clear W1
    go_wp2_with fail
    go_loop [3, 4, 5] (fun g p i => g = .bool false ∧ i = .int .i64 0 ∧ p = .int .i64 1) (fun _ _ _ => 0)
    case atStart => exact ⟨rfl, rfl, rfl⟩
    case round =>
      obtain ⟨rfl, rfl, rfl⟩ := hrel
      by_cases hlt : 0 < N
      · go_wp2_with fail
        go_ret
        exact ⟨by rw [HV.out]; rfl, HB.out⟩
      · obtain rfl : N = 0 := by omega
        go_wp2_with fail
        go_ret
        exact ⟨by rw [HV.out]; rfl, HB.out⟩
  have W1 := Lib.hid (fun W => WI.out (N : Int) 1 4 W)
  rw [show decide (1 ≤ (N : Int) ∧ (N : Int) ≤ 4) = true from decide_eq_true g1] at W1
  by_cases g2 : 1 ≤ hosts ∧ hosts ≤ 4
  case neg =>
    have HV := Lib.hid (HE0.out (by rw [HT.out]; exact fun h => g2 h.2.1))
    have W2 := Lib.hid (fun W => WI.out hosts 1 4 W)
    rw [show decide (1 ≤ hosts ∧ hosts ≤ 4) = false from decide_eq_false g2] at W2
    have hN0 : 0 < N := by omega
    clear WI g1 g2 HT HE0 HE1
    go_enter Tryz.func50, Tryz.ntmps50
    go_wp2_with fail
    generalize w.alloc (.cells #[.int .i64 1, .slice sa N sc, .int .i64 hosts] 34) = X at *
    refine (W1.out _).mono ?_
    rintro e w1 ⟨rfl, rfl⟩
    clear W1
    go_wp2_with fail
    refine (W2.out _).mono ?_
    rintro e w1 ⟨rfl, rfl⟩
    clear W2
    go_wp2_with fail
    go_loop [3, 4, 5] (fun g p i => g = .bool false ∧ i = .int .i64 0 ∧ p = .int .i64 1) (fun _ _ _ => 0)
    case atStart => exact ⟨rfl, rfl, rfl⟩
    case round =>
      obtain ⟨rfl, rfl, rfl⟩ := hrel
      go_wp2_with fail
      go_ret
      exact ⟨by rw [HV.out]; rfl, HB.out⟩
  have W2 := Lib.hid (fun W => WI.out hosts 1 4 W)
  rw [show decide (1 ≤ hosts ∧ hosts ≤ 4) = true from decide_eq_true g2] at W2
  have G1 := Lib.hid g1
  have G2 := Lib.hid g2
  clear g1 g2
  go_enter Tryz.func50, Tryz.ntmps50
  go_wp2_with fail
  generalize w.alloc (.cells #[.int .i64 1, .slice sa N sc, .int .i64 hosts] 34) = X at *
  refine (W1.out _).mono ?_
  rintro e w1 ⟨rfl, rfl⟩
  clear W1
  go_wp2_with fail
  refine (W2.out _).mono ?_
  rintro e w1 ⟨rfl, rfl⟩
  clear W2
  go_wp2_with fail
  go_loop [3, 4, 5] (fun g p i => ∃ (k : Nat) (q : Int) (gd : Bool), k ≤ N ∧ i = .int .i64 k ∧ p = .int .i64 q ∧ g = .bool gd ∧ Hid (gd = false → ¬ tOk l hosts) ∧ (gd = true → 1 ≤ q) ∧ Hid (gd = true → q = prodI (l.take k) ∧ q ≤ 16 ^ k ∧ ∀ j (hj : j < l.length), j < k → 2 ≤ l[j] ∧ l[j] ≤ 16)) (fun _ _ i => N - (intOf i).toNat)
  case atStart => exact ⟨0, 1, true, Nat.zero_le _, rfl, rfl, rfl, (fun h => by cases h), fun _ => by decide, fun _ => ⟨rfl, by show (1 : Int) ≤ 16 ^ 0; decide, fun j _ h => by omega⟩⟩
  case round =>
    obtain ⟨k, q, gd, hk, rfl, rfl, rfl, HG0, hq, HG1⟩ := hrel
    cases gd with
    | false =>
      have HV := Lib.hid (HE0.out (HG0.out rfl))
      clear hq HG0 HG1 HE0 HE1 HT
      by_cases hlt : k < N
      · go_wp2_with fail
        go_ret
        exact ⟨by rw [HV.out]; rfl, HB.out⟩
      · go_wp2_with fail
        go_ret
        exact ⟨by rw [HV.out]; rfl, HB.out⟩
    | true =>
      have hq1 := hq rfl
      obtain ⟨hQ, hQ2, hP⟩ := HG1.out rfl
      clear hq HG0 HG1
      by_cases hlt : k < N
      · have hk1 : k < l.length := by rw [← HN.out]; exact hlt
        obtain ⟨g, o, rfl, hc⟩ := (HL.out.keep HB.out).at_ (ne_nil_of_lt hk1)
        have e0 := hc k hk1
        have HPS : Hid (prodI (l.take (k + 1)) = prodI (l.take k) * l[k]) := by
          show _ = _
          rw [List.take_succ_eq_append_getElem hk1, prodI_snoc]
        have HP2 : Hid (2 ≤ l[k] ∧ l[k] ≤ 16 → ∀ j (hj : j < l.length), j < k + 1 → 2 ≤ l[j] ∧ l[j] ≤ 16) := fun h j hj h2 => by
          by_cases h3 : j < k
          · exact hP j hj h3
          · obtain rfl : j = k := by omega
            exact h
        have HNB : Hid (¬ (2 ≤ l[k] ∧ l[k] ≤ 16) → ¬ tOk l hosts) := fun h h2 => by
          rw [HT.out] at h2
          exact h (h2.2.2.1 _ (List.getElem_mem hk1))
        generalize l[k] = x at *
        clear hc hk1 hP
        by_cases hx : 2 ≤ x ∧ x ≤ 16
        · have W3 := Lib.hid (fun W => WI.out x 2 16 W)
          rw [show decide (2 ≤ x ∧ x ≤ 16) = true from decide_eq_true hx] at W3
          obtain ⟨hm1, hm2⟩ := mul_bound hq1 hQ2 hx.1 hx.2
          have hl5 := lim16 (show k + 1 ≤ 4 by have := G1.out; omega)
          rw [Int.pow_succ] at hl5
          have hw : wrap64 (q * x) = q * x := by
            generalize q * x = z at *
            generalize (16 : Int) ^ k * 16 = y at *
            unfold wrap64
            omega
          have HQ3 : Hid (q * x = prodI (l.take (k + 1)) ∧ q * x ≤ 16 ^ (k + 1)) := ⟨by rw [HPS.out, ← hQ], by rw [Int.pow_succ]; exact hm2⟩
          have HP3 := Lib.hid (HP2.out hx)
          clear hx hm2 hl5 HPS HP2 HNB hQ hQ2
          go_wp2_with fail
          refine (W3.out _).mono ?_
          rintro e w1 ⟨rfl, rfl⟩
          clear W3
          go_wp2_with fail
          go_round
          case rel => exact ⟨k + 1, q * x, true, by omega, by go_num, by rw [hw], rfl, (fun h => by cases h), fun _ => hm1, fun _ => ⟨HQ3.out.1, HQ3.out.2, HP3.out⟩⟩
          case measure => simp [intOf]; omega
        · have W3 := Lib.hid (fun W => WI.out x 2 16 W)
          rw [show decide (2 ≤ x ∧ x ≤ 16) = false from decide_eq_false hx] at W3
          have HNB2 := Lib.hid (HNB.out hx)
          clear hx HPS HP2 HNB hQ hQ2 WI
          go_wp2_with fail
          refine (W3.out _).mono ?_
          rintro e w1 ⟨rfl, rfl⟩
          clear W3
          go_wp2_with fail
          go_round
          case rel => exact ⟨k + 1, _, false, by omega, by go_num, rfl, rfl, fun _ => HNB2.out, (fun h => by cases h), (fun h => by cases h)⟩
          case measure => simp [intOf]; omega
      · have hkN : k = N := by omega
        have hall : ∀ x ∈ l, 2 ≤ x ∧ x ≤ 16 := fun x hx => by
          obtain ⟨j, hj, rfl⟩ := List.getElem_of_mem hx
          exact hP j hj (by have := HN.out; omega)
        have hqp : q = prodI l := by rw [hQ, hkN, HN.out, List.take_length]
        have HD : Hid (q ≤ 256 ↔ tOk l hosts) := by
          show _ ↔ _
          rw [HT.out, hqp]
          exact ⟨fun h => ⟨G1.out, G2.out, hall, h⟩, fun h => h.2.2.2⟩
        clear hall hqp hQ hQ2 hP HT
        by_cases h256 : q ≤ 256
        · have HV := Lib.hid (HE1.out (HD.out.1 h256))
          clear HD HE0 HE1
          go_wp2_with fail
          go_ret
          exact ⟨by rw [HV.out]; rfl, HB.out⟩
        · have HV := Lib.hid (HE0.out fun h => h256 (HD.out.2 h))
          clear HD HE0 HE1
          go_wp2_with fail
          go_ret
          exact ⟨by rw [HV.out]; rfl, HB.out⟩
end Go.Proofs.YtbhkenphcahifaaGreat
namespace Go.Proofs.YtbhkenphcahifaaGreat
open Go.RowKit Go.Shelf
attribute [local go_sem] Oper.semAt_some
set_option maxRecDepth 100000
set_option maxHeartbeats 4000000
theorem rCheck2_any {w : World} {sa : Option Addr} {l : List Int} (h : Ints w sa l) (sc : Nat) (hosts : Int) :
    Calls Tryz.prog 50 #[.agg #[.int .i64 2, .slice sa l.length sc, .int .i64 hosts]] w fun e w' => e = .returned (.int .i64 (errI 2 l hosts)) ∧ Below w.heap.size w w' := by
  have hlen := h.len
  have HL := Lib.hid h
  have HE0 : Hid (¬ rOk l hosts → errI 2 l hosts = 2) := fun h => by
    unfold errI; rw [if_neg]; rintro (⟨h0, h1⟩ | ⟨h0, h1⟩ | ⟨h0, h1⟩) <;> first | exact h h1 | cases h0
  have HE1 : Hid (rOk l hosts → errI 2 l hosts = 0) := fun h => by unfold errI; rw [if_pos (.inr (.inl ⟨rfl, h⟩))]
  generalize errI 2 l hosts = E at *
  by_cases hl2 : l.length = 2
  case neg =>
    have HV := Lib.hid (HE0.out (by unfold rOk; exact fun h => hl2 h.1))
    generalize l.length = N at *
    have hb1 : ((N : Int) == 2) = false := by rw [beq_eq_false_iff_ne]; omega
    have hb2 : decide ((N : Int) = 2) = false := decide_eq_false (by omega)
    have HB := Lib.hid ((Below.refl w.heap.size w).alloc (Nat.le_refl _) (.cells #[.int .i64 2, .slice sa N sc, .int .i64 hosts] 34))
    have q0 := heap_alloc_new w (.cells #[.int .i64 2, .slice sa N sc, .int .i64 hosts] 34)
    have c0 := cellR 0 q0 rfl
    have c1 := cellR 1 q0 rfl
    have c2 := cellR 2 q0 rfl
    clear h q0 HL HE0 HE1 hl2
    go_enter Tryz.func50, Tryz.ntmps50
    go_wp2_with fail
    generalize w.alloc (.cells #[.int .i64 2, .slice sa N sc, .int .i64 hosts] 34) = X at *
    go_quiet (fail)
    go_wp2_with fail
    go_ret
    exact ⟨by rw [HV.out]; rfl, below_drewN HB.out _⟩
  obtain ⟨a, b, rfl⟩ := two_of hl2
  have HB := Lib.hid ((Below.refl w.heap.size w).alloc (Nat.le_refl _) (.cells #[.int .i64 2, .slice sa 2 sc, .int .i64 hosts] 34))
  obtain ⟨g, o, rfl, hc⟩ := (HL.out.keep HB.out).at_ (by simp)
  have q0 := heap_alloc_new w (.cells #[.int .i64 2, .slice (some ⟨g, o, none⟩) 2 sc, .int .i64 hosts] 34)
  have c0 := cellR 0 q0 rfl
  have c1 := cellR 1 q0 rfl
  have c2 := cellR 2 q0 rfl
  have e0 := hc 0 (by simp)
  have e1 := hc 1 (by simp)
  rw [Nat.add_zero] at e0
  simp only [List.getElem_cons_zero, List.getElem_cons_succ] at e0 e1
  clear hc HL h q0 hl2 hlen
  show Calls Tryz.prog 50 #[.agg #[.int .i64 2, .slice (some ⟨g, o, none⟩) 2 sc, .int .i64 hosts]] w _
  by_cases hW1 : 2 ≤ a ∧ a ≤ 8
  case neg =>
    have HV := Lib.hid (HE0.out (by unfold rOk; exact fun h => hW1 h.2.1))
    have W1 := same_of (fun W => rwithin_any a 2 8 W)
    rw [show decide (2 ≤ a ∧ a ≤ 8) = false from decide_eq_false hW1] at W1
    clear HE0 HE1 hW1
    go_enter Tryz.func50, Tryz.ntmps50
    go_wp2_with fail
    generalize w.alloc (.cells #[.int .i64 2, .slice (some ⟨g, o, none⟩) 2 sc, .int .i64 hosts] 34) = X at *
    go_quiet (first | (go_at_call 94; first | (with_reducible refine Calls.quiet_of_same (W1.out _))))
    go_wp2_with fail
    go_ret
    exact ⟨by rw [HV.out]; rfl, below_drewN HB.out _⟩
  have W1 := same_of (fun W => rwithin_any a 2 8 W)
  rw [show decide (2 ≤ a ∧ a ≤ 8) = true from decide_eq_true hW1] at W1
  by_cases hW2 : 1 ≤ b ∧ b ≤ 4
  case neg =>
    have HV := Lib.hid (HE0.out (by unfold rOk; exact fun h => hW2 h.2.2.1))
    have W2 := same_of (fun W => rwithin_any b 1 4 W)
    rw [show decide (1 ≤ b ∧ b ≤ 4) = false from decide_eq_false hW2] at W2
    clear HE0 HE1 hW1 hW2
    go_enter Tryz.func50, Tryz.ntmps50
    go_wp2_with fail
    generalize w.alloc (.cells #[.int .i64 2, .slice (some ⟨g, o, none⟩) 2 sc, .int .i64 hosts] 34) = X at *
    go_quiet (first | (go_at_call 94; first | (with_reducible refine Calls.quiet_of_same (W1.out _)) | (with_reducible refine Calls.quiet_of_same (W2.out _))))
    go_wp2_with fail
    go_ret
    exact ⟨by rw [HV.out]; rfl, below_drewN HB.out _⟩
  have W2 := same_of (fun W => rwithin_any b 1 4 W)
  rw [show decide (1 ≤ b ∧ b ≤ 4) = true from decide_eq_true hW2] at W2
  obtain ⟨kn, rfl⟩ := Int.eq_ofNat_of_zero_le (show 0 ≤ a by omega)
  obtain ⟨ln, rfl⟩ := Int.eq_ofNat_of_zero_le (show 0 ≤ b by omega)
  have W3 := same_of (fun W => rpower_any kn ln (by omega) (by omega) W)
  have HRK : Hid (rOk [(kn : Int), (ln : Int)] hosts ↔ (kn ^ ln ≤ 256 ∧ hosts = kn)) := by
    show _ ↔ _
    unfold rOk
    simp only [List.length_cons, List.length_nil, List.getD_cons_zero, List.getD_cons_succ, Int.toNat_natCast]
    exact ⟨fun h => ⟨h.2.2.2.1, h.2.2.2.2⟩, fun h => ⟨by trivial, hW1, hW2, h.1, h.2⟩⟩
  obtain ⟨pw, hpw⟩ : ∃ pw, pw = kn ^ ln := ⟨_, rfl⟩
  rw [← hpw] at W3 HRK
  clear hpw hW1 hW2
  by_cases h256 : pw ≤ 256
  case neg =>
    have HV := Lib.hid (HE0.out (fun h => h256 (HRK.out.1 h).1))
    have hb1 : decide ((pw : Int) ≤ 256) = false := decide_eq_false (by omega)
    clear HE0 HE1 HRK h256
    go_enter Tryz.func50, Tryz.ntmps50
    go_wp2_with fail
    generalize w.alloc (.cells #[.int .i64 2, .slice (some ⟨g, o, none⟩) 2 sc, .int .i64 hosts] 34) = X at *
    go_quiet (first | (go_at_call 94; first | (with_reducible refine Calls.quiet_of_same (W1.out _)) | (with_reducible refine Calls.quiet_of_same (W2.out _))) | (go_at_call 63; first | (with_reducible refine Calls.quiet_of_same (W3.out _))))
    go_wp2_with fail
    go_ret
    exact ⟨by rw [HV.out]; rfl, below_drewN HB.out _⟩
  have hb1 : decide ((pw : Int) ≤ 256) = true := decide_eq_true (by omega)
  by_cases hho : hosts = kn
  case neg =>
    have HV := Lib.hid (HE0.out (fun h => hho (HRK.out.1 h).2))
    have hb2 : (hosts == (kn : Int)) = false := by rw [beq_eq_false_iff_ne]; exact hho
    have hb3 : decide (hosts = (kn : Int)) = false := decide_eq_false hho
    clear HE0 HE1 HRK h256 hho
    go_enter Tryz.func50, Tryz.ntmps50
    go_wp2_with fail
    generalize w.alloc (.cells #[.int .i64 2, .slice (some ⟨g, o, none⟩) 2 sc, .int .i64 hosts] 34) = X at *
    go_quiet (first | (go_at_call 94; first | (with_reducible refine Calls.quiet_of_same (W1.out _)) | (with_reducible refine Calls.quiet_of_same (W2.out _))) | (go_at_call 63; first | (with_reducible refine Calls.quiet_of_same (W3.out _))))
    go_wp2_with fail
    go_ret
    exact ⟨by rw [HV.out]; rfl, below_drewN HB.out _⟩
  have HV := Lib.hid (HE1.out (HRK.out.2 ⟨h256, hho⟩))
  clear HE0 HE1 HRK h256
  subst hho
  go_enter Tryz.func50, Tryz.ntmps50
  go_wp2_with fail
  generalize w.alloc (.cells #[.int .i64 2, .slice (some ⟨g, o, none⟩) 2 sc, .int .i64 (kn : Int)] 34) = X at *
  go_quiet (first | (go_at_call 94; first | (with_reducible refine Calls.quiet_of_same (W1.out _)) | (with_reducible refine Calls.quiet_of_same (W2.out _))) | (go_at_call 63; first | (with_reducible refine Calls.quiet_of_same (W3.out _))))
  go_wp2_with fail
  go_ret
  exact ⟨by rw [HV.out]; rfl, below_drewN HB.out _⟩
theorem rCheck3_any {w : World} {sa : Option Addr} {l : List Int} (h : Ints w sa l) (sc : Nat) (hosts : Int) :
    Calls Tryz.prog 50 #[.agg #[.int .i64 3, .slice sa l.length sc, .int .i64 hosts]] w fun e w' => e = .returned (.int .i64 (errI 3 l hosts)) ∧ Below w.heap.size w w' := by
  have hlen := h.len
  have HL := Lib.hid h
  have HE0 : Hid (¬ dOk l hosts → errI 3 l hosts = 2) := fun h => by
    unfold errI; rw [if_neg]; rintro (⟨h0, h1⟩ | ⟨h0, h1⟩ | ⟨h0, h1⟩) <;> first | exact h h1 | cases h0
  have HE1 : Hid (dOk l hosts → errI 3 l hosts = 0) := fun h => by unfold errI; rw [if_pos (.inr (.inr ⟨rfl, h⟩))]
  generalize errI 3 l hosts = E at *
  by_cases hl2 : l.length = 2
  case neg =>
    have HV := Lib.hid (HE0.out (by unfold dOk; exact fun h => hl2 h.1))
    generalize l.length = N at *
    have hb1 : ((N : Int) == 2) = false := by rw [beq_eq_false_iff_ne]; omega
    have hb2 : decide ((N : Int) = 2) = false := decide_eq_false (by omega)
    have HB := Lib.hid ((Below.refl w.heap.size w).alloc (Nat.le_refl _) (.cells #[.int .i64 3, .slice sa N sc, .int .i64 hosts] 34))
    have q0 := heap_alloc_new w (.cells #[.int .i64 3, .slice sa N sc, .int .i64 hosts] 34)
    have c0 := cellR 0 q0 rfl
    have c1 := cellR 1 q0 rfl
    have c2 := cellR 2 q0 rfl
    clear h q0 HL HE0 HE1 hl2
    go_enter Tryz.func50, Tryz.ntmps50
    go_wp2_with fail
    generalize w.alloc (.cells #[.int .i64 3, .slice sa N sc, .int .i64 hosts] 34) = X at *
    go_quiet (fail)
    go_wp2_with fail
    go_ret
    exact ⟨by rw [HV.out]; rfl, below_drewN HB.out _⟩
  obtain ⟨a, b, rfl⟩ := two_of hl2
  have HB := Lib.hid ((Below.refl w.heap.size w).alloc (Nat.le_refl _) (.cells #[.int .i64 3, .slice sa 2 sc, .int .i64 hosts] 34))
  obtain ⟨g, o, rfl, hc⟩ := (HL.out.keep HB.out).at_ (by simp)
  have q0 := heap_alloc_new w (.cells #[.int .i64 3, .slice (some ⟨g, o, none⟩) 2 sc, .int .i64 hosts] 34)
  have c0 := cellR 0 q0 rfl
  have c1 := cellR 1 q0 rfl
  have c2 := cellR 2 q0 rfl
  have e0 := hc 0 (by simp)
  have e1 := hc 1 (by simp)
  rw [Nat.add_zero] at e0
  simp only [List.getElem_cons_zero, List.getElem_cons_succ] at e0 e1
  clear hc HL h q0 hl2 hlen
  show Calls Tryz.prog 50 #[.agg #[.int .i64 3, .slice (some ⟨g, o, none⟩) 2 sc, .int .i64 hosts]] w _
  by_cases hW1 : 1 ≤ a ∧ a ≤ 16
  case neg =>
    have HV := Lib.hid (HE0.out (by unfold dOk; exact fun h => hW1 h.2.2.1))
    have W1 := same_of (fun W => rwithin_any a 1 16 W)
    rw [show decide (1 ≤ a ∧ a ≤ 16) = false from decide_eq_false hW1] at W1
    clear HE0 HE1 hW1
    go_enter Tryz.func50, Tryz.ntmps50
    go_wp2_with fail
    generalize w.alloc (.cells #[.int .i64 3, .slice (some ⟨g, o, none⟩) 2 sc, .int .i64 hosts] 34) = X at *
    go_quiet (first | (go_at_call 94; first | (with_reducible refine Calls.quiet_of_same (W1.out _))))
    go_wp2_with fail
    go_ret
    exact ⟨by rw [HV.out]; rfl, below_drewN HB.out _⟩
  have W1 := same_of (fun W => rwithin_any a 1 16 W)
  rw [show decide (1 ≤ a ∧ a ≤ 16) = true from decide_eq_true hW1] at W1
  by_cases hW2 : 1 ≤ b ∧ b ≤ 4
  case neg =>
    have HV := Lib.hid (HE0.out (by unfold dOk; exact fun h => hW2 h.2.2.2.1))
    have W2 := same_of (fun W => rwithin_any b 1 4 W)
    rw [show decide (1 ≤ b ∧ b ≤ 4) = false from decide_eq_false hW2] at W2
    clear HE0 HE1 hW1 hW2
    go_enter Tryz.func50, Tryz.ntmps50
    go_wp2_with fail
    generalize w.alloc (.cells #[.int .i64 3, .slice (some ⟨g, o, none⟩) 2 sc, .int .i64 hosts] 34) = X at *
    go_quiet (first | (go_at_call 94; first | (with_reducible refine Calls.quiet_of_same (W1.out _)) | (with_reducible refine Calls.quiet_of_same (W2.out _))))
    go_wp2_with fail
    go_ret
    exact ⟨by rw [HV.out]; rfl, below_drewN HB.out _⟩
  have W2 := same_of (fun W => rwithin_any b 1 4 W)
  rw [show decide (1 ≤ b ∧ b ≤ 4) = true from decide_eq_true hW2] at W2
  obtain ⟨b1, b2, b3, b4⟩ := drag_bound hW1.1 hW1.2 hW2.1 hW2.2
  have HDK : Hid (dOk [a, b] hosts ↔ a * (a * b + 1) ≤ 256 ∧ 1 ≤ hosts ∧ hosts ≤ 4) := by
    show _ ↔ _
    unfold dOk
    simp only [List.length_cons, List.length_nil, List.getD_cons_zero, List.getD_cons_succ]
    exact ⟨fun h => ⟨h.2.2.2.2, h.2.1⟩, fun h => ⟨by trivial, h.2, hW1, hW2, h.1⟩⟩
  have w1' : wrap64 (a * b) = a * b := by generalize a * b = z at *; unfold wrap64; omega
  have w2' : wrap64 (a * b + 1) = a * b + 1 := by generalize a * b = z at *; unfold wrap64; omega
  have w3' : wrap64 (a * (a * b + 1)) = a * (a * b + 1) := by generalize a * (a * b + 1) = z at *; unfold wrap64; omega
  clear hW1 hW2
  by_cases h256 : a * (a * b + 1) ≤ 256
  case neg =>
    have HV := Lib.hid (HE0.out (fun h => h256 (HDK.out.1 h).1))
    have hb1 : decide (a * (a * b + 1) ≤ 256) = false := decide_eq_false h256
    clear HE0 HE1 HDK b1 b2 b3 b4
    go_enter Tryz.func50, Tryz.ntmps50
    go_wp2_with fail
    generalize w.alloc (.cells #[.int .i64 3, .slice (some ⟨g, o, none⟩) 2 sc, .int .i64 hosts] 34) = X at *
    go_quiet (first | (go_at_call 94; first | (with_reducible refine Calls.quiet_of_same (W1.out _)) | (with_reducible refine Calls.quiet_of_same (W2.out _))))
    go_wp2_with fail
    go_ret
    exact ⟨by rw [HV.out]; rfl, below_drewN HB.out _⟩
  have hb1 : decide (a * (a * b + 1) ≤ 256) = true := decide_eq_true h256
  by_cases hho : 1 ≤ hosts ∧ hosts ≤ 4
  case neg =>
    have HV := Lib.hid (HE0.out (fun h => hho (HDK.out.1 h).2))
    have W3 := same_of (fun W => rwithin_any hosts 1 4 W)
    rw [show decide (1 ≤ hosts ∧ hosts ≤ 4) = false from decide_eq_false hho] at W3
    clear HE0 HE1 HDK hho b1 b2 b3 b4
    go_enter Tryz.func50, Tryz.ntmps50
    go_wp2_with fail
    generalize w.alloc (.cells #[.int .i64 3, .slice (some ⟨g, o, none⟩) 2 sc, .int .i64 hosts] 34) = X at *
    go_quiet (first | (go_at_call 94; first | (with_reducible refine Calls.quiet_of_same (W1.out _)) | (with_reducible refine Calls.quiet_of_same (W2.out _)) | (with_reducible refine Calls.quiet_of_same (W3.out _))))
    go_wp2_with fail
    go_ret
    exact ⟨by rw [HV.out]; rfl, below_drewN HB.out _⟩
  have HV := Lib.hid (HE1.out (HDK.out.2 ⟨h256, hho⟩))
  have W3 := same_of (fun W => rwithin_any hosts 1 4 W)
  rw [show decide (1 ≤ hosts ∧ hosts ≤ 4) = true from decide_eq_true hho] at W3
  clear HE0 HE1 HDK hho b1 b2 b3 b4
  go_enter Tryz.func50, Tryz.ntmps50
  go_wp2_with fail
  generalize w.alloc (.cells #[.int .i64 3, .slice (some ⟨g, o, none⟩) 2 sc, .int .i64 hosts] 34) = X at *
  go_quiet (first | (go_at_call 94; first | (with_reducible refine Calls.quiet_of_same (W1.out _)) | (with_reducible refine Calls.quiet_of_same (W2.out _)) | (with_reducible refine Calls.quiet_of_same (W3.out _))))
  go_wp2_with fail
  go_ret
  exact ⟨by rw [HV.out]; rfl, below_drewN HB.out _⟩
theorem rCheck_any {w : World} {sa : Option Addr} {l : List Int} (h : Ints w sa l) (sc : Nat) (kind hosts : Int) :
    Calls Tryz.prog 50 #[.agg #[.int .i64 kind, .slice sa l.length sc, .int .i64 hosts]] w fun e w' => e = .returned (.int .i64 (errI kind l hosts)) ∧ Below w.heap.size w w' := by
  by_cases h1 : kind = 1
  · subst h1; exact rCheck1_any h sc hosts
  by_cases h2 : kind = 2
  · subst h2; exact rCheck2_any h sc hosts
  by_cases h3 : kind = 3
  · subst h3; exact rCheck3_any h sc hosts
  have HV : Hid (errI kind l hosts = 2) := by
    show _ = _
    unfold errI; rw [if_neg]; rintro (⟨h0, _⟩ | ⟨h0, _⟩ | ⟨h0, _⟩)
    · exact h1 h0
    · exact h2 h0
    · exact h3 h0
  have hlen := h.len
  generalize errI kind l hosts = E at *
  generalize l.length = N at *
  have HB := Lib.hid ((Below.refl w.heap.size w).alloc (Nat.le_refl _) (.cells #[.int .i64 kind, .slice sa N sc, .int .i64 hosts] 34))
  have q0 := heap_alloc_new w (.cells #[.int .i64 kind, .slice sa N sc, .int .i64 hosts] 34)
  have c0 := cellR 0 q0 rfl
  have b1 : (kind == 1) = false := by rw [beq_eq_false_iff_ne]; exact h1
  have b2 : (kind == 2) = false := by rw [beq_eq_false_iff_ne]; exact h2
  have b3 : (kind == 3) = false := by rw [beq_eq_false_iff_ne]; exact h3
  clear h q0 h1 h2 h3
  go_enter Tryz.func50, Tryz.ntmps50
  go_wp2_with fail
  go_ret
  exact ⟨by rw [HV.out]; rfl, HB.out⟩
end Go.Proofs.YtbhkenphcahifaaGreat
namespace Go.Proofs.YtbhkenphcahifaaGreat
open Go.RowKit Go.Shelf
attribute [local go_sem] Oper.semAt_some
set_option maxRecDepth 100000
set_option maxHeartbeats 4000000
/-- a pair of numbers in memory, a spec of two sides in a box -/
def Two (w : World) (g o : Nat) (a b : Int) : Prop := w.cell? ⟨g, o, none⟩ = some (.int .i64 a) ∧ w.cell? ⟨g, o + 1, none⟩ = some (.int .i64 b)
theorem Two.keep {w w' : World} {g o : Nat} {a b : Int} (h : Two w g o a b) (hb : Below w.heap.size w w') : Two w' g o a b := ⟨kcell hb h.1, kcell hb h.2⟩
theorem info30 : (Tryz.prog.info? 34).map (·.size) = some 3 := by kernel_rfl
theorem Ints.two {w : World} {sa : Option Addr} {a b : Int} (h : Ints w sa [a, b]) : ∃ g o, sa = some ⟨g, o, none⟩ ∧ Two w g o a b := by
  obtain ⟨g, o, rfl, hc⟩ := h.at_ (by simp)
  have e0 := hc 0 (by simp)
  have e1 := hc 1 (by simp)
  exact ⟨g, o, rfl, e0, e1⟩
theorem rWords_any {w : World} {g o : Nat} (kn ln : Nat) (hk : kn ≤ 16) (h1 : 1 ≤ ln) (hl : ln ≤ 5) (ht : Two w g o kn ln) (sc : Nat) (kind hosts : Int) :
    Calls Tryz.prog 95 #[.agg #[.int .i64 kind, .slice (some ⟨g, o, none⟩) 2 sc, .int .i64 hosts]] w fun e w' => e = .returned (.int .i64 (wordsI [(kn : Int), (ln : Int)])) ∧ Below w.heap.size w w' := by
  have HB := Lib.hid ((Below.refl w.heap.size w).alloc (Nat.le_refl _) (.cells #[.int .i64 kind, .slice (some ⟨g, o, none⟩) 2 sc, .int .i64 hosts] 34))
  have Q0 := Lib.hid (heap_alloc_new w (.cells #[.int .i64 kind, .slice (some ⟨g, o, none⟩) 2 sc, .int .i64 hosts] 34))
  have c0 := cellR 0 Q0.out rfl
  have c1 := cellR 1 Q0.out rfl
  have c2 := cellR 2 Q0.out rfl
  obtain ⟨e0, e1⟩ := ht.keep HB.out
  have HWD : Hid (wordsI [(kn : Int), (ln : Int)] = ((kn ^ (ln - 1) : Nat) : Int)) := rfl
  have W3 := same_of (fun W => rpower_any kn (ln - 1) hk (by omega) W)
  have hli : ((ln - 1 : Nat) : Int) = (ln : Int) - 1 := by omega
  have hlw : wrap64 ((ln : Int) - 1) = (ln : Int) - 1 := by unfold wrap64; omega
  rw [hli] at W3
  rw [HWD.out]
  generalize kn ^ (ln - 1) = pw at *
  clear HWD hli Q0 ht
  go_enter Tryz.func95, Tryz.ntmps95
  go_wp2_with fail
  generalize w.alloc (.cells #[.int .i64 kind, .slice (some ⟨g, o, none⟩) 2 sc, .int .i64 hosts] 34) = X at *
  go_quiet (first | (go_at_call 63; refine Calls.quiet_of_same (W3.out _)))
  go_wp2_with fail
  go_ret
  exact ⟨rfl, below_drewN HB.out _⟩
theorem rGroups_any {w : World} {g o : Nat} (a b : Int) (h1 : 1 ≤ a) (h2 : a ≤ 16) (h3 : 1 ≤ b) (h4 : b ≤ 4) (ht : Two w g o a b) (sc : Nat) (kind hosts : Int) :
    Calls Tryz.prog 65 #[.agg #[.int .i64 kind, .slice (some ⟨g, o, none⟩) 2 sc, .int .i64 hosts]] w fun e w' => e = .returned (.int .i64 (a * b + 1)) ∧ Below w.heap.size w w' := by
  have HB := Lib.hid ((Below.refl w.heap.size w).alloc (Nat.le_refl _) (.cells #[.int .i64 kind, .slice (some ⟨g, o, none⟩) 2 sc, .int .i64 hosts] 34))
  have Q0 := Lib.hid (heap_alloc_new w (.cells #[.int .i64 kind, .slice (some ⟨g, o, none⟩) 2 sc, .int .i64 hosts] 34))
  have c0 := cellR 0 Q0.out rfl
  have c1 := cellR 1 Q0.out rfl
  have c2 := cellR 2 Q0.out rfl
  obtain ⟨e0, e1⟩ := ht.keep HB.out
  obtain ⟨b1, b2, b3, b4⟩ := drag_bound h1 h2 h3 h4
  have w1' : wrap64 (a * b) = a * b := by generalize a * b = z at *; unfold wrap64; omega
  have w2' : wrap64 (a * b + 1) = a * b + 1 := by generalize a * b = z at *; unfold wrap64; omega
  clear b1 b2 b3 b4 h1 h2 h3 h4 Q0 ht
  go_enter Tryz.func65, Tryz.ntmps65
  go_wp2_with fail
  generalize w.alloc (.cells #[.int .i64 kind, .slice (some ⟨g, o, none⟩) 2 sc, .int .i64 hosts] 34) = X at *
  go_quiet (fail)
  go_wp2_with fail
  go_ret
  exact ⟨by show Ending.returned (.int .i64 (wrap64 (a * b + 1))) = _; rw [w2'], below_drewN HB.out _⟩
theorem rSw2_any {w : World} {g o : Nat} (kn ln : Nat) (hk : kn ≤ 16) (h1 : 1 ≤ ln) (hl : ln ≤ 5) (ht : Two w g o kn ln) (sc : Nat) (hosts : Int) :
    Calls Tryz.prog 51 #[.agg #[.int .i64 2, .slice (some ⟨g, o, none⟩) 2 sc, .int .i64 hosts]] w fun e w' => e = .returned (.int .i64 ((ln : Int) * wordsI [(kn : Int), (ln : Int)])) ∧ Below w.heap.size w w' := by
  have HB := Lib.hid ((Below.refl w.heap.size w).alloc (Nat.le_refl _) (.cells #[.int .i64 2, .slice (some ⟨g, o, none⟩) 2 sc, .int .i64 hosts] 34))
  have Q0 := Lib.hid (heap_alloc_new w (.cells #[.int .i64 2, .slice (some ⟨g, o, none⟩) 2 sc, .int .i64 hosts] 34))
  have c0 := cellR 0 Q0.out rfl
  have c1 := cellR 1 Q0.out rfl
  have c2 := cellR 2 Q0.out rfl
  obtain ⟨e0, e1⟩ := ht.keep HB.out
  obtain ⟨ww, hww⟩ : ∃ ww, ww = wordsI [(kn : Int), (ln : Int)] := ⟨_, rfl⟩
  have HWW := Lib.hid hww
  have hwb : 0 ≤ ww ∧ ww ≤ 1048576 := by
    rw [hww]
    have := pow_small (k := kn) (n := ln - 1) hk (by omega)
    show (0 : Int) ≤ ((kn ^ (ln - 1) : Nat) : Int) ∧ ((kn ^ (ln - 1) : Nat) : Int) ≤ 1048576
    omega
  have hw9 : IntKind.i64.wrap ((ln : Int) * ww) = (ln : Int) * ww := by
    rw [IntKind.wrap_i64]
    have m1 := Int.mul_le_mul (show (ln : Int) ≤ 5 by omega) hwb.2 hwb.1 (by decide)
    have m2 := Int.mul_nonneg (show (0 : Int) ≤ ln by omega) hwb.1
    generalize (ln : Int) * ww = z at *; omega
  rw [← hww]
  clear hww hwb
  go_enter Tryz.func51, Tryz.ntmps51
  go_wp2_with fail
  generalize w.alloc (.cells #[.int .i64 2, .slice (some ⟨g, o, none⟩) 2 sc, .int .i64 hosts] 34) = X at *
  have C1 := Lib.hid c1
  have E1 := Lib.hid e1
  have HT2 : Hid (∀ W, Below X.heap.size X W → Two W g o kn ln) := fun W hb => (ht.keep HB.out).keep hb
  have HK := Lib.hid (And.intro hk (And.intro h1 hl))
  clear c0 c1 c2 e0 e1 ht hk h1 hl
  refine (wpIn_wide (n := 0)).1 ?_
  refine region_det (by kernel_rfl) (I := fun listed a' w' => Hid (Below X.heap.size X w') ∧ a' = ⟨#[Value.agg #[.int .i64 2, .slice (some ⟨g, o, none⟩) 2 sc, .int .i64 hosts], Value.pointer (some ⟨w.heap.size, 0, none⟩), (if listed.getD 7 false = true then Value.int IntKind.i64 ((ln : Int) * ww) else Value.int IntKind.i64 (0)), undef, undef, Value.pointer (some ⟨w.heap.size, 0, none⟩), Value.int IntKind.i64 (2), Value.bool false, Value.bool false, undef, undef, undef, undef, undef, undef, undef, undef, undef, undef, undef, undef, undef, undef, undef, Value.bool true, Value.bool true, (if listed.getD 0 false = true then Value.pointer (some ⟨w.heap.size, 1, none⟩) else undef), (if listed.getD 1 false = true then Value.slice (some ⟨g, o, none⟩) 2 sc else undef), (if listed.getD 2 false = true then Value.pointer (some ⟨g, (o + 1), none⟩) else undef), (if listed.getD 3 false = true then Value.int IntKind.i64 ((ln : Int)) else undef), (if listed.getD 4 false = true then Value.agg #[.int .i64 2, .slice (some ⟨g, o, none⟩) 2 sc, .int .i64 hosts] else undef), (if listed.getD 5 false = true then Value.int IntKind.i64 (ww) else undef), (if listed.getD 6 false = true then Value.int IntKind.i64 ((ln : Int) * ww) else undef), undef, undef, undef, undef, undef, undef, undef], []⟩) (hup_check (by kernel_rfl)) ?h0 ?step ?fin
  case h0 => exact ⟨(Below.refl _ _).drew, rfl⟩
  case step =>
    intro listed a' w' i hs hbi hdep hi ⟨IB, ha⟩
    obtain ⟨ls⟩ := listed
    match ls, hs with
    | [x0, x1, x2, x3, x4, x5, x6, x7], _ =>
    subst ha
    have hi' : i = 0 ∨ i = 1 ∨ i = 2 ∨ i = 3 ∨ i = 4 ∨ i = 5 ∨ i = 6 ∨ i = 7 := by simp at hi; omega
    rcases hi' with rfl | rfl | rfl | rfl | rfl | rfl | rfl | rfl
    · obtain rfl : x0 = false := by simpa using hbi
      refine wpOpIn_plain (v := Value.pointer (some ⟨w.heap.size, 1, none⟩)) (w' := w') rfl rfl (by simp [Oper.semAt, execOp, go_sem]) ?_
      exact ⟨IB, rfl⟩
    · obtain rfl : x1 = false := by simpa using hbi
      obtain rfl : x0 = true := hdep _ rfl ⟨0, .data⟩ (by simp) rfl
      have c1 := kcell IB.out C1.out
      refine wpOpIn_plain (v := Value.slice (some ⟨g, o, none⟩) 2 sc) (w' := w') rfl rfl (by simp [Oper.semAt, execOp, go_sem, c1]) ?_
      exact ⟨IB, rfl⟩
    · obtain rfl : x2 = false := by simpa using hbi
      obtain rfl : x1 = true := hdep _ rfl ⟨1, .data⟩ (by simp) rfl
      refine wpOpIn_plain (v := Value.pointer (some ⟨g, (o + 1), none⟩)) (w' := w') rfl rfl (by simp [Oper.semAt, execOp, go_sem]) ?_
      exact ⟨IB, rfl⟩
    · obtain rfl : x3 = false := by simpa using hbi
      obtain rfl : x2 = true := hdep _ rfl ⟨2, .data⟩ (by simp) rfl
      have e1 := kcell IB.out E1.out
      refine wpOpIn_plain (v := Value.int IntKind.i64 ((ln : Int))) (w' := w') rfl rfl (by simp [Oper.semAt, execOp, go_sem, e1]) ?_
      exact ⟨IB, rfl⟩
    · obtain rfl : x4 = false := by simpa using hbi
      refine wpOpIn_load_row rfl rfl 34 _ rfl w.heap.size rfl 34 _ _ _ (heapB IB.out Q0.out) Tryz.underlying34 rfl info30 ?_
      exact ⟨IB, rfl⟩
    · obtain rfl : x5 = false := by simpa using hbi
      obtain rfl : x4 = true := hdep _ rfl ⟨4, .data⟩ (by simp) rfl
      refine wpOpIn_call (args := #[Value.agg #[.int .i64 2, .slice (some ⟨g, o, none⟩) 2 sc, .int .i64 hosts]]) rfl rfl (sem_call1 rfl rfl (enters_of Tryz.func95 (by kernel_rfl) rfl)) (HWW.out ▸ rWords_any kn ln HK.out.1 HK.out.2.1 HK.out.2.2 (HT2.out _ IB.out) sc 2 hosts) ?_
      rintro e V ⟨rfl, hb⟩
      exact ⟨_, rfl, (IB.out.trans (hb.mono IB.out.size)), rfl⟩
    · obtain rfl : x6 = false := by simpa using hbi
      obtain rfl : x3 = true := hdep _ rfl ⟨3, .data⟩ (by simp) rfl
      obtain rfl : x5 = true := hdep _ rfl ⟨5, .data⟩ (by simp) rfl
      refine wpOpIn_plain (v := Value.int IntKind.i64 ((ln : Int) * ww)) (w' := w') rfl rfl (by simp [Oper.semAt, execOp, go_sem, hw9]) ?_
      exact ⟨IB, rfl⟩
    · obtain rfl : x7 = false := by simpa using hbi
      obtain rfl : x6 = true := hdep _ rfl ⟨6, .data⟩ (by simp) rfl
      refine wpOpIn_plain rfl rfl rfl ?_
      exact ⟨IB, rfl⟩
  case fin =>
  intro listed a' Z hs hall ⟨IB, ha⟩
  obtain ⟨ls⟩ := listed
  match ls, hs with
  | [x0, x1, x2, x3, x4, x5, x6, x7], _ =>
  obtain rfl : x0 = true := hall 0 (by simp)
  obtain rfl : x1 = true := hall 1 (by simp)
  obtain rfl : x2 = true := hall 2 (by simp)
  obtain rfl : x3 = true := hall 3 (by simp)
  obtain rfl : x4 = true := hall 4 (by simp)
  obtain rfl : x5 = true := hall 5 (by simp)
  obtain rfl : x6 = true := hall 6 (by simp)
  obtain rfl : x7 = true := hall 7 (by simp)
  subst ha
  have HZ : Hid (Below X.heap.size X Z) := IB
  clear IB hall hs
  dsimp only [Exit.then, Exit.inBlock]
  go_wp2_with fail
  go_ret
  exact ⟨rfl, HB.out.trans (HZ.out.mono HB.out.size)⟩
theorem rSw3_any {w : World} {g o : Nat} (a b : Int) (h1 : 1 ≤ a) (h2 : a ≤ 16) (h3 : 1 ≤ b) (h4 : b ≤ 4) (ht : Two w g o a b) (sc : Nat) (hosts : Int) :
    Calls Tryz.prog 51 #[.agg #[.int .i64 3, .slice (some ⟨g, o, none⟩) 2 sc, .int .i64 hosts]] w fun e w' => e = .returned (.int .i64 (a * (a * b + 1))) ∧ Below w.heap.size w w' := by
  have HB := Lib.hid ((Below.refl w.heap.size w).alloc (Nat.le_refl _) (.cells #[.int .i64 3, .slice (some ⟨g, o, none⟩) 2 sc, .int .i64 hosts] 34))
  have Q0 := Lib.hid (heap_alloc_new w (.cells #[.int .i64 3, .slice (some ⟨g, o, none⟩) 2 sc, .int .i64 hosts] 34))
  have c0 := cellR 0 Q0.out rfl
  have c1 := cellR 1 Q0.out rfl
  have c2 := cellR 2 Q0.out rfl
  obtain ⟨e0, e1⟩ := ht.keep HB.out
  go_enter Tryz.func51, Tryz.ntmps51
  go_wp2_with fail
  generalize w.alloc (.cells #[.int .i64 3, .slice (some ⟨g, o, none⟩) 2 sc, .int .i64 hosts] 34) = X at *
  have C1 := Lib.hid c1
  have E1 := Lib.hid e0
  have HT2 : Hid (∀ W, Below X.heap.size X W → Two W g o a b) := fun W hb => (ht.keep HB.out).keep hb
  have HK := Lib.hid (And.intro h1 (And.intro h2 (And.intro h3 h4)))
  have hw9 : IntKind.i64.wrap (a * (a * b + 1)) = a * (a * b + 1) := by
    rw [IntKind.wrap_i64]
    obtain ⟨b1, b2, b3, b4⟩ := drag_bound h1 h2 h3 h4
    generalize a * (a * b + 1) = z at *; omega
  clear c0 c1 c2 e0 e1 ht h1 h2 h3 h4
  refine (wpIn_wide (n := 0)).1 ?_
  refine region_det (by kernel_rfl) (I := fun listed a' w' => Hid (Below X.heap.size X w') ∧ a' = ⟨#[Value.agg #[.int .i64 3, .slice (some ⟨g, o, none⟩) 2 sc, .int .i64 hosts], Value.pointer (some ⟨w.heap.size, 0, none⟩), (if listed.getD 7 false = true then Value.int IntKind.i64 (a * (a * b + 1)) else Value.int IntKind.i64 (0)), undef, undef, Value.pointer (some ⟨w.heap.size, 0, none⟩), Value.int IntKind.i64 (3), Value.bool false, Value.bool false, undef, undef, undef, undef, undef, undef, undef, undef, undef, undef, undef, undef, undef, undef, undef, Value.bool false, Value.bool false, undef, undef, undef, undef, undef, undef, undef, (if listed.getD 0 false = true then Value.pointer (some ⟨w.heap.size, 1, none⟩) else undef), (if listed.getD 1 false = true then Value.slice (some ⟨g, o, none⟩) 2 sc else undef), (if listed.getD 2 false = true then Value.pointer (some ⟨g, o, none⟩) else undef), (if listed.getD 3 false = true then Value.int IntKind.i64 (a) else undef), (if listed.getD 4 false = true then Value.agg #[.int .i64 3, .slice (some ⟨g, o, none⟩) 2 sc, .int .i64 hosts] else undef), (if listed.getD 5 false = true then Value.int IntKind.i64 (a * b + 1) else undef), (if listed.getD 6 false = true then Value.int IntKind.i64 (a * (a * b + 1)) else undef)], []⟩) (hup_check (by kernel_rfl)) ?h0 ?step ?fin
  case h0 => exact ⟨(Below.refl _ _).drew, rfl⟩
  case step =>
    intro listed a' w' i hs hbi hdep hi ⟨IB, ha⟩
    obtain ⟨ls⟩ := listed
    match ls, hs with
    | [x0, x1, x2, x3, x4, x5, x6, x7], _ =>
    subst ha
    have hi' : i = 0 ∨ i = 1 ∨ i = 2 ∨ i = 3 ∨ i = 4 ∨ i = 5 ∨ i = 6 ∨ i = 7 := by simp at hi; omega
    rcases hi' with rfl | rfl | rfl | rfl | rfl | rfl | rfl | rfl
    · obtain rfl : x0 = false := by simpa using hbi
      refine wpOpIn_plain (v := Value.pointer (some ⟨w.heap.size, 1, none⟩)) (w' := w') rfl rfl (by simp [Oper.semAt, execOp, go_sem]) ?_
      exact ⟨IB, rfl⟩
    · obtain rfl : x1 = false := by simpa using hbi
      obtain rfl : x0 = true := hdep _ rfl ⟨0, .data⟩ (by simp) rfl
      have c1 := kcell IB.out C1.out
      refine wpOpIn_plain (v := Value.slice (some ⟨g, o, none⟩) 2 sc) (w' := w') rfl rfl (by simp [Oper.semAt, execOp, go_sem, c1]) ?_
      exact ⟨IB, rfl⟩
    · obtain rfl : x2 = false := by simpa using hbi
      obtain rfl : x1 = true := hdep _ rfl ⟨1, .data⟩ (by simp) rfl
      refine wpOpIn_plain (v := Value.pointer (some ⟨g, o, none⟩)) (w' := w') rfl rfl (by simp [Oper.semAt, execOp, go_sem]) ?_
      exact ⟨IB, rfl⟩
    · obtain rfl : x3 = false := by simpa using hbi
      obtain rfl : x2 = true := hdep _ rfl ⟨2, .data⟩ (by simp) rfl
      have e1 := kcell IB.out E1.out
      refine wpOpIn_plain (v := Value.int IntKind.i64 (a)) (w' := w') rfl rfl (by simp [Oper.semAt, execOp, go_sem, e1]) ?_
      exact ⟨IB, rfl⟩
    · obtain rfl : x4 = false := by simpa using hbi
      refine wpOpIn_load_row rfl rfl 34 _ rfl w.heap.size rfl 34 _ _ _ (heapB IB.out Q0.out) Tryz.underlying34 rfl info30 ?_
      exact ⟨IB, rfl⟩
    · obtain rfl : x5 = false := by simpa using hbi
      obtain rfl : x4 = true := hdep _ rfl ⟨4, .data⟩ (by simp) rfl
      refine wpOpIn_call (args := #[Value.agg #[.int .i64 3, .slice (some ⟨g, o, none⟩) 2 sc, .int .i64 hosts]]) rfl rfl (sem_call1 rfl rfl (enters_of Tryz.func65 (by kernel_rfl) rfl)) (rGroups_any a b HK.out.1 HK.out.2.1 HK.out.2.2.1 HK.out.2.2.2 (HT2.out _ IB.out) sc 3 hosts) ?_
      rintro e V ⟨rfl, hb⟩
      exact ⟨_, rfl, (IB.out.trans (hb.mono IB.out.size)), rfl⟩
    · obtain rfl : x6 = false := by simpa using hbi
      obtain rfl : x3 = true := hdep _ rfl ⟨3, .data⟩ (by simp) rfl
      obtain rfl : x5 = true := hdep _ rfl ⟨5, .data⟩ (by simp) rfl
      refine wpOpIn_plain (v := Value.int IntKind.i64 (a * (a * b + 1))) (w' := w') rfl rfl (by simp [Oper.semAt, execOp, go_sem, hw9]) ?_
      exact ⟨IB, rfl⟩
    · obtain rfl : x7 = false := by simpa using hbi
      obtain rfl : x6 = true := hdep _ rfl ⟨6, .data⟩ (by simp) rfl
      refine wpOpIn_plain rfl rfl rfl ?_
      exact ⟨IB, rfl⟩
  case fin =>
  intro listed a' Z hs hall ⟨IB, ha⟩
  obtain ⟨ls⟩ := listed
  match ls, hs with
  | [x0, x1, x2, x3, x4, x5, x6, x7], _ =>
  obtain rfl : x0 = true := hall 0 (by simp)
  obtain rfl : x1 = true := hall 1 (by simp)
  obtain rfl : x2 = true := hall 2 (by simp)
  obtain rfl : x3 = true := hall 3 (by simp)
  obtain rfl : x4 = true := hall 4 (by simp)
  obtain rfl : x5 = true := hall 5 (by simp)
  obtain rfl : x6 = true := hall 6 (by simp)
  obtain rfl : x7 = true := hall 7 (by simp)
  subst ha
  have HZ : Hid (Below X.heap.size X Z) := IB
  clear IB hall hs
  dsimp only [Exit.then, Exit.inBlock]
  go_wp2_with fail
  go_ret
  exact ⟨rfl, HB.out.trans (HZ.out.mono HB.out.size)⟩
end Go.Proofs.YtbhkenphcahifaaGreat
namespace Go.Proofs.YtbhkenphcahifaaGreat
open Go.RowKit Go.Shelf
attribute [local go_sem] Oper.semAt_some
set_option maxRecDepth 100000
set_option maxHeartbeats 4000000
theorem rSw1_any {w : World} {sa : Option Addr} {l : List Int} (h : Ints w sa l) (sc : Nat) (hosts : Int) (ht : tOk l hosts) :
    Calls Tryz.prog 51 #[.agg #[.int .i64 1, .slice sa l.length sc, .int .i64 hosts]] w fun e w' => e = .returned (.int .i64 (prodI l)) ∧ Below w.heap.size w w' := by
  have hlen := h.len
  have HL := Lib.hid h
  have hl4 : l.length ≤ 4 := by have := ht.1.2; omega
  have HP := Lib.hid ht.2.2.1
  obtain ⟨N, hN⟩ : ∃ N, N = l.length := ⟨_, rfl⟩
  have HN := Lib.hid hN
  rw [← hN] at hlen hl4 ⊢
  have HN4 := Lib.hid hl4
  have HB := Lib.hid ((Below.refl w.heap.size w).alloc (Nat.le_refl _) (.cells #[.int .i64 1, .slice sa N sc, .int .i64 hosts] 34))
  have Q0 := Lib.hid (heap_alloc_new w (.cells #[.int .i64 1, .slice sa N sc, .int .i64 hosts] 34))
  have c0 := cellR 0 Q0.out rfl
  have c1 := cellR 1 Q0.out rfl
  have c2 := cellR 2 Q0.out rfl
  clear h hN ht Q0 hl4
  obtain ⟨R, hR⟩ : ∃ R, R = prodI l := ⟨_, rfl⟩
  have HR := Lib.hid hR
  rw [← hR]
  clear hR
  go_enter Tryz.func51, Tryz.ntmps51
  go_wp2_with fail
  generalize w.alloc (.cells #[.int .i64 1, .slice sa N sc, .int .i64 hosts] 34) = X at *
  go_loop [3, 4] (fun p i => ∃ (k : Nat) (q : Int), k ≤ N ∧ i = .int .i64 k ∧ p = .int .i64 q ∧ Hid (q = prodI (l.take k)) ∧ 1 ≤ q ∧ Hid (q ≤ 16 ^ k)) (fun _ i => N - (intOf i).toNat)
  case atStart => exact ⟨0, 1, Nat.zero_le _, rfl, rfl, rfl, by decide, by show (1 : Int) ≤ 16 ^ 0; decide⟩
  case round =>
    obtain ⟨k, q, hk, rfl, rfl, HQ, hq1, HQ2⟩ := hrel
    by_cases hlt : k < N
    · have hk1 : k < l.length := by rw [← HN.out]; exact hlt
      obtain ⟨g, o, rfl, hc⟩ := (HL.out.keep HB.out).at_ (ne_nil_of_lt hk1)
      have e0 := hc k hk1
      have HPS : Hid (prodI (l.take (k + 1)) = prodI (l.take k) * l[k]) := by
        show _ = _
        rw [List.take_succ_eq_append_getElem hk1, prodI_snoc]
      have hx := HP.out l[k] (List.getElem_mem hk1)
      generalize l[k] = x at *
      clear hc hk1
      obtain ⟨hm1, hm2⟩ := mul_bound hq1 HQ2.out hx.1 hx.2
      have hl5 := lim16 (show k + 1 ≤ 4 by have := HN4.out; omega)
      rw [Int.pow_succ] at hl5
      have hw : wrap64 (q * x) = q * x := by
        generalize q * x = z at *
        generalize (16 : Int) ^ k * 16 = y at *
        unfold wrap64
        omega
      have HQ3 : Hid (q * x = prodI (l.take (k + 1))) := by show _ = _; rw [HPS.out, ← HQ.out]
      have HQ4 : Hid (q * x ≤ 16 ^ (k + 1)) := by show _ ≤ _; rw [Int.pow_succ]; exact hm2
      clear hx hm2 hl5 HPS HQ HQ2
      go_wp2_with fail
      go_round
      case rel => exact ⟨k + 1, q * x, by omega, by go_num, by rw [hw], HQ3, hm1, HQ4⟩
      case measure => simp [intOf]; omega
    · have hkN : k = N := by omega
      have hqp : Hid (q = R) := by show _ = _; rw [HQ.out, hkN, HN.out, List.take_length, HR.out]
      clear HQ HQ2 HP
      go_wp2_with fail
      go_ret
      exact ⟨by rw [← hqp.out]; rfl, HB.out⟩
theorem rSwitches_any {w : World} {sa : Option Addr} {l : List Int} (h : Ints w sa l) (sc : Nat) (kind hosts : Int) (hv : vOk kind l hosts) :
    Calls Tryz.prog 51 #[.agg #[.int .i64 kind, .slice sa l.length sc, .int .i64 hosts]] w fun e w' => e = .returned (.int .i64 (swI kind l)) ∧ Below w.heap.size w w' := by
  rcases hv with ⟨rfl, ht⟩ | ⟨rfl, hr⟩ | ⟨rfl, hd⟩
  · exact rSw1_any h sc hosts ht
  · obtain ⟨h0, h1, h2, h3, h4⟩ := hr
    obtain ⟨a, b, rfl⟩ := two_of h0
    obtain ⟨g, o, rfl, ht⟩ := h.two
    simp only [List.getD_cons_zero, List.getD_cons_succ] at h1 h2
    obtain ⟨kn, rfl⟩ := Int.eq_ofNat_of_zero_le (show 0 ≤ a by omega)
    obtain ⟨ln, rfl⟩ := Int.eq_ofNat_of_zero_le (show 0 ≤ b by omega)
    exact rSw2_any kn ln (by omega) (by omega) (by omega) ht sc hosts
  · obtain ⟨h0, h1, h2, h3, h4⟩ := hd
    obtain ⟨a, b, rfl⟩ := two_of h0
    obtain ⟨g, o, rfl, ht⟩ := h.two
    simp only [List.getD_cons_zero, List.getD_cons_succ] at h2 h3
    exact rSw3_any a b h2.1 h2.2 h3.1 h3.2 ht sc hosts
theorem rWords_v {w : World} {sa : Option Addr} {l : List Int} (h : Ints w sa l) (sc : Nat) (kind hosts : Int) (hv : rOk l hosts) :
    Calls Tryz.prog 95 #[.agg #[.int .i64 kind, .slice sa l.length sc, .int .i64 hosts]] w fun e w' => e = .returned (.int .i64 (wordsI l)) ∧ Below w.heap.size w w' := by
  obtain ⟨h0, h1, h2, h3, h4⟩ := hv
  obtain ⟨a, b, rfl⟩ := two_of h0
  obtain ⟨g, o, rfl, ht⟩ := h.two
  simp only [List.getD_cons_zero, List.getD_cons_succ] at h1 h2
  obtain ⟨kn, rfl⟩ := Int.eq_ofNat_of_zero_le (show 0 ≤ a by omega)
  obtain ⟨ln, rfl⟩ := Int.eq_ofNat_of_zero_le (show 0 ≤ b by omega)
  exact rWords_any kn ln (by omega) (by omega) (by omega) ht sc kind hosts
theorem rHomes_any {w : World} {sa : Option Addr} {l : List Int} (h : Ints w sa l) (sc : Nat) (kind hosts : Int) (hv : vOk kind l hosts) :
    Calls Tryz.prog 60 #[.agg #[.int .i64 kind, .slice sa l.length sc, .int .i64 hosts]] w fun e w' => e = .returned (.int .i64 (hoI kind l)) ∧ Below w.heap.size w w' := by
  have HB := Lib.hid ((Below.refl w.heap.size w).alloc (Nat.le_refl _) (.cells #[.int .i64 kind, .slice sa l.length sc, .int .i64 hosts] 34))
  have Q0 := Lib.hid (heap_alloc_new w (.cells #[.int .i64 kind, .slice sa l.length sc, .int .i64 hosts] 34))
  have c0 := cellR 0 Q0.out rfl
  have c1 := cellR 1 Q0.out rfl
  have c2 := cellR 2 Q0.out rfl
  by_cases h2 : kind = 2
  · subst h2
    have hr : rOk l hosts := by rcases hv with ⟨h1, _⟩ | ⟨_, h1⟩ | ⟨h1, _⟩ <;> first | exact h1 | cases h1
    have HC := Lib.hid (fun W (hb : Below w.heap.size w W) => rWords_v (h.keep hb) sc 2 hosts hr)
    have HO : Hid (hoI 2 l = wordsI l) := rfl
    rw [HO.out]
    generalize wordsI l = V at *
    have hlen := h.len
    clear h hv hr HO Q0
    generalize l.length = N at *
    go_enter Tryz.func60, Tryz.ntmps60
    go_wp2_with fail
    generalize w.alloc (.cells #[.int .i64 2, .slice sa N sc, .int .i64 hosts] 34) = X at *
    refine (HC.out _ HB.out).mono ?_
    rintro e w1 ⟨rfl, hb1⟩
    clear HC c0 c1 c2
    go_wp2_with fail
    go_ret
    exact ⟨rfl, HB.out.trans (hb1.mono HB.out.size)⟩
  · have HC := Lib.hid (fun W (hb : Below w.heap.size w W) => rSwitches_any (h.keep hb) sc kind hosts hv)
    have HO : Hid (hoI kind l = swI kind l) := by show _ = _; unfold hoI; rw [if_neg h2]
    rw [HO.out]
    generalize swI kind l = V at *
    have hb2 : (kind == 2) = false := by rw [beq_eq_false_iff_ne]; exact h2
    have hlen := h.len
    clear h hv h2 HO Q0
    generalize l.length = N at *
    go_enter Tryz.func60, Tryz.ntmps60
    go_wp2_with fail
    generalize w.alloc (.cells #[.int .i64 kind, .slice sa N sc, .int .i64 hosts] 34) = X at *
    refine (HC.out _ HB.out).mono ?_
    rintro e w1 ⟨rfl, hb1⟩
    clear HC c0 c1 c2
    go_wp2_with fail
    go_ret
    exact ⟨rfl, HB.out.trans (hb1.mono HB.out.size)⟩
theorem rSize_any {w : World} {sa : Option Addr} {l : List Int} (h : Ints w sa l) (sc : Nat) (kind hosts : Int) :
    Calls Tryz.prog 40 #[.agg #[.int .i64 kind, .slice sa l.length sc, .int .i64 hosts]] w fun e w' => e = .returned (.tuple #[.int .i64 (szI kind l hosts), .int .i64 (hsI kind l hosts), .int .i64 (errI kind l hosts)]) ∧ Below w.heap.size w w' := by
  have HB := Lib.hid ((Below.refl w.heap.size w).alloc (Nat.le_refl _) (.cells #[.int .i64 kind, .slice sa l.length sc, .int .i64 hosts] 34))
  have Q0 := Lib.hid (heap_alloc_new w (.cells #[.int .i64 kind, .slice sa l.length sc, .int .i64 hosts] 34))
  have c0 := cellR 0 Q0.out rfl
  have c1 := cellR 1 Q0.out rfl
  have c2 := cellR 2 Q0.out rfl
  have HK := Lib.hid (fun W (hb : Below w.heap.size w W) => rCheck_any (h.keep hb) sc kind hosts)
  by_cases hv : vOk kind l hosts
  case neg =>
    rw [show errI kind l hosts = 2 by unfold errI; rw [if_neg hv]] at HK ⊢
    rw [show szI kind l hosts = 0 by unfold szI; rw [if_neg hv], show hsI kind l hosts = 0 by unfold hsI; rw [if_neg hv]]
    have hlen := h.len
    clear h hv Q0
    generalize l.length = N at *
    go_enter Tryz.func40, Tryz.ntmps40
    go_wp2_with fail
    generalize w.alloc (.cells #[.int .i64 kind, .slice sa N sc, .int .i64 hosts] 34) = X at *
    refine (HK.out _ HB.out).mono ?_
    rintro e w1 ⟨rfl, hb1⟩
    clear HK c0 c1 c2
    go_wp2_with fail
    go_ret3
    exact ⟨rfl, HB.out.trans (hb1.mono HB.out.size)⟩
  rw [show errI kind l hosts = 0 by unfold errI; rw [if_pos hv]] at HK ⊢
  rw [show szI kind l hosts = swI kind l by unfold szI; rw [if_pos hv], show hsI kind l hosts = hoI kind l * hosts by unfold hsI; rw [if_pos hv]]
  have HSW := Lib.hid (fun W (hb : Below w.heap.size w W) => rSwitches_any (h.keep hb) sc kind hosts hv)
  have HHO := Lib.hid (fun W (hb : Below w.heap.size w W) => rHomes_any (h.keep hb) sc kind hosts hv)
  have hw9 : IntKind.i64.wrap (hoI kind l * hosts) = hoI kind l * hosts := by
    rw [IntKind.wrap_i64]
    obtain ⟨v1, v2, v3, v4, v5, v6⟩ := v_bound hv
    have m1 := Int.mul_le_mul v2 v6 (by omega) (by decide)
    have m2 := Int.mul_nonneg (show 0 ≤ hoI kind l by omega) (show 0 ≤ hosts by omega)
    generalize hoI kind l * hosts = z at *; omega
  generalize swI kind l = SV at *
  generalize hoI kind l = HV at *
  have hlen := h.len
  clear h hv
  generalize l.length = N at *
  go_enter Tryz.func40, Tryz.ntmps40
  go_wp2_with fail
  generalize w.alloc (.cells #[.int .i64 kind, .slice sa N sc, .int .i64 hosts] 34) = X at *
  refine (HK.out _ HB.out).mono ?_
  rintro e w1 ⟨rfl, hb1⟩
  have HB1 := Lib.hid (HB.out.trans (hb1.mono HB.out.size))
  have C2 := Lib.hid (kcell hb1 c2)
  have Q1 := Lib.hid (heapB hb1 Q0.out)
  clear HK c0 c1 c2 HB Q0 hb1
  go_wp2_with fail
  refine (wpIn_wide (n := 0)).1 ?_
  refine region_det (by kernel_rfl) (I := fun listed a' w' => Hid (Below w1.heap.size w1 w') ∧ a' = ⟨#[Value.agg #[.int .i64 kind, .slice sa N sc, .int .i64 hosts], Value.pointer (some ⟨w.heap.size, 0, none⟩), (if listed.getD 7 false = true then Value.int IntKind.i64 (SV) else Value.int IntKind.i64 (0)), (if listed.getD 8 false = true then Value.int IntKind.i64 (HV * hosts) else Value.int IntKind.i64 (0)), (if listed.getD 9 false = true then Value.int IntKind.i64 (0) else Value.int IntKind.i64 (0)), Value.int IntKind.i64 (0), Value.agg #[.int .i64 kind, .slice sa N sc, .int .i64 hosts], Value.int IntKind.i64 (0), Value.int IntKind.i64 (0), Value.bool false, undef, (if listed.getD 0 false = true then Value.agg #[.int .i64 kind, .slice sa N sc, .int .i64 hosts] else undef), (if listed.getD 1 false = true then Value.int IntKind.i64 (SV) else undef), (if listed.getD 2 false = true then Value.agg #[.int .i64 kind, .slice sa N sc, .int .i64 hosts] else undef), (if listed.getD 3 false = true then Value.int IntKind.i64 (HV) else undef), (if listed.getD 4 false = true then Value.pointer (some ⟨w.heap.size, 2, none⟩) else undef), (if listed.getD 5 false = true then Value.int IntKind.i64 (hosts) else undef), (if listed.getD 6 false = true then Value.int IntKind.i64 (HV * hosts) else undef)], []⟩) (hup_check (by kernel_rfl)) ?h0 ?step ?fin
  case h0 => exact ⟨(Below.refl _ _).drew, rfl⟩
  case step =>
    intro listed a' w' i hs hbi hdep hi ⟨IB, ha⟩
    obtain ⟨ls⟩ := listed
    match ls, hs with
    | [x0, x1, x2, x3, x4, x5, x6, x7, x8, x9], _ =>
    subst ha
    have hi' : i = 0 ∨ i = 1 ∨ i = 2 ∨ i = 3 ∨ i = 4 ∨ i = 5 ∨ i = 6 ∨ i = 7 ∨ i = 8 ∨ i = 9 := by simp at hi; omega
    rcases hi' with rfl | rfl | rfl | rfl | rfl | rfl | rfl | rfl | rfl | rfl
    · obtain rfl : x0 = false := by simpa using hbi
      refine wpOpIn_load_row rfl rfl 34 _ rfl w.heap.size rfl 34 _ _ _ (heapB IB.out Q1.out) Tryz.underlying34 rfl info30 ?_
      exact ⟨IB, rfl⟩
    · obtain rfl : x1 = false := by simpa using hbi
      obtain rfl : x0 = true := hdep _ rfl ⟨0, .data⟩ (by simp) rfl
      refine wpOpIn_call (args := #[Value.agg #[.int .i64 kind, .slice sa N sc, .int .i64 hosts]]) rfl rfl (sem_call1 rfl rfl (enters_of Tryz.func51 (by kernel_rfl) rfl)) (HSW.out w' (HB1.out.trans (IB.out.mono HB1.out.size))) ?_
      rintro e V ⟨rfl, hb⟩
      exact ⟨_, rfl, (IB.out.trans (hb.mono IB.out.size)), rfl⟩
    · obtain rfl : x2 = false := by simpa using hbi
      refine wpOpIn_load_row rfl rfl 34 _ rfl w.heap.size rfl 34 _ _ _ (heapB IB.out Q1.out) Tryz.underlying34 rfl info30 ?_
      exact ⟨IB, rfl⟩
    · obtain rfl : x3 = false := by simpa using hbi
      obtain rfl : x2 = true := hdep _ rfl ⟨2, .data⟩ (by simp) rfl
      refine wpOpIn_call (args := #[Value.agg #[.int .i64 kind, .slice sa N sc, .int .i64 hosts]]) rfl rfl (sem_call1 rfl rfl (enters_of Tryz.func60 (by kernel_rfl) rfl)) (HHO.out w' (HB1.out.trans (IB.out.mono HB1.out.size))) ?_
      rintro e V ⟨rfl, hb⟩
      exact ⟨_, rfl, (IB.out.trans (hb.mono IB.out.size)), rfl⟩
    · obtain rfl : x4 = false := by simpa using hbi
      refine wpOpIn_plain (v := Value.pointer (some ⟨w.heap.size, 2, none⟩)) (w' := w') rfl rfl (by simp [Oper.semAt, execOp, go_sem]) ?_
      exact ⟨IB, rfl⟩
    · obtain rfl : x5 = false := by simpa using hbi
      obtain rfl : x4 = true := hdep _ rfl ⟨4, .data⟩ (by simp) rfl
      have c2 := kcell IB.out C2.out
      refine wpOpIn_plain (v := Value.int IntKind.i64 (hosts)) (w' := w') rfl rfl (by simp [Oper.semAt, execOp, go_sem, c2]) ?_
      exact ⟨IB, rfl⟩
    · obtain rfl : x6 = false := by simpa using hbi
      obtain rfl : x3 = true := hdep _ rfl ⟨3, .data⟩ (by simp) rfl
      obtain rfl : x5 = true := hdep _ rfl ⟨5, .data⟩ (by simp) rfl
      refine wpOpIn_plain (v := Value.int IntKind.i64 (HV * hosts)) (w' := w') rfl rfl (by simp [Oper.semAt, execOp, go_sem, hw9]) ?_
      exact ⟨IB, rfl⟩
    · obtain rfl : x7 = false := by simpa using hbi
      obtain rfl : x1 = true := hdep _ rfl ⟨1, .data⟩ (by simp) rfl
      refine wpOpIn_plain rfl rfl rfl ?_
      exact ⟨IB, rfl⟩
    · obtain rfl : x8 = false := by simpa using hbi
      obtain rfl : x6 = true := hdep _ rfl ⟨6, .data⟩ (by simp) rfl
      refine wpOpIn_plain rfl rfl rfl ?_
      exact ⟨IB, rfl⟩
    · obtain rfl : x9 = false := by simpa using hbi
      refine wpOpIn_plain rfl rfl rfl ?_
      exact ⟨IB, rfl⟩
  case fin =>
  intro listed a' Z hs hall ⟨IB, ha⟩
  obtain ⟨ls⟩ := listed
  match ls, hs with
  | [x0, x1, x2, x3, x4, x5, x6, x7, x8, x9], _ =>
  obtain rfl : x0 = true := hall 0 (by simp)
  obtain rfl : x1 = true := hall 1 (by simp)
  obtain rfl : x2 = true := hall 2 (by simp)
  obtain rfl : x3 = true := hall 3 (by simp)
  obtain rfl : x4 = true := hall 4 (by simp)
  obtain rfl : x5 = true := hall 5 (by simp)
  obtain rfl : x6 = true := hall 6 (by simp)
  obtain rfl : x7 = true := hall 7 (by simp)
  obtain rfl : x8 = true := hall 8 (by simp)
  obtain rfl : x9 = true := hall 9 (by simp)
  subst ha
  have HZ : Hid (Below w1.heap.size w1 Z) := IB
  clear IB hall hs
  dsimp only [Exit.then, Exit.inBlock]
  go_wp2_with fail
  go_ret3
  exact ⟨rfl, HB1.out.trans (HZ.out.mono HB1.out.size)⟩
end Go.Proofs.YtbhkenphcahifaaGreat
