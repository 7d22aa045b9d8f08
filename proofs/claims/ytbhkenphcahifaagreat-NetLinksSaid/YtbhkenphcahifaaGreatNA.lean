import Derived.Test.YtbhkenphcahifaaGreatProg
import Derived.WalkKit
import Derived.WalkSpells
import Derived.LoopTactic
import Derived.Lib.Hide
import Derived.BigQuiet
import Derived.Deep.QuietTactic
import Derived.Shelf.Abstract
import Derived.Lib.AppendZeros
import Derived.Laws.AppendOwnNone
import Derived.RangeFuncNested
import Derived.RangeFuncBound
import Derived.RangeFuncCalls
import Derived.RangeFuncLeaves
import Derived.RangeFuncOne
import Derived.Shelf.RegionOpen
import Derived.OwnWalkIn
import Derived.TacticsInMore
import Derived.LoopNIn
import Derived.LoopIn
namespace Go.Proofs.YtbhkenphcahifaaGreat
open Go.RowKit Go.Shelf
attribute [local go_sem] Oper.semAt_some

theorem bcell {W w1 : World} (hb : Below W.heap.size W w1) : (∀ b o, b < W.heap.size → w1.cell? ⟨b, o, none⟩ = W.cell? ⟨b, o, none⟩) ∧ (∀ b o, b < W.heap.size → w1.frozen? ⟨b, o, none⟩ = W.frozen? ⟨b, o, none⟩) :=
  ⟨fun b o h => hb.cell (p := ⟨b, o, none⟩) h, fun b o h => hb.frozen (p := ⟨b, o, none⟩) h⟩

theorem below_setRow {B b : Nat} {w : World} (h : B ≤ b) (c : Array Value) : Below B w (w.setRow b c) :=
  ⟨rfl, rfl, rfl, by simp, fun k hk => Go.setRow_other w b k c (by omega)⟩

/-- a slice of integers -/
structure Ints (w : World) (a : Option Addr) (l : List Int) : Prop where
  len : l.length ≤ 17592186044416
  at_ : l ≠ [] → ∃ b off, a = some ⟨b, off, none⟩ ∧ ∀ j (h : j < l.length), w.cell? ⟨b, off + j, none⟩ = some (.int .i64 l[j])

theorem Ints.keep {w w' : World} {a : Option Addr} {l : List Int} (h : Ints w a l) (hb : Below w.heap.size w w') : Ints w' a l :=
  ⟨h.len, fun hl => by
    obtain ⟨b, off, ha, hc⟩ := h.at_ hl
    exact ⟨b, off, ha, fun j hj => (hb.cell (p := ⟨b, off + j, none⟩) (block_lt_of_cell (hc j hj))).trans (hc j hj)⟩⟩

theorem ne_nil_of_lt {α} {l : List α} {k : Nat} (h : k < l.length) : l ≠ [] := fun e => by simp [e] at h
theorem drop_end {α} {l : List α} {k : Nat} (h : ¬ k < l.length) : l.drop k = [] := List.drop_eq_nil_of_le (by omega)

theorem Tryz.info3 : (Tryz.prog.info? 3).map (fun i => (i.zero, i.size, i.bytes)) = some (some (.int .i64 0), 1, 8) := by kernel_rfl

/-- a slice of integers in memory of the call's own, from block B on -/
structure NewInts (B : Nat) (w : World) (v : Value) (l : List Int) : Prop where
  own : w.ownsRow B 3 1 v l.length (l.map (Value.int .i64))
  len : l.length ≤ 17592186044416

theorem NewInts.ints {B : Nat} {w : World} {v : Value} {l : List Int} (h : NewInts B w v l) : ∃ a cap, v = .slice a l.length cap ∧ Ints w a l := by
  obtain ⟨h1, h2⟩ := h.own
  rcases h2 with ⟨rfl, hn⟩ | ⟨g, cap, cur, rfl, hB, hg, hc, hm, hs, ht⟩
  · exact ⟨none, 0, by rw [hn], h.len, fun hl => absurd (List.length_eq_zero_iff.1 hn) hl⟩
  · refine ⟨_, cap, rfl, h.len, fun _ => ⟨g, 0, rfl, fun j hj => ?_⟩⟩
    rw [cell_of_row w g _ cur _ _ hg]
    have : (l.map (Value.int .i64))[j]? = some (.int .i64 l[j]) := by simp [hj]
    rw [← ht] at this
    rw [List.getElem?_take] at this
    split at this
    · simpa using this
    · cases this

theorem grow_below {B : Nat} {w wr w1 : World} {v : Value} {n : Nat} {xs : List Value} (hb : Below B w wr) (hown : wr.ownsRow B 3 1 v n xs) (hg : wr.grownBy w1 v.ownBlock) (hB : B ≤ wr.heap.size) : Below B w w1 :=
  hb.grown hg hB fun k hk => (hown.lt k hk).1

theorem Ints.nth {W : World} {b : Nat} {o : Nat} {l : List Int} (h : Ints W (some ⟨b, o, none⟩) l) : ∀ j u, (l.map (Value.int .i64))[j]? = some u → W.cell? ((⟨b, o, none⟩ : Addr).add j) = some u := fun j u hj => by
  rw [Addr.add_lit]
  have hjl : j < l.length := by have := (List.getElem?_eq_some_iff.1 hj).1; simpa using this
  obtain ⟨b', o', e, hc⟩ := h.at_ (ne_nil_of_lt hjl)
  cases e
  rw [hc j hjl]
  simpa [hjl] using hj

theorem Ints.news {W : World} {x : Addr} {l : List Int} (h : Ints W (some x) l) : ∀ j u, (l.map (Value.int .i64))[j]? = some u → W.cell? (x.add j) = some u := fun j u hj => by
  have hjl : j < l.length := by have := (List.getElem?_eq_some_iff.1 hj).1; simpa using this
  obtain ⟨b', o', e, hc⟩ := h.at_ (ne_nil_of_lt hjl)
  cases e
  rw [Addr.add_lit, hc j hjl]
  simpa [hjl] using hj

/-- the elements of a slice behind those of an own one -/
theorem append_ints {W : World} {base : Nat} {v : Value} {n : Nat} {xs : List Value} (hown : W.ownsRow base 3 1 v n xs) {a : Option Addr} {l : List Int} (h : Ints W a l) (cap : Nat) (hcap : a = none → cap = 0) (hn : n + l.length ≤ 17592186044416) (hbase : base ≤ W.heap.size) :
    ∃ v' w', (Builtin.append_ #[22, 22] 22 #[v, .slice a l.length cap]).run Tryz.prog W = .ok v' w' ∧ w'.ownsRow base 3 1 v' (n + l.length) (xs ++ l.map (Value.int .i64)) ∧ W.grownBy w' v.ownBlock := by
  obtain ⟨i0, hi, hz0, hz1, hz2⟩ := info_parts Tryz.info3
  cases a with
  | none =>
    have hl : l = [] := by
      by_cases hl : l = []
      · exact hl
      · obtain ⟨b, o, e, _⟩ := h.at_ hl; cases e
    subst hl
    obtain rfl := hcap rfl
    exact ⟨v, W, run_append_owned_none W base 22 22 3 i0 1 Tryz.underlying22 hi v n xs hown, by simpa using hown, ⟨rfl, rfl, rfl, Nat.le_refl _, fun _ _ _ => rfl⟩⟩
  | some x =>
    obtain ⟨v', w', h1, h2, h3, _⟩ := run_append_own (P := Tryz.prog) (w := W) base 22 22 3 i0 (.int .i64 0) 1 8 Tryz.underlying22 hi hz0 hz1 hz2 rfl (by decide) v n xs hown x l.length cap (l.map (Value.int .i64)) (by simp) h.news
      (by intro u hu; obtain ⟨y, _, rfl⟩ := List.mem_map.1 hu; rfl) (by unfold maxLen; omega) (by omega) hbase
    exact ⟨v', w', h1, h2, h3⟩

/-- the cells of a row of integers -/
@[irreducible] def rowA (l : List Int) : Array Value := (l.map (Value.int .i64)).toArray
@[simp] theorem rowA_size (l : List Int) : (rowA l).size = l.length := by unfold rowA; simp
theorem rowA_at (l : List Int) (j : Nat) (h : j < l.length) : (rowA l)[j]? = some (.int .i64 l[j]) := by unfold rowA; simp [h]

/-- block b is a row of integers that may be written -/
def RowAt (w : World) (b : Nat) (l : List Int) : Prop := w.heap[b]? = some (.cells (rowA l) 3 (0, 0))
theorem RowAt.lt {w : World} {b : Nat} {l : List Int} (h : RowAt w b l) : b < w.heap.size := (Array.getElem?_eq_some_iff.1 h).1
theorem RowAt.cell {w : World} {b : Nat} {l : List Int} (h : RowAt w b l) (j : Nat) (hj : j < l.length) : w.cell? ⟨b, j, none⟩ = some (.int .i64 l[j]) := by
  rw [cell_of_row w b j _ _ _ h]; exact rowA_at l j hj
theorem RowAt.open_ {w : World} {b : Nat} {l : List Int} (h : RowAt w b l) (j : Nat) : w.frozen? ⟨b, j, none⟩ = false := frozen_of_row w b j _ _ h
theorem RowAt.ints {w : World} {b : Nat} {l : List Int} (h : RowAt w b l) (hl : l.length ≤ 17592186044416) : Ints w (some ⟨b, 0, none⟩) l :=
  ⟨hl, fun _ => ⟨b, 0, rfl, fun j hj => by rw [Nat.zero_add]; exact h.cell j hj⟩⟩
theorem RowAt.set {w : World} {b : Nat} {l : List Int} (h : RowAt w b l) (x : Nat) (v : Int) : RowAt (w.setCell ⟨b, x, none⟩ (.int .i64 v)) b (l.set x v) := by
  unfold RowAt
  rw [heap_setCell_same w b x _ 3 _ h]
  congr 2
  unfold rowA
  apply Array.ext'
  simp [List.map_set]
theorem RowAt.keep {w w' : World} {b : Nat} {l : List Int} (h : RowAt w b l) (hb : Below w.heap.size w w') : RowAt w' b l := by
  unfold RowAt; rw [hb.block b h.lt]; exact h
theorem RowAt.alloc {w : World} {b : Nat} {l : List Int} (h : RowAt w b l) (o : Obj) : RowAt (w.alloc o) b l := (Below.heap_alloc _ _ _ h.lt).trans h
theorem RowAt.set_other {w : World} {b : Nat} {l : List Int} (h : RowAt w b l) (b' x : Nat) (v : Value) (hb : b ≠ b') : RowAt (w.setCell ⟨b', x, none⟩ v) b l := by
  unfold RowAt; rw [heap_setCell_other _ _ _ _ hb]; exact h
theorem RowAt.own {w : World} {b B : Nat} {l : List Int} (h : RowAt w b l) (hB : B ≤ b) (hl : l.length ≤ 17592186044416) : NewInts B w (.slice (some ⟨b, 0, none⟩) l.length l.length) l :=
  ⟨⟨by simp, .inr ⟨b, l.length, rowA l, rfl, hB, h, Nat.le_refl _, by unfold maxLen; omega, by simp, by unfold rowA; simp [List.take_of_length_le]⟩⟩, hl⟩

set_option maxRecDepth 100000 in
theorem make_ints (n : Nat) (hn : n ≤ 17592186044416) (w : World) : (Instr.makeSlice 22 (.int .i64 n) (.int .i64 n)).run Tryz.prog w = .ok (.slice (some ⟨w.heap.size, 0, none⟩) n n) (w.alloc (.cells (rowA (List.replicate n 0)) 3)) := by
  obtain ⟨i0, hi, hz0, hz1, hz2⟩ := info_parts Tryz.info3
  have := run_make (P := Tryz.prog) w 22 3 i0 (.int .i64 0) Tryz.underlying22 hi hz0 .i64 .i64 n n (by omega) (Int.le_refl _) (by rw [hz2]; omega) (by omega)
  rw [this, hz1]
  simp only [Int.toNat_natCast, Nat.mul_one]
  congr 3
  unfold rowA madeCells
  apply Array.ext
  · simp
  · intro i h1 h2
    simp [Value.cells, Nat.mod_one]

/-- whatever is cells, but the blocks of ex, is as it was -/
structure KeepP (ex : Nat → Prop) (w w' : World) : Prop where
  os : w'.os = w.os
  tape : w'.tape = w.tape
  output : w'.output = w.output
  size : w.heap.size ≤ w'.heap.size
  block : ∀ (k : Nat) (o : Obj), w.heap[k]? = some o → o.isCells = true → ¬ ex k → w'.heap[k]? = some o

theorem KeepP.refl (ex : Nat → Prop) (w : World) : KeepP ex w w := ⟨rfl, rfl, rfl, Nat.le_refl _, fun _ _ h _ _ => h⟩
theorem KeepP.trans {ex : Nat → Prop} {a b c : World} (h : KeepP ex a b) (k : KeepP ex b c) : KeepP ex a c :=
  ⟨k.os.trans h.os, k.tape.trans h.tape, k.output.trans h.output, Nat.le_trans h.size k.size, fun i o hi ho he => k.block i o (h.block i o hi ho he) ho he⟩
theorem KeepP.of_below {ex : Nat → Prop} {w w' : World} (h : Below w.heap.size w w') : KeepP ex w w' := ⟨h.os, h.tape, h.output, h.size, fun k _ hk _ _ => (h.block k (Array.getElem?_eq_some_iff.1 hk).1).trans hk⟩
theorem KeepP.cell {ex : Nat → Prop} {w w' : World} (h : KeepP ex w w') {p : Addr} {v : Value} (hc : w.cell? p = some v) (he : ¬ ex p.block) : w'.cell? p = some v := by
  obtain ⟨o, ho, hoc⟩ := cells_of_cell hc
  rw [← hc]
  exact World.cell?_of_block (w := w) ((h.block _ o ho hoc he).trans ho.symm)
theorem KeepP.setCell {ex : Nat → Prop} {a w : World} (h : KeepP ex a w) (b o : Nat) (hb : ex b) (v : Value) : KeepP ex a (w.setCell ⟨b, o, none⟩ v) :=
  h.trans ⟨rfl, rfl, rfl, by simp [World.setCell], fun k o' hk _ he => (Below.heap_setCell _ _ _ _ (fun e => he (by rw [e]; exact hb))).trans hk⟩
theorem KeepP.drew {ex : Nat → Prop} {a w : World} (h : KeepP ex a w) : KeepP ex a w.drew := ⟨h.os, h.tape, h.output, h.size, h.block⟩
theorem KeepP.putObj {ex : Nat → Prop} (W : World) (l : Nat) (o o' : Obj) (hl : W.heap[l]? = some o) (ho : o.isCells = false) : KeepP ex W (W.putObj l o') :=
  ⟨rfl, rfl, rfl, by simp [World.putObj], fun k o2 hk h2 _ => (World.putObj_heap_other (fun e => by subst e; rw [hl] at hk; cases hk; rw [ho] at h2; cases h2)).trans hk⟩

/-- a function that yields the indexes and elements of a list from its end, whatever is written to the blocks ex between two rounds -/
def BIter (l : List Int) (lb : Array Value) (ex : Nat → Prop) (w : World) : Prop :=
  (∀ args w, (callFunc 159 args).run Tryz.prog w = .ok (.enter 159 args) w) ∧
  ∀ n, SeqStopsK (α := Fin l.length) Fence.wide n Tryz.prog 159 lb (fun i => #[.int .i64 (i.1 : Int), .int .i64 (l.getD i.1 0)]) (KeepP ex) (fun xs => xs.map (·.1) = (List.range l.length).reverse) (fun pre => pre.map (·.1) <+: (List.range l.length).reverse) l.length w

theorem rev_range_succ {n m : Nat} (h : m < n) : ((List.range n).drop m).reverse = ((List.range n).drop (m + 1)).reverse ++ [m] := by
  rw [List.drop_eq_getElem_cons (by simpa using h)]
  simp

set_option maxRecDepth 100000 in
set_option maxHeartbeats 4000000 in
theorem backIter {w : World} (bb : Nat) (ex : Nat → Prop) (hbx : ¬ ex bb) (a : Option Addr) (l : List Int) (cap : Nat) (h : Ints w a l) (hax : ∀ g off, a = some ⟨g, off, none⟩ → l ≠ [] → ¬ ex g) (hc : w.cell? ⟨bb, 0, none⟩ = some (.slice a l.length cap)) : BIter l #[.pointer (some ⟨bb, 0, none⟩)] ex w := by
  have hlen := h.len
  refine ⟨enters_of Tryz.func159 (by kernel_rfl) rfl, fun n ll J Jx W hW hJ hJx hY h0 => ?_⟩
  refine callsIn_of_wp Tryz.func159 rfl trivial ?_ rfl
  simp only [Tryz.ntmps159, List.size_toArray, List.length_cons, List.length_nil, Nat.reduceAdd, Nat.reduceSub, Array.replicate_succ, Array.replicate_zero, List.push_toArray, List.append_toArray, List.nil_append, List.cons_append]
  have hW' : KeepP ex w W := KeepP.of_below hW
  have hc' := hW'.cell hc hbx
  have HY := Lib.hid hY
  have HX := Lib.hid hax
  clear hY hc hax
  gi_wp2
  gi_loopw [3] (fun i wr => ∃ (m : Nat) (q : Int) (pre : List (Fin l.length)), m ≤ l.length ∧ -1 ≤ q ∧ q ≤ 17592186044416 ∧ Hid (q = (m : Int) - 1) ∧ i = .int .i64 q ∧ Hid (pre.map (·.1) = ((List.range l.length).drop m).reverse) ∧ J pre wr ∧ KeepP ex W wr ∧ W.heap.size ≤ wr.heap.size)
    (fun i _ => (intOf i + 1).toNat)
  case atStart => exact ⟨l.length, _, [], Nat.le_refl _, by omega, by omega, rfl, rfl, by simp [Hid], h0, KeepP.refl _ _, Nat.le_refl _⟩
  case round =>
    obtain ⟨m, q, pre, hm, hq1, hq2, HQ, rfl, HP, hJ1, hb1, hWz⟩ := hrel
    have c1 := hb1.cell hc' hbx
    cases m with
    | zero =>
      have hq0 : q < 0 := by have := HQ.out; omega
      have HP2 : Hid (pre.map (·.1) = (List.range l.length).reverse) := by show _ = _; rw [HP.out]; simp
      gi_wp2
      go_end0
      exact ⟨⟨_, rfl⟩, .inl ⟨pre, HP2.out, hJ1⟩⟩
    | succ m =>
      have hqm : q = (m : Int) := by have := HQ.out; omega
      subst hqm
      have hlt : m < l.length := by omega
      obtain ⟨g, off, rfl, hcs⟩ := h.at_ (ne_nil_of_lt hlt)
      have c0 := hcs m hlt
      have d0 := (hb1.cell (hW'.cell c0 (HX.out g off rfl (ne_nil_of_lt hlt))) (HX.out g off rfl (ne_nil_of_lt hlt)))
      have hpl : pre.length < l.length := by have := congrArg List.length HP.out; simp at this; omega
      obtain ⟨fn, tmps, assign, body, hy, hR⟩ := HY.out pre ⟨m, hlt⟩ wr hJ1 hpl
      dsimp only at hy
      rw [show l.getD m 0 = l[m] by simp [List.getD, hlt]] at hy
      have HP2 : Hid ((pre ++ [(⟨m, hlt⟩ : Fin l.length)]).map (·.1) = ((List.range l.length).drop m).reverse) := by
        show _ = _; rw [List.map_append, HP.out, rev_range_succ hlt]; rfl
      clear hcs c0 hpl
      gi_wp2
      refine ⟨fun h => (by cases h), ?_⟩
      refine hR.mono ?_
      rintro e W2 (⟨rfl, hJ4, hk4⟩ | ⟨rfl, hJ4⟩)
      · have hsz := hk4.size
        gi_wp2
        go_roundw
        case rel => exact ⟨m, (m : Int) - 1, pre ++ [⟨m, hlt⟩], by omega, by omega, by omega, rfl, by go_num, HP2, hJ4, hb1.trans hk4, by omega⟩
        case measure => simp [intOf]
      · gi_wp2
        refine bodyPost_ret (results_none rfl _ _ _) rfl ?_
        refine ⟨⟨_, rfl⟩, .inr ⟨_, ?_, hJ4⟩⟩
        rw [HP2.out]
        have := List.take_append_drop m (List.range l.length)
        have h2 := congrArg List.reverse this
        rw [List.reverse_append] at h2
        rw [← h2]
        exact List.prefix_append _ _
theorem mod_eq (a n : Int) (h1 : 1 ≤ n) : (a.tmod n + n).tmod n = a % n := by
  have hb : -n < a.tmod n ∧ a.tmod n < n := by
    refine ⟨?_, Int.tmod_lt_of_pos a (by omega)⟩
    have := Int.tmod_lt_of_pos (-a) (show 0 < n by omega)
    rw [Int.neg_tmod] at this
    omega
  rw [Int.tmod_eq_emod_of_nonneg (by omega), Int.add_emod_right]
  have h : a.tmod n = a - n * a.tdiv n := by have := Int.mul_tdiv_add_tmod a n; omega
  rw [h]
  exact Int.sub_mul_emod_self_left a n _

set_option maxHeartbeats 400000 in
theorem modulo_any (a n : Int) (h1 : 1 ≤ n) (h2 : n ≤ 1000) (w : World) :
    Calls Tryz.prog 146 #[.int .i64 a, .int .i64 n] w fun e w' => e = .returned (.int .i64 (a % n)) ∧ w = w' := by
  have hb : -n < a.tmod n ∧ a.tmod n < n := by
    refine ⟨?_, Int.tmod_lt_of_pos a (by omega)⟩
    have := Int.tmod_lt_of_pos (-a) (show 0 < n by omega)
    rw [Int.neg_tmod] at this
    omega
  have hn0 : n ≠ 0 := by omega
  have hw : wrap64 (a.tmod n + n) = a.tmod n + n := by unfold wrap64; omega
  have hm : (a.tmod n + n).tmod n = a % n := mod_eq a n h1
  go_enter Tryz.func146, Tryz.ntmps146
  go_wp2
  go_ret
  exact ⟨rfl, rfl⟩


end Go.Proofs.YtbhkenphcahifaaGreat
