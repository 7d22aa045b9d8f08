import Derived.Test.YtbhkenphcahifaaGreatQSB
import Derived.Test.YtbhkenphcahifaaGreatProg
import Derived.WalkKit
import Derived.WalkSpells
import Derived.LoopTactic
import Derived.Lib.Hide
import Derived.BigQuiet
import Derived.Deep.QuietTactic
import Derived.Shelf.Abstract
import Derived.Lib.AppendZeros
import Derived.Laws.AppendOwnNone
import Derived.RangeFuncNested
import Derived.RangeFuncBound
import Derived.RangeFuncCalls
import Derived.RangeFuncLeaves
import Derived.RangeFuncOne
import Derived.Shelf.RegionOpen
import Derived.OwnWalkIn
import Derived.TacticsInMore
import Derived.LoopNIn
import Derived.LoopIn
import Derived.Test.YtbhkenphcahifaaGreatRows
import Derived.ProofKit
import Derived.OpenShut
import Derived.Carry
import Derived.SizedLaws
import Derived.OrdersIn
import Derived.Laws.Rows
import Derived.Laws.Tables
import Derived.Deep.AppendLies
import Derived.Laws.StructEq
import Derived.ChangeKeysEq
import Derived.Shelf.Small.Bits
import Derived.Shelf.Small.Wraps
import Derived.Shelf.Strconv.Itoa0
import Derived.Shelf.Sort.Plain
import Derived.Shelf.Bits.Mul64
import Derived.Ground.Names2Prog
import Derived.Shelf.Slices.CompactI
import Derived.Shelf.Slices.SearchI
import Derived.Shelf.Slices.Cells
import Derived.Shelf.Slices.In.SortNone
import Derived.Lib.OwnBridge
import Derived.Sort.OwnSortedInts
import Derived.BigRegion
import Init
import Derived.Deep.Grids
namespace Go.Proofs.YtbhkenphcahifaaGreat
open Go.RowKit Go.Shelf
attribute [local go_sem] Oper.semAt_some
set_option maxRecDepth 100000
set_option maxHeartbeats 4000000
/-- the sides of a torus lie in memory -/
def LowL (g off : Nat) (l : List Int) (W : World) : Prop := ∀ j (hj : j < l.length), W.cell? ⟨g, off + j, none⟩ = some (.int .i64 l[j])
theorem LowL.below {g off : Nat} {l : List Int} {W W' : World} {B : Nat} (h : LowL g off l W) (hg : g < B) (hb : Below B W W') : LowL g off l W' := fun j hj => (hb.cell (p := ⟨g, off + j, none⟩) hg).trans (h j hj)
theorem LowL.ints {g off : Nat} {l : List Int} {W : World} (h : LowL g off l W) (hl : l.length ≤ 1000) : Ints W (some ⟨g, off, none⟩) l := ⟨by omega, fun _ => ⟨g, off, rfl, h⟩⟩
/-- what the iterator holds between two steps -/
def TS (n0 o ga ge g off : Nat) (cs : List (Nat × Obj)) (l cy c : List Int) (W : World) : Prop := Cap n0 o cs W ∧ Cap n0 o [(ge, .cells (rowA cy) 3 (0, 0))] W ∧ LowL g off l W ∧ RowAt W ga c ∧ Fq n0 o ga W
theorem TS.below {J : World → Prop} {n0 o ga ge g off : Nat} {cs : List (Nat × Obj)} {l cy c : List Int} {W W' : World} (h : TS n0 o ga ge g off cs l cy c W) (P : Priv J (Fq n0 o)) (hJ : J W) (hb : Below W.heap.size W W') : TS n0 o ga ge g off cs l cy c W' :=
  ⟨h.1.below P hJ hb, h.2.1.below P hJ hb, fun j hj => kcell hb (h.2.2.1 j hj), h.2.2.2.1.keep hb, P.grow _ _ _ hJ h.2.2.2.2 hb⟩
theorem TS.kq {n0 o ga ge g off : Nat} {cs : List (Nat × Obj)} {l cy c : List Int} {W W' : World} (h : TS n0 o ga ge g off cs l cy c W) (hg : g < n0) (k : Kq n0 o W W') : TS n0 o ga ge g off cs l cy c W' :=
  ⟨h.1.kq k, h.2.1.kq k, h.2.2.1.below hg k.1, ((k.2 _ h.2.2.2.2).1).trans h.2.2.2.1, (k.2 _ h.2.2.2.2).2⟩
theorem TS.store {J : World → Prop} {n0 o ga ge g off : Nat} {cs : List (Nat × Obj)} {l cy c : List Int} {W : World} (h : TS n0 o ga ge g off cs l cy c W) (P : Priv J (Fq n0 o)) (hJ : J W) (h1 : ∀ p ∈ cs, p.1 ≠ ga) (h2 : ge ≠ ga) (h3 : g ≠ ga) (i : Nat) (v : Int) : TS n0 o ga ge g off cs l cy (c.set i v) (W.setCell ⟨ga, i, none⟩ (.int .i64 v)) :=
  ⟨h.1.store P hJ h.2.2.2.2 h1, h.2.1.store P hJ h.2.2.2.2 (fun p hp => by simp at hp; subst hp; exact h2), fun j hj => by
    rw [← h.2.2.1 j hj]
    exact World.cell?_of_block (w := W) (heap_setCell_other _ _ _ _ h3), h.2.2.2.1.set i v, P.store _ _ _ _ _ hJ h.2.2.2.2 h.2.2.2.2⟩
theorem TS.cur {n0 o ga ge g off : Nat} {cs : List (Nat × Obj)} {l cy c : List Int} {W : World} (h : TS n0 o ga ge g off cs l cy c W) (i : Nat) (hi : i < c.length) : W.cell? ⟨ga, i, none⟩ = some (.int .i64 (c.getD i 0)) := by
  rw [h.2.2.2.1.cell i hi]; simp [List.getD, hi]
theorem TS.fin {n0 o ga ge g off : Nat} {cs : List (Nat × Obj)} {l cy c : List Int} {W : World} (h : TS n0 o ga ge g off cs l cy c W) (i : Nat) (hi : i < cy.length) : W.cell? ⟨ge, i, none⟩ = some (.int .i64 (cy.getD i 0)) := by
  have hr : RowAt W ge cy := h.2.1.m0
  rw [hr.cell i hi]; simp [List.getD, hi]
theorem TS.low {n0 o ga ge g off : Nat} {cs : List (Nat × Obj)} {l cy c : List Int} {W : World} (h : TS n0 o ga ge g off cs l cy c W) (i : Nat) (hi : i < l.length) : W.cell? ⟨g, off + i, none⟩ = some (.int .i64 (l.getD i 0)) := by
  rw [h.2.2.1 i hi]; simp [List.getD, hi]
theorem info105' : (Tryz.prog.info? 138).map (·.size) = some 2 := info105
theorem torusIter (n0 o Bs Bx By g off sc : Nat) (l : List Int) (mm x y : Int) (hg : g < n0) (hl1 : 1 ≤ l.length) (hl4 : l.length ≤ 4) (hb : ∀ i, i < l.length → 2 ≤ l.getD i 0 ∧ l.getD i 0 ≤ 16) (hx : 0 ≤ x) (hx2 : x ≤ 1000) (hy : 0 ≤ y) (hy2 : y ≤ 1000) {w : World}
    (q0 : w.heap[Bs]? = some (.cells #[.slice (some ⟨g, off, none⟩) l.length sc, .int .i64 mm] 138 (0, 0))) (q1 : w.heap[Bx]? = some (.cells #[.int .i64 x] 3 (0, 0))) (q2 : w.heap[By]? = some (.cells #[.int .i64 y] 3 (0, 0))) (hlow : LowL g off l w) (n : Nat) :
    SeqW n 151 #[.pointer (some ⟨Bs, 0, none⟩), .pointer (some ⟨Bx, 0, none⟩), .pointer (some ⟨By, 0, none⟩)] encP (Kq n0 o) (Fq n0 o) (fun b => b = Bs ∨ b = Bx ∨ b = By) (torusL l x y) w := by
  intro ll J W hW hnd hP hY h0
  obtain ⟨N, hN⟩ : ∃ N, N = l.length := ⟨_, rfl⟩
  have HN := Lib.hid hN
  rw [← hN] at q0 hl1 hl4
  have HC : Hid (Cap n0 o [(Bs, .cells #[.slice (some ⟨g, off, none⟩) N sc, .int .i64 mm] 138 (0, 0)), (Bx, .cells #[.int .i64 x] 3 (0, 0)), (By, .cells #[.int .i64 y] 3 (0, 0))] W) := by
    intro p hp
    simp only [List.mem_cons, List.not_mem_nil, or_false] at hp
    rcases hp with rfl | rfl | rfl
    · exact ⟨hnd _ (.inl rfl), heapB hW q0⟩
    · exact ⟨hnd _ (.inr (.inl rfl)), heapB hW q1⟩
    · exact ⟨hnd _ (.inr (.inr rfl)), heapB hW q2⟩
  have hgw : g < w.heap.size := block_lt_of_cell (hlow 0 (by omega))
  have HLW := Lib.hid (hlow.below hgw hW)
  have hsW := hW.size
  have hBlt : Bs < W.heap.size ∧ Bx < W.heap.size ∧ By < W.heap.size := ⟨(Array.getElem?_eq_some_iff.1 HC.out.m0).1, (Array.getElem?_eq_some_iff.1 HC.out.m1).1, (Array.getElem?_eq_some_iff.1 HC.out.m2).1⟩
  have HBL := Lib.hid hBlt
  have HGN := Lib.hid hg
  have HGW : Hid (g < W.heap.size) := Nat.lt_of_lt_of_le hgw hsW
  have HBB := Lib.hid hb
  have HY := Lib.hid hY
  have HP := Lib.hid hP
  have hgW : g < W.heap.size := by omega
  have hpos : ∀ s ∈ l, 1 ≤ s ∧ s ≤ 64 := fun s hs => by
    obtain ⟨j, hj, rfl⟩ := List.getElem_of_mem hs
    have := hb j hj
    rw [show l.getD j 0 = l[j] by simp [List.getD, hj]] at this
    omega
  have HPX := Lib.hid (fun W' (hw : Below W.heap.size W W') => coords_any ((HLW.out.below hgW hw).ints (by omega)) hpos sc mm x hx hx2)
  have HPY := Lib.hid (fun W' (hw : Below W.heap.size W W') => coords_any ((HLW.out.below hgW hw).ints (by omega)) hpos sc mm y hy hy2)
  rw [← hN] at HPX HPY
  have HIX := Lib.hid (coords_in hb x)
  have HIY := Lib.hid (coords_in hb y)
  have HDL : Hid (torusL l x y = dimK l (coordsL l y) N (coordsL l x)) := by show _ = _; rw [hN]; rfl
  generalize torusL l x y = DL at *
  generalize coordsL l x = cx at *
  generalize coordsL l y = cy at *
  clear hY hnd hW q0 q1 q2 hP hb hlow hN hg hBlt hgw hsW hgW hpos
  have hl1' := Lib.hid hl1
  have hl4' := Lib.hid hl4
  refine callsIn_of_wp Tryz.func151 rfl trivial ?_ rfl
  simp only [Tryz.ntmps151, List.size_toArray, List.length_cons, List.length_nil, Nat.reduceAdd, Nat.reduceSub, Array.replicate_succ, Array.replicate_zero, List.push_toArray, List.append_toArray, List.nil_append, List.cons_append]
  gi_wp2
  refine region_det (by kernel_rfl) (I := fun listed a' w' => ∃ ga ge : Nat, Hid (Below W.heap.size W w') ∧ Hid (listed.getD 2 false = true → W.heap.size ≤ ga ∧ RowAt w' ga cx) ∧ Hid (listed.getD 5 false = true → W.heap.size ≤ ge ∧ RowAt w' ge cy ∧ ga ≠ ge) ∧ Hid (listed.getD 5 false = true → listed.getD 2 false = true) ∧ Hid (listed.getD 6 false = true → listed.getD 2 false = true) ∧ Hid (listed.getD 7 false = true → listed.getD 5 false = true) ∧ a' = ⟨#[Value.func (Fn.yield ll) #[] #[], Value.pointer (some ⟨Bs, 0, none⟩), Value.pointer (some ⟨Bx, 0, none⟩), Value.pointer (some ⟨By, 0, none⟩), undef, (if listed.getD 6 false = true then Value.slice (some ⟨ga, 0, none⟩) N N else undef), (if listed.getD 7 false = true then Value.slice (some ⟨ge, 0, none⟩) N N else undef), undef, undef, undef, undef, (if listed.getD 0 false = true then Value.agg #[.slice (some ⟨g, off, none⟩) N sc, .int .i64 mm] else undef), (if listed.getD 1 false = true then Value.int IntKind.i64 (x) else undef), (if listed.getD 2 false = true then Value.slice (some ⟨ga, 0, none⟩) N N else undef), (if listed.getD 3 false = true then Value.agg #[.slice (some ⟨g, off, none⟩) N sc, .int .i64 mm] else undef), (if listed.getD 4 false = true then Value.int IntKind.i64 (y) else undef), (if listed.getD 5 false = true then Value.slice (some ⟨ge, 0, none⟩) N N else undef), undef, undef, undef, undef, undef, undef, undef, undef, undef, undef, undef, undef, undef, undef, undef, undef, undef, undef, undef, undef, undef, undef, undef, undef, undef, undef, undef, undef, undef, undef, undef, undef, undef, undef, undef, undef, undef, undef, undef, undef, undef, undef, undef, undef, undef, undef, undef, undef, undef, undef, undef, undef, undef, undef, undef, undef, undef, undef, undef, undef, undef, undef, undef], []⟩) (hup_check (by kernel_rfl)) ?h0 ?step ?fin
  case h0 => exact ⟨0, 0, (Below.refl _ _).drew, (fun h => by simp at h), (fun h => by simp at h), (fun h => by simp at h), (fun h => by simp at h), (fun h => by simp at h), rfl⟩
  case step => as_aux_lemma =>
    intro listed a' w' i hs hbi hdep hi ⟨ga, ge, IB, IX, IE, J5, J6, J7, ha⟩
    obtain ⟨ls⟩ := listed
    match ls, hs with
    | [x0, x1, x2, x3, x4, x5, x6, x7], _ =>
    subst ha
    have hi' : i = 0 ∨ i = 1 ∨ i = 2 ∨ i = 3 ∨ i = 4 ∨ i = 5 ∨ i = 6 ∨ i = 7 := by simp at hi; omega
    rcases hi' with rfl | rfl | rfl | rfl | rfl | rfl | rfl | rfl
    · obtain rfl : x0 = false := by simpa using hbi
      refine wpOpIn_load_row rfl rfl 138 _ rfl Bs rfl 138 _ _ _ (heapB IB.out HC.out.m0) Tryz.underlying138 rfl info105' ?_
      exact ⟨ga, ge, IB, IX, IE, J5, J6, J7, rfl⟩
    · obtain rfl : x1 = false := by simpa using hbi
      have c9 := kcell IB.out (cellR 0 HC.out.m1 rfl)
      refine wpOpIn_plain (v := Value.int IntKind.i64 (x)) (w' := w') rfl rfl (by simp [Oper.semAt, execOp, go_sem, c9]) ?_
      exact ⟨ga, ge, IB, IX, IE, J5, J6, J7, rfl⟩
    · obtain rfl : x2 = false := by simpa using hbi
      obtain rfl : x0 = true := hdep _ rfl ⟨0, .data⟩ (by simp) rfl
      obtain rfl : x1 = true := hdep _ rfl ⟨1, .data⟩ (by simp) rfl
      obtain rfl : x5 = false := Bool.eq_false_iff.2 fun h => by have := J5.out h; cases this
      obtain rfl : x6 = false := Bool.eq_false_iff.2 fun h => by have := J6.out h; cases this
      refine wpOpIn_call (args := #[Value.agg #[.slice (some ⟨g, off, none⟩) N sc, .int .i64 mm], Value.int IntKind.i64 (x)]) rfl rfl (sem_call2 rfl rfl rfl (enters_of Tryz.func141 (by kernel_rfl) rfl)) (HPX.out w' IB.out) ?_
      rintro e V ⟨gb, rfl, hgb, hRb, hb⟩
      exact ⟨_, rfl, gb, ge, (IB.out.trans (hb.mono IB.out.size)), (fun _ => ⟨Nat.le_trans IB.out.size hgb, hRb⟩), (fun h => by simp at h), (fun _ => rfl), (fun _ => rfl), J7, rfl⟩
    · obtain rfl : x3 = false := by simpa using hbi
      refine wpOpIn_load_row rfl rfl 138 _ rfl Bs rfl 138 _ _ _ (heapB IB.out HC.out.m0) Tryz.underlying138 rfl info105' ?_
      exact ⟨ga, ge, IB, IX, IE, J5, J6, J7, rfl⟩
    · obtain rfl : x4 = false := by simpa using hbi
      have c9 := kcell IB.out (cellR 0 HC.out.m2 rfl)
      refine wpOpIn_plain (v := Value.int IntKind.i64 (y)) (w' := w') rfl rfl (by simp [Oper.semAt, execOp, go_sem, c9]) ?_
      exact ⟨ga, ge, IB, IX, IE, J5, J6, J7, rfl⟩
    · obtain rfl : x5 = false := by simpa using hbi
      obtain rfl : x3 = true := hdep _ rfl ⟨3, .data⟩ (by simp) rfl
      obtain rfl : x4 = true := hdep _ rfl ⟨4, .data⟩ (by simp) rfl
      obtain rfl : x2 = true := hdep _ rfl ⟨2, .chain⟩ (by simp) rfl
      obtain rfl : x7 = false := Bool.eq_false_iff.2 fun h => by have := J7.out h; cases this
      refine wpOpIn_call (args := #[Value.agg #[.slice (some ⟨g, off, none⟩) N sc, .int .i64 mm], Value.int IntKind.i64 (y)]) rfl rfl (sem_call2 rfl rfl rfl (enters_of Tryz.func141 (by kernel_rfl) rfl)) (HPY.out w' IB.out) ?_
      rintro e V ⟨gb, rfl, hgb, hRb, hb⟩
      exact ⟨_, rfl, ga, gb, (IB.out.trans (hb.mono IB.out.size)), (fun _ => ⟨(IX.out rfl).1, (IX.out rfl).2.keep hb⟩), (fun _ => ⟨Nat.le_trans IB.out.size hgb, hRb, by have := (IX.out rfl).2.lt; omega⟩), (fun _ => rfl), J6, (fun _ => rfl), rfl⟩
    · obtain rfl : x6 = false := by simpa using hbi
      obtain rfl : x2 = true := hdep _ rfl ⟨2, .data⟩ (by simp) rfl
      refine wpOpIn_plain rfl rfl rfl ?_
      exact ⟨ga, ge, IB, IX, IE, J5, (fun _ => rfl), J7, rfl⟩
    · obtain rfl : x7 = false := by simpa using hbi
      obtain rfl : x5 = true := hdep _ rfl ⟨5, .data⟩ (by simp) rfl
      refine wpOpIn_plain rfl rfl rfl ?_
      exact ⟨ga, ge, IB, IX, IE, J5, J6, (fun _ => rfl), rfl⟩
  case fin =>
  intro listed a' Z hs hall ⟨ga, ge, IB, IX, IE, J5, J6, J7, ha⟩
  obtain ⟨ls⟩ := listed
  match ls, hs with
  | [x0, x1, x2, x3, x4, x5, x6, x7], _ =>
  obtain rfl : x0 = true := hall 0 (by simp)
  obtain rfl : x1 = true := hall 1 (by simp)
  obtain rfl : x2 = true := hall 2 (by simp)
  obtain rfl : x3 = true := hall 3 (by simp)
  obtain rfl : x4 = true := hall 4 (by simp)
  obtain rfl : x5 = true := hall 5 (by simp)
  obtain rfl : x6 = true := hall 6 (by simp)
  obtain rfl : x7 = true := hall 7 (by simp)
  subst ha
  have HZ : Hid (Below W.heap.size W Z) := IB
  have HX := Lib.hid (IX.out rfl)
  have HE := Lib.hid (IE.out rfl)
  clear IB IX IE J5 J6 J7 hall hs HPX HPY
  dsimp only [Exit.then, Exit.inBlock]
  have hfa : Fq n0 o ga Z := (HP.out []).new W Z ga h0 HZ.out HX.out.1 ⟨_, HX.out.2, rfl⟩
  have hfe : Fq n0 o ge Z := (HP.out []).new W Z ge h0 HZ.out HE.out.1 ⟨_, HE.out.2.1, rfl⟩
  have HC1 : Cap n0 o [(ge, .cells (rowA cy) 3 (0, 0))] Z := by
    intro p hp
    simp only [List.mem_cons, List.not_mem_nil, or_false] at hp
    subst hp
    exact ⟨hfe, HE.out.2.1⟩
  have HS : Hid (TS n0 o ga ge g off [(Bs, .cells #[.slice (some ⟨g, off, none⟩) N sc, .int .i64 mm] 138 (0, 0)), (Bx, .cells #[.int .i64 x] 3 (0, 0)), (By, .cells #[.int .i64 y] 3 (0, 0))] l cy cx Z) := ⟨HC.out.below (HP.out []) h0 HZ.out, HC1, fun j hj => kcell HZ.out (HLW.out j hj), HX.out.2, hfa⟩
  have h1 := (HP.out []).jgrow _ _ h0 HZ.out
  have HNE : Hid ((∀ p ∈ ([(Bs, .cells #[.slice (some ⟨g, off, none⟩) N sc, .int .i64 mm] 138 (0, 0)), (Bx, .cells #[.int .i64 x] 3 (0, 0)), (By, .cells #[.int .i64 y] 3 (0, 0))] : List (Nat × Obj)), p.1 ≠ ga) ∧ ge ≠ ga ∧ g ≠ ga) := by
    have h5 := HX.out.1
    obtain ⟨h6, h7, h8⟩ := HBL.out
    have h9 := HGW.out
    refine ⟨fun p hp => ?_, fun e => HE.out.2.2 e.symm, by omega⟩
    simp only [List.mem_cons, List.not_mem_nil, or_false] at hp
    rcases hp with rfl | rfl | rfl
    · show Bs ≠ ga; omega
    · show Bx ≠ ga; omega
    · show By ≠ ga; omega
  have HLC : Hid (cx.length = N ∧ cy.length = N) := ⟨by rw [HIX.out.1, HN.out], by rw [HIY.out.1, HN.out]⟩
  clear h0 hfe hfa HX HE HZ HC HC1 HLW
  have c0 := cellR 0 HS.out.1.m0 rfl
  gi_wp2
  clear c0
  gi_loopw [20] (fun a wr => ∃ (i : Nat) (c : List Int) (pre : List (Int × Int)), i ≤ N ∧ a = .int .i64 (i : Int) ∧ Hid (InT l c) ∧ Hid (pre ++ dimK l cy (N - i) c = DL) ∧ J pre wr ∧ Hid (TS n0 o ga ge g off [(Bs, .cells #[.slice (some ⟨g, off, none⟩) N sc, .int .i64 mm] 138 (0, 0)), (Bx, .cells #[.int .i64 x] 3 (0, 0)), (By, .cells #[.int .i64 y] 3 (0, 0))] l cy c wr)) (fun a _ => N - (intOf a).toNat)
  case atStart => exact ⟨0, cx, [], Nat.zero_le _, rfl, HIX, HDL.out.symm, h1, HS⟩
  case round =>
    obtain ⟨i, c, pre, hi, rfl, HIN, HU, hJ, HT⟩ := hrel
    clear h1 HS
    by_cases hlt : i < N
    case neg =>
      have hiN : i = N := by omega
      subst hiN
      have HU2 : Hid (pre = DL) := by show _ = _; rw [← HU.out, Nat.sub_self]; simp [dimK]
      clear HU
      gi_wp2
      go_end0
      exact ⟨⟨_, rfl⟩, by rw [← HU2.out]; exact hJ⟩
    have HIL : Hid (i < l.length) := by rw [Hid, ← HN.out]; exact hlt
    have HIC : Hid (i < c.length) := by rw [Hid, HIN.out.1]; exact HIL.out
    have HIE : Hid (i < cy.length) := by rw [Hid, HLC.out.2]; exact hlt
    obtain ⟨b1, b2⟩ := HBB.out i HIL.out
    obtain ⟨a1, a2⟩ := HIN.out.2 i HIL.out
    obtain ⟨t1, t2⟩ := HIY.out.2 i HIL.out
    have e0 := HT.out.low i HIL.out
    have ca := HT.out.cur i HIC.out
    have ce := HT.out.fin i HIE.out
    have HUS : Hid (dimK l cy (N - i) c = mvK l i (l.getD i 0) (byI (l.getD i 0) (c.getD i 0) (cy.getD i 0)) (cy.getD i 0) (dimK l cy (N - (i + 1))) (l.getD i 0).toNat c 0) := by
      show _ = _
      obtain ⟨r, hr⟩ : ∃ r, N - i = r + 1 := ⟨N - i - 1, by omega⟩
      have hr2 : N - (i + 1) = r := by omega
      rw [hr, hr2, dimK, ← HN.out, show N - (r + 1) = i by omega]
    have HD0 := Lib.hid (dst_in (b := byI (l.getD i 0) (c.getD i 0) (cy.getD i 0)) a1 a2 t1 t2)
    have HBO := Lib.hid (by_or (l.getD i 0) (c.getD i 0) (cy.getD i 0))
    have HBY : Hid (byI (l.getD i 0) (c.getD i 0) (cy.getD i 0) = if l.getD i 0 / 2 < (cy.getD i 0 - c.getD i 0) % l.getD i 0 then -1 else 1) := rfl
    have HM := same_of (fun W => modulo_any (cy.getD i 0 - c.getD i 0) (l.getD i 0) (by omega) (by omega) W)
    have hws : wrap64 (cy.getD i 0 - c.getD i 0) = cy.getD i 0 - c.getD i 0 := by generalize cy.getD i 0 = p at *; generalize c.getD i 0 = q at *; unfold wrap64; omega
    have hwq : wrap64 ((l.getD i 0).tdiv 2) = l.getD i 0 / 2 := by rw [Int.tdiv_eq_ediv_of_nonneg (by omega)]; generalize l.getD i 0 = q at *; unfold wrap64; omega
    generalize hs : l.getD i 0 = s at *
    have HSL := Lib.hid hs
    generalize ht : cy.getD i 0 = t at *
    have HTL := Lib.hid ht
    generalize hci : c.getD i 0 = ci at *
    have HCL := Lib.hid hci
    generalize byI s ci t = b at *
    clear hs ht hci
    gi_wp2
    refine wpIn_wide.2 ?_
    go_quiet (first | (go_at_call 146; refine Calls.quiet_of_same (HM.out _)))
    have hdr := below_drewN (Below.refl wr.heap.size wr) nq
    replace HT := Lib.hid (HT.out.below (HP.out pre) hJ hdr)
    replace hJ := (HP.out pre).jgrow _ _ hJ hdr
    generalize wr.drewN nq = w5 at *
    clear hdr e0 ca ce hws hwq HM
    by_cases hq : s / 2 < (t - ci) % s
    case pos =>
      have hbX : b = (-1) := by rw [HBY.out, if_pos hq]
      have hdq : decide (s / 2 < (t - ci) % s) = true := decide_eq_true hq
      subst hbX
      have HU2 : Hid (pre ++ mvK l i s (-1) t (dimK l cy (N - (i + 1))) s.toNat c 0 = DL) := by show _ = _; rw [← HU.out, HUS.out]
      have HDS : Hid (dstI s (-1) (c.getD i 0) t ≤ s.toNat) := by have := HD0.out; rw [Hid, HCL.out]; omega
      have hi1 : i + 1 ≤ N := by omega
      have HB12 := Lib.hid (And.intro b1 b2)
      have HT12 := Lib.hid (And.intro t1 t2)
      clear HU HUS HBY HD0 HBO HCL a1 a2 b1 b2 t1 t2 hlt hi
      have hq2 := hq
      gi_wp2
      rw [show decide (s / 2 < (t - ci) % s) = true from decide_eq_true hq]
      clear hdq hq hq2
      gi_loopw [10] (fun a wq => ∃ (f : Nat) (c : List Int) (cl : Int) (pre : List (Int × Int)), a = .int .i64 cl ∧ Hid (InT l c) ∧ Hid (dstI s (-1) (c.getD i 0) t ≤ f) ∧ Hid (pre ++ mvK l i s (-1) t (dimK l cy (N - (i + 1))) f c cl = DL) ∧ J pre wq ∧ Hid (TS n0 o ga ge g off [(Bs, .cells #[.slice (some ⟨g, off, none⟩) N sc, .int .i64 mm] 138 (0, 0)), (Bx, .cells #[.int .i64 x] 3 (0, 0)), (By, .cells #[.int .i64 y] 3 (0, 0))] l cy  c wq)) (fun _ wq => (dstI s (-1) (intOf ((wq.cell? ⟨ga, i, none⟩).getD undef)) t).toNat)
      case atStart => exact ⟨s.toNat, c, 0, pre, rfl, HIN, HDS, HU2, hJ, HT⟩
      case round =>
        clear HU2 HDS hJ HT HIN HIC pre c
        obtain ⟨f, c, cl, pre, rfl, HIN, HDF, HU, hJ, HT⟩ := hrel
        have HIC : Hid (i < c.length) := by rw [Hid, HIN.out.1]; exact HIL.out
        obtain ⟨a1, a2⟩ := HIN.out.2 i HIL.out
        rw [HSL.out] at a2
        have ca := HT.out.cur i HIC.out
        have ce := HT.out.fin i HIE.out
        rw [HTL.out] at ce
        have HMS : Hid ((dstI s (-1) (intOf ((wr.cell? ⟨ga, i, none⟩).getD undef)) t).toNat = (dstI s (-1) (c.getD i 0) t).toNat) := by show _ = _; rw [ca]; rfl
        obtain ⟨d1, d2, d3⟩ := dst_in (b := (-1)) a1 a2 HT12.out.1 HT12.out.2
        have HST := Lib.hid (fun hne => dst_step (b := (-1)) (by decide) a1 a2 HT12.out.1 HT12.out.2 hne)
        have HNX := Lib.hid (nx_in (b := (-1)) (by decide) a1 a2)
        have HDF2 := Lib.hid (fun (h : f = 0) (hne : c.getD i 0 ≠ t) => show False by have := HDF.out; have := d3 hne; omega)
        have HDF3 := Lib.hid (show dstI s (-1) (c.getD i 0) t ≤ f from HDF.out)
        have HMP : Hid (c.getD i 0 ≠ t → 1 ≤ dstI s (-1) (c.getD i 0) t) := d3
        have hwv := Lib.hid (wrap_small (c.getD i 0 + (-1)) (by have := HB12.out; omega) (by have := HB12.out; omega))
        have hws := Lib.hid (wrap_small (s - 1) (by have := HB12.out; omega) (by have := HB12.out; omega))
        clear d1 d2 d3 HDF
        generalize hci : c.getD i 0 = ci at *
        have HCI := Lib.hid hci
        clear hci
        by_cases hne : ci = t
        case pos =>
          have hnb : (ci != t) = false := by simp [hne]
          have HU2 : Hid (pre ++ dimK l cy (N - (i + 1)) c = DL) := by
            show _ = _
            rw [← HU.out]
            cases f with
            | zero => rfl
            | succ f => rw [mvK, if_neg (by rw [HCI.out, hne]; simp)]
          have HWI := Lib.hid (wrap_small ((i : Int) + 1) (by omega) (by have := hl4'.out; omega))
          have HMO1 : Hid (N - (intOf (.int .i64 ((i : Int) + 1))).toNat < N - (intOf (.int .i64 (i : Int))).toNat) := by show _ < _; simp [intOf]; omega
          have HCAST0 : Hid (Value.int .i64 ((i : Int) + 1) = .int .i64 ((i + 1 : Nat) : Int)) := by show _ = _; rw [Int.natCast_add]; rfl
          have HCAST : Hid (Value.int .i64 (wrap64 ((i : Int) + 1)) = .int .i64 ((i + 1 : Nat) : Int)) := by show _ = _; rw [HWI.out, Int.natCast_add]; rfl
          have HMO : Hid (N - (intOf (.int .i64 (wrap64 ((i : Int) + 1)))).toNat < N - (intOf (.int .i64 (i : Int))).toNat) := by show _ < _; rw [HWI.out]; exact HMO1.out
          clear HU HST HNX HDF2 HDF3 HMP hwv hws HMS hne
          gi_wp2
          refine wpIn_wide.2 ?_
          go_quiet (fail)
          have hdr := below_drewN (Below.refl wr.heap.size wr) nq
          replace HT := Lib.hid (HT.out.below (HP.out pre) hJ hdr)
          replace hJ := (HP.out pre).jgrow _ _ hJ hdr
          generalize wr.drewN nq = w8 at *
          clear hdr ca ce
          clear HWI
          gi_wp2
          go_roundw
          case rel => exact ⟨i + 1, c, pre, hi1, by first | with_reducible exact HCAST.out | with_reducible exact HCAST0.out, HIN, HU2, hJ, HT⟩
          case measure => first | with_reducible exact HMO.out | with_reducible exact HMO1.out | exact HMO1.out
        case neg =>
          cases f with
          | zero => exact (HDF2.out rfl hne).elim
          | succ f =>
          have hnb : (ci != t) = true := bne_iff_ne.2 hne
          have HST2 := Lib.hid (HST.out hne)
          have HMP2 := Lib.hid (HMP.out hne)
          have HU2 : Hid (pre ++ ((numI l (c.set i (nxI s (ci + (-1)))), clI s (ci + (-1)) cl) :: mvK l i s (-1) t (dimK l cy (N - (i + 1))) f (c.set i (nxI s (ci + (-1)))) (clI s (ci + (-1)) cl)) = DL) := by
            show _ = _
            rw [← HU.out, mvK, HCI.out, if_pos hne]
          clear HU HST HMP HDF2 hne
          gi_wp2
          refine wpIn_wide.2 ?_
          go_quiet (fail)
          have hdr := below_drewN (Below.refl wr.heap.size wr) nq
          replace HT := Lib.hid (HT.out.below (HP.out pre) hJ hdr)
          replace hJ := (HP.out pre).jgrow _ _ hJ hdr
          generalize hw8 : wr.drewN nq = w8 at *
          clear hdr ca ce hw8
          have ca := HT.out.cur i HIC.out
          rw [HCI.out] at ca
          have fa := HT.out.2.2.2.1.open_ i
          have la := HT.out.2.2.2.1.lt
          have hv1 := hwv.out
          have hv2 := hws.out
          gi_wp2
          clear hv1 hv2
          refine ⟨trivial, fun h => (by cases h), callsIn_wide.2 ((within_any (ci + (-1)) 0 (s - 1) _).mono ?_)⟩
          rintro e w9 ⟨rfl, rfl⟩
          have HT9 := Lib.hid (HT.out.store (HP.out pre) hJ HNE.out.1 HNE.out.2.1 HNE.out.2.2 i (ci + (-1)))
          have hJ9 := (HP.out pre).jstore _ ga i (.int .i64 (ci + (-1))) hJ HT.out.2.2.2.2
          clear ca fa la hJ HT
          generalize w8.setCell ⟨ga, i, none⟩ (.int .i64 (ci + (-1))) = w9 at *
          by_cases hin : 0 ≤ ci + (-1) ∧ ci + (-1) ≤ s - 1
          case pos =>
            rw [show decide (0 ≤ ci + (-1) ∧ ci + (-1) ≤ s - 1) = true from decide_eq_true hin]
            have hnx : nxI s (ci + (-1)) = ci + (-1) := if_pos hin
            have hcl : clI s (ci + (-1)) cl = cl := if_pos hin
            rw [hnx, hcl] at HU2
            rw [hnx] at HST2
            have HNX2 : Hid (0 ≤ ci + (-1) ∧ ci + (-1) < s) := by have := HNX.out; rw [hnx] at this; exact this
            clear hnx hcl hin HNX
            have HIN2 : Hid (InT l (c.set i (ci + (-1)))) := HIN.out.set HIL.out HNX2.out.1 (by rw [HSL.out]; exact HNX2.out.2)
            have HU3 : Hid ((pre ++ [(numI l (c.set i (ci + (-1))), cl)]) ++ mvK l i s (-1) t (dimK l cy (N - (i + 1))) f (c.set i (ci + (-1))) (cl) = DL) := by show _ = _; rw [List.append_assoc]; exact HU2.out
            have HGC : Hid ((c.set i (ci + (-1))).getD i 0 = ci + (-1)) := by show _ = _; simp [List.getD, HIC.out]
            have HDF4 : Hid (dstI s (-1) ((c.set i (ci + (-1))).getD i 0) t ≤ f) := by
              show _ ≤ _
              rw [HGC.out, HST2.out]
              have := HDF3.out
              omega
            have HLEN : Hid ((c.set i (ci + (-1))).length = N) := by show _ = _; rw [HIN2.out.1, HN.out]
            have HN9 := Lib.hid (number_any (HT9.out.2.2.1.ints (by rw [← HN.out]; have := hl4'.out; omega)) (HT9.out.2.2.2.1.ints (by rw [HLEN.out]; have := hl4'.out; omega)) (by rw [HLEN.out, HN.out]) (by rw [← HN.out]; exact hl4'.out) HBB.out HIN2.out.2 sc N mm)
            rw [HLEN.out, ← HN.out] at HN9
            have HMT : Hid ((dstI s (-1) (ci + (-1)) t).toNat < (dstI s (-1) ci t).toNat) := by
              show _ < _
              rw [HST2.out]
              have := HMP2.out
              omega
            have c0 := cellR 0 HT9.out.1.m0 rfl
            have c1 := cellR 1 HT9.out.1.m0 rfl
            gi_wp2
            refine ⟨trivial, fun h => (by cases h), callsIn_wide.2 (HN9.out.mono ?_)⟩
            rintro e w10 ⟨rfl, hb10⟩
            replace HT9 := Lib.hid (HT9.out.below (HP.out pre) hJ9 hb10)
            replace hJ9 := (HP.out pre).jgrow _ _ hJ9 hb10
            clear HN9 hb10 c0 c1
            obtain ⟨fn, tm, as_, bd, hy, hR⟩ := HY.out pre (numI l (c.set i (ci + (-1))), cl) _ hJ9 (by rw [← HU2.out]; simp)
            gi_wp2
            refine ⟨fun h => (by cases h), ?_⟩
            refine hR.mono ?_
            rintro e w11 ⟨rfl, hJ11, hkq⟩
            replace HT9 := Lib.hid (HT9.out.kq HGN.out hkq)
            clear hy hR hkq hJ9
            gi_wp2
            go_roundw
            case rel => exact ⟨f, c.set i (ci + (-1)), cl, _, rfl, HIN2, HDF4, HU3, hJ11, HT9⟩
            case measure =>
              have e1 : (dstI s (-1) (intOf ((w11.cell? ⟨ga, i, none⟩).getD undef)) t).toNat = (dstI s (-1) (ci + (-1)) t).toNat := by
                rw [HT9.out.cur i (by rw [List.length_set]; exact HIC.out), HGC.out]; rfl
              exact e1 ▸ HMS.out ▸ HMT.out
          case neg =>
            rw [show decide (0 ≤ ci + (-1) ∧ ci + (-1) ≤ s - 1) = false from decide_eq_false hin]
            have hnx : nxI s (ci + (-1)) = (ci + (-1)) % s := if_neg hin
            have hcl : clI s (ci + (-1)) cl = 1 := if_neg hin
            rw [hnx, hcl] at HU2
            rw [hnx] at HST2
            have HNX2 : Hid (0 ≤ (ci + (-1)) % s ∧ (ci + (-1)) % s < s) := by have := HNX.out; rw [hnx] at this; exact this
            have HMM := Lib.hid (modulo_any (ci + (-1)) s (by have := HB12.out; omega) (by have := HB12.out; omega))
            have ca := HT9.out.cur i (by rw [List.length_set]; exact HIC.out)
            rw [show (c.set i (ci + (-1))).getD i 0 = ci + (-1) by simp [List.getD, HIC.out]] at ca
            have fa := HT9.out.2.2.2.1.open_ i
            have la := HT9.out.2.2.2.1.lt
            clear hnx hcl hin HNX
            gi_wp2
            refine ⟨trivial, fun h => (by cases h), callsIn_wide.2 ((HMM.out _).mono ?_)⟩
            rintro e w9' ⟨rfl, rfl⟩
            clear HMM
            generalize (ci + (-1)) % s = q at *
            have HT8 := Lib.hid (HT9.out.store (HP.out pre) hJ9 HNE.out.1 HNE.out.2.1 HNE.out.2.2 i q)
            rw [List.set_set] at HT8
            have hJ8 := (HP.out pre).jstore _ ga i (.int .i64 q) hJ9 HT9.out.2.2.2.2
            clear HT9 hJ9
            have HT9 := HT8
            have hJ9 := hJ8
            clear HT8 hJ8
            have HIN2 : Hid (InT l (c.set i q)) := HIN.out.set HIL.out HNX2.out.1 (by rw [HSL.out]; exact HNX2.out.2)
            have HU3 : Hid ((pre ++ [(numI l (c.set i q), 1)]) ++ mvK l i s (-1) t (dimK l cy (N - (i + 1))) f (c.set i q) (1) = DL) := by show _ = _; rw [List.append_assoc]; exact HU2.out
            have HGC : Hid ((c.set i q).getD i 0 = q) := by show _ = _; simp [List.getD, HIC.out]
            have HDF4 : Hid (dstI s (-1) ((c.set i q).getD i 0) t ≤ f) := by
              show _ ≤ _
              rw [HGC.out, HST2.out]
              have := HDF3.out
              omega
            have HLEN : Hid ((c.set i q).length = N) := by show _ = _; rw [HIN2.out.1, HN.out]
            have HN9 := Lib.hid (number_any (HT9.out.2.2.1.ints (by rw [← HN.out]; have := hl4'.out; omega)) (HT9.out.2.2.2.1.ints (by rw [HLEN.out]; have := hl4'.out; omega)) (by rw [HLEN.out, HN.out]) (by rw [← HN.out]; exact hl4'.out) HBB.out HIN2.out.2 sc N mm)
            rw [HLEN.out, ← HN.out] at HN9
            have HMT : Hid ((dstI s (-1) (q) t).toNat < (dstI s (-1) ci t).toNat) := by
              show _ < _
              rw [HST2.out]
              have := HMP2.out
              omega
            have c0 := cellR 0 HT9.out.1.m0 rfl
            have c1 := cellR 1 HT9.out.1.m0 rfl
            gi_wp2
            refine ⟨trivial, fun h => (by cases h), callsIn_wide.2 (HN9.out.mono ?_)⟩
            rintro e w10 ⟨rfl, hb10⟩
            replace HT9 := Lib.hid (HT9.out.below (HP.out pre) hJ9 hb10)
            replace hJ9 := (HP.out pre).jgrow _ _ hJ9 hb10
            clear HN9 hb10 c0 c1
            obtain ⟨fn, tm, as_, bd, hy, hR⟩ := HY.out pre (numI l (c.set i q), 1) _ hJ9 (by rw [← HU2.out]; simp)
            gi_wp2
            refine ⟨fun h => (by cases h), ?_⟩
            refine hR.mono ?_
            rintro e w11 ⟨rfl, hJ11, hkq⟩
            replace HT9 := Lib.hid (HT9.out.kq HGN.out hkq)
            clear hy hR hkq hJ9
            gi_wp2
            go_roundw
            case rel => exact ⟨f, c.set i q, 1, _, rfl, HIN2, HDF4, HU3, hJ11, HT9⟩
            case measure =>
              have e1 : (dstI s (-1) (intOf ((w11.cell? ⟨ga, i, none⟩).getD undef)) t).toNat = (dstI s (-1) (q) t).toNat := by
                rw [HT9.out.cur i (by rw [List.length_set]; exact HIC.out), HGC.out]; rfl
              exact e1 ▸ HMS.out ▸ HMT.out
    case neg =>
      have hbX : b = 1 := by rw [HBY.out, if_neg hq]
      have hdq : decide (s / 2 < (t - ci) % s) = false := decide_eq_false hq
      subst hbX
      have HU2 : Hid (pre ++ mvK l i s 1 t (dimK l cy (N - (i + 1))) s.toNat c 0 = DL) := by show _ = _; rw [← HU.out, HUS.out]
      have HDS : Hid (dstI s 1 (c.getD i 0) t ≤ s.toNat) := by have := HD0.out; rw [Hid, HCL.out]; omega
      have hi1 : i + 1 ≤ N := by omega
      have HB12 := Lib.hid (And.intro b1 b2)
      have HT12 := Lib.hid (And.intro t1 t2)
      clear HU HUS HBY HD0 HBO HCL a1 a2 b1 b2 t1 t2 hlt hi
      have hq2 := Int.not_lt.1 hq
      gi_wp2
      
      clear hdq hq hq2
      gi_loopw [10] (fun a wq => ∃ (f : Nat) (c : List Int) (cl : Int) (pre : List (Int × Int)), a = .int .i64 cl ∧ Hid (InT l c) ∧ Hid (dstI s 1 (c.getD i 0) t ≤ f) ∧ Hid (pre ++ mvK l i s 1 t (dimK l cy (N - (i + 1))) f c cl = DL) ∧ J pre wq ∧ Hid (TS n0 o ga ge g off [(Bs, .cells #[.slice (some ⟨g, off, none⟩) N sc, .int .i64 mm] 138 (0, 0)), (Bx, .cells #[.int .i64 x] 3 (0, 0)), (By, .cells #[.int .i64 y] 3 (0, 0))] l cy  c wq)) (fun _ wq => (dstI s 1 (intOf ((wq.cell? ⟨ga, i, none⟩).getD undef)) t).toNat)
      case atStart => exact ⟨s.toNat, c, 0, pre, rfl, HIN, HDS, HU2, hJ, HT⟩
      case round =>
        clear HU2 HDS hJ HT HIN HIC pre c
        obtain ⟨f, c, cl, pre, rfl, HIN, HDF, HU, hJ, HT⟩ := hrel
        have HIC : Hid (i < c.length) := by rw [Hid, HIN.out.1]; exact HIL.out
        obtain ⟨a1, a2⟩ := HIN.out.2 i HIL.out
        rw [HSL.out] at a2
        have ca := HT.out.cur i HIC.out
        have ce := HT.out.fin i HIE.out
        rw [HTL.out] at ce
        have HMS : Hid ((dstI s 1 (intOf ((wr.cell? ⟨ga, i, none⟩).getD undef)) t).toNat = (dstI s 1 (c.getD i 0) t).toNat) := by show _ = _; rw [ca]; rfl
        obtain ⟨d1, d2, d3⟩ := dst_in (b := 1) a1 a2 HT12.out.1 HT12.out.2
        have HST := Lib.hid (fun hne => dst_step (b := 1) (by decide) a1 a2 HT12.out.1 HT12.out.2 hne)
        have HNX := Lib.hid (nx_in (b := 1) (by decide) a1 a2)
        have HDF2 := Lib.hid (fun (h : f = 0) (hne : c.getD i 0 ≠ t) => show False by have := HDF.out; have := d3 hne; omega)
        have HDF3 := Lib.hid (show dstI s 1 (c.getD i 0) t ≤ f from HDF.out)
        have HMP : Hid (c.getD i 0 ≠ t → 1 ≤ dstI s 1 (c.getD i 0) t) := d3
        have hwv := Lib.hid (wrap_small (c.getD i 0 + 1) (by have := HB12.out; omega) (by have := HB12.out; omega))
        have hws := Lib.hid (wrap_small (s - 1) (by have := HB12.out; omega) (by have := HB12.out; omega))
        clear d1 d2 d3 HDF
        generalize hci : c.getD i 0 = ci at *
        have HCI := Lib.hid hci
        clear hci
        by_cases hne : ci = t
        case pos =>
          have hnb : (ci != t) = false := by simp [hne]
          have HU2 : Hid (pre ++ dimK l cy (N - (i + 1)) c = DL) := by
            show _ = _
            rw [← HU.out]
            cases f with
            | zero => rfl
            | succ f => rw [mvK, if_neg (by rw [HCI.out, hne]; simp)]
          have HWI := Lib.hid (wrap_small ((i : Int) + 1) (by omega) (by have := hl4'.out; omega))
          have HMO1 : Hid (N - (intOf (.int .i64 ((i : Int) + 1))).toNat < N - (intOf (.int .i64 (i : Int))).toNat) := by show _ < _; simp [intOf]; omega
          have HCAST0 : Hid (Value.int .i64 ((i : Int) + 1) = .int .i64 ((i + 1 : Nat) : Int)) := by show _ = _; rw [Int.natCast_add]; rfl
          have HCAST : Hid (Value.int .i64 (wrap64 ((i : Int) + 1)) = .int .i64 ((i + 1 : Nat) : Int)) := by show _ = _; rw [HWI.out, Int.natCast_add]; rfl
          have HMO : Hid (N - (intOf (.int .i64 (wrap64 ((i : Int) + 1)))).toNat < N - (intOf (.int .i64 (i : Int))).toNat) := by show _ < _; rw [HWI.out]; exact HMO1.out
          clear HU HST HNX HDF2 HDF3 HMP hwv hws HMS hne
          gi_wp2
          refine wpIn_wide.2 ?_
          go_quiet (fail)
          have hdr := below_drewN (Below.refl wr.heap.size wr) nq
          replace HT := Lib.hid (HT.out.below (HP.out pre) hJ hdr)
          replace hJ := (HP.out pre).jgrow _ _ hJ hdr
          generalize wr.drewN nq = w8 at *
          clear hdr ca ce
          clear HWI
          gi_wp2
          go_roundw
          case rel => exact ⟨i + 1, c, pre, hi1, by first | with_reducible exact HCAST.out | with_reducible exact HCAST0.out, HIN, HU2, hJ, HT⟩
          case measure => first | with_reducible exact HMO.out | with_reducible exact HMO1.out | exact HMO1.out
        case neg =>
          cases f with
          | zero => exact (HDF2.out rfl hne).elim
          | succ f =>
          have hnb : (ci != t) = true := bne_iff_ne.2 hne
          have HST2 := Lib.hid (HST.out hne)
          have HMP2 := Lib.hid (HMP.out hne)
          have HU2 : Hid (pre ++ ((numI l (c.set i (nxI s (ci + 1))), clI s (ci + 1) cl) :: mvK l i s 1 t (dimK l cy (N - (i + 1))) f (c.set i (nxI s (ci + 1))) (clI s (ci + 1) cl)) = DL) := by
            show _ = _
            rw [← HU.out, mvK, HCI.out, if_pos hne]
          clear HU HST HMP HDF2 hne
          gi_wp2
          refine wpIn_wide.2 ?_
          go_quiet (fail)
          have hdr := below_drewN (Below.refl wr.heap.size wr) nq
          replace HT := Lib.hid (HT.out.below (HP.out pre) hJ hdr)
          replace hJ := (HP.out pre).jgrow _ _ hJ hdr
          generalize hw8 : wr.drewN nq = w8 at *
          clear hdr ca ce hw8
          have ca := HT.out.cur i HIC.out
          rw [HCI.out] at ca
          have fa := HT.out.2.2.2.1.open_ i
          have la := HT.out.2.2.2.1.lt
          have hv1 := hwv.out
          have hv2 := hws.out
          gi_wp2
          clear hv1 hv2
          refine ⟨trivial, fun h => (by cases h), callsIn_wide.2 ((within_any (ci + 1) 0 (s - 1) _).mono ?_)⟩
          rintro e w9 ⟨rfl, rfl⟩
          have HT9 := Lib.hid (HT.out.store (HP.out pre) hJ HNE.out.1 HNE.out.2.1 HNE.out.2.2 i (ci + 1))
          have hJ9 := (HP.out pre).jstore _ ga i (.int .i64 (ci + 1)) hJ HT.out.2.2.2.2
          clear ca fa la hJ HT
          generalize w8.setCell ⟨ga, i, none⟩ (.int .i64 (ci + 1)) = w9 at *
          by_cases hin : 0 ≤ ci + 1 ∧ ci + 1 ≤ s - 1
          case pos =>
            rw [show decide (0 ≤ ci + 1 ∧ ci + 1 ≤ s - 1) = true from decide_eq_true hin]
            have hnx : nxI s (ci + 1) = ci + 1 := if_pos hin
            have hcl : clI s (ci + 1) cl = cl := if_pos hin
            rw [hnx, hcl] at HU2
            rw [hnx] at HST2
            have HNX2 : Hid (0 ≤ ci + 1 ∧ ci + 1 < s) := by have := HNX.out; rw [hnx] at this; exact this
            clear hnx hcl hin HNX
            have HIN2 : Hid (InT l (c.set i (ci + 1))) := HIN.out.set HIL.out HNX2.out.1 (by rw [HSL.out]; exact HNX2.out.2)
            have HU3 : Hid ((pre ++ [(numI l (c.set i (ci + 1)), cl)]) ++ mvK l i s 1 t (dimK l cy (N - (i + 1))) f (c.set i (ci + 1)) (cl) = DL) := by show _ = _; rw [List.append_assoc]; exact HU2.out
            have HGC : Hid ((c.set i (ci + 1)).getD i 0 = ci + 1) := by show _ = _; simp [List.getD, HIC.out]
            have HDF4 : Hid (dstI s 1 ((c.set i (ci + 1)).getD i 0) t ≤ f) := by
              show _ ≤ _
              rw [HGC.out, HST2.out]
              have := HDF3.out
              omega
            have HLEN : Hid ((c.set i (ci + 1)).length = N) := by show _ = _; rw [HIN2.out.1, HN.out]
            have HN9 := Lib.hid (number_any (HT9.out.2.2.1.ints (by rw [← HN.out]; have := hl4'.out; omega)) (HT9.out.2.2.2.1.ints (by rw [HLEN.out]; have := hl4'.out; omega)) (by rw [HLEN.out, HN.out]) (by rw [← HN.out]; exact hl4'.out) HBB.out HIN2.out.2 sc N mm)
            rw [HLEN.out, ← HN.out] at HN9
            have HMT : Hid ((dstI s 1 (ci + 1) t).toNat < (dstI s 1 ci t).toNat) := by
              show _ < _
              rw [HST2.out]
              have := HMP2.out
              omega
            have c0 := cellR 0 HT9.out.1.m0 rfl
            have c1 := cellR 1 HT9.out.1.m0 rfl
            gi_wp2
            refine ⟨trivial, fun h => (by cases h), callsIn_wide.2 (HN9.out.mono ?_)⟩
            rintro e w10 ⟨rfl, hb10⟩
            replace HT9 := Lib.hid (HT9.out.below (HP.out pre) hJ9 hb10)
            replace hJ9 := (HP.out pre).jgrow _ _ hJ9 hb10
            clear HN9 hb10 c0 c1
            obtain ⟨fn, tm, as_, bd, hy, hR⟩ := HY.out pre (numI l (c.set i (ci + 1)), cl) _ hJ9 (by rw [← HU2.out]; simp)
            gi_wp2
            refine ⟨fun h => (by cases h), ?_⟩
            refine hR.mono ?_
            rintro e w11 ⟨rfl, hJ11, hkq⟩
            replace HT9 := Lib.hid (HT9.out.kq HGN.out hkq)
            clear hy hR hkq hJ9
            gi_wp2
            go_roundw
            case rel => exact ⟨f, c.set i (ci + 1), cl, _, rfl, HIN2, HDF4, HU3, hJ11, HT9⟩
            case measure =>
              have e1 : (dstI s 1 (intOf ((w11.cell? ⟨ga, i, none⟩).getD undef)) t).toNat = (dstI s 1 (ci + 1) t).toNat := by
                rw [HT9.out.cur i (by rw [List.length_set]; exact HIC.out), HGC.out]; rfl
              exact e1 ▸ HMS.out ▸ HMT.out
          case neg =>
            rw [show decide (0 ≤ ci + 1 ∧ ci + 1 ≤ s - 1) = false from decide_eq_false hin]
            have hnx : nxI s (ci + 1) = (ci + 1) % s := if_neg hin
            have hcl : clI s (ci + 1) cl = 1 := if_neg hin
            rw [hnx, hcl] at HU2
            rw [hnx] at HST2
            have HNX2 : Hid (0 ≤ (ci + 1) % s ∧ (ci + 1) % s < s) := by have := HNX.out; rw [hnx] at this; exact this
            have HMM := Lib.hid (modulo_any (ci + 1) s (by have := HB12.out; omega) (by have := HB12.out; omega))
            have ca := HT9.out.cur i (by rw [List.length_set]; exact HIC.out)
            rw [show (c.set i (ci + 1)).getD i 0 = ci + 1 by simp [List.getD, HIC.out]] at ca
            have fa := HT9.out.2.2.2.1.open_ i
            have la := HT9.out.2.2.2.1.lt
            clear hnx hcl hin HNX
            gi_wp2
            refine ⟨trivial, fun h => (by cases h), callsIn_wide.2 ((HMM.out _).mono ?_)⟩
            rintro e w9' ⟨rfl, rfl⟩
            clear HMM
            generalize (ci + 1) % s = q at *
            have HT8 := Lib.hid (HT9.out.store (HP.out pre) hJ9 HNE.out.1 HNE.out.2.1 HNE.out.2.2 i q)
            rw [List.set_set] at HT8
            have hJ8 := (HP.out pre).jstore _ ga i (.int .i64 q) hJ9 HT9.out.2.2.2.2
            clear HT9 hJ9
            have HT9 := HT8
            have hJ9 := hJ8
            clear HT8 hJ8
            have HIN2 : Hid (InT l (c.set i q)) := HIN.out.set HIL.out HNX2.out.1 (by rw [HSL.out]; exact HNX2.out.2)
            have HU3 : Hid ((pre ++ [(numI l (c.set i q), 1)]) ++ mvK l i s 1 t (dimK l cy (N - (i + 1))) f (c.set i q) (1) = DL) := by show _ = _; rw [List.append_assoc]; exact HU2.out
            have HGC : Hid ((c.set i q).getD i 0 = q) := by show _ = _; simp [List.getD, HIC.out]
            have HDF4 : Hid (dstI s 1 ((c.set i q).getD i 0) t ≤ f) := by
              show _ ≤ _
              rw [HGC.out, HST2.out]
              have := HDF3.out
              omega
            have HLEN : Hid ((c.set i q).length = N) := by show _ = _; rw [HIN2.out.1, HN.out]
            have HN9 := Lib.hid (number_any (HT9.out.2.2.1.ints (by rw [← HN.out]; have := hl4'.out; omega)) (HT9.out.2.2.2.1.ints (by rw [HLEN.out]; have := hl4'.out; omega)) (by rw [HLEN.out, HN.out]) (by rw [← HN.out]; exact hl4'.out) HBB.out HIN2.out.2 sc N mm)
            rw [HLEN.out, ← HN.out] at HN9
            have HMT : Hid ((dstI s 1 (q) t).toNat < (dstI s 1 ci t).toNat) := by
              show _ < _
              rw [HST2.out]
              have := HMP2.out
              omega
            have c0 := cellR 0 HT9.out.1.m0 rfl
            have c1 := cellR 1 HT9.out.1.m0 rfl
            gi_wp2
            refine ⟨trivial, fun h => (by cases h), callsIn_wide.2 (HN9.out.mono ?_)⟩
            rintro e w10 ⟨rfl, hb10⟩
            replace HT9 := Lib.hid (HT9.out.below (HP.out pre) hJ9 hb10)
            replace hJ9 := (HP.out pre).jgrow _ _ hJ9 hb10
            clear HN9 hb10 c0 c1
            obtain ⟨fn, tm, as_, bd, hy, hR⟩ := HY.out pre (numI l (c.set i q), 1) _ hJ9 (by rw [← HU2.out]; simp)
            gi_wp2
            refine ⟨fun h => (by cases h), ?_⟩
            refine hR.mono ?_
            rintro e w11 ⟨rfl, hJ11, hkq⟩
            replace HT9 := Lib.hid (HT9.out.kq HGN.out hkq)
            clear hy hR hkq hJ9
            gi_wp2
            go_roundw
            case rel => exact ⟨f, c.set i q, 1, _, rfl, HIN2, HDF4, HU3, hJ11, HT9⟩
            case measure =>
              have e1 : (dstI s 1 (intOf ((w11.cell? ⟨ga, i, none⟩).getD undef)) t).toNat = (dstI s 1 (q) t).toNat := by
                rw [HT9.out.cur i (by rw [List.length_set]; exact HIC.out), HGC.out]; rfl
              exact e1 ▸ HMS.out ▸ HMT.out
end Go.Proofs.YtbhkenphcahifaaGreat
namespace Go.Proofs.YtbhkenphcahifaaGreat
open Go.RowKit Go.Shelf
attribute [local go_sem] Oper.semAt_some
set_option maxRecDepth 100000
set_option maxHeartbeats 4000000
theorem torusMake (lo g off sc : Nat) (l : List Int) (mm x y : Int) (hg : g < lo) (hl1 : 1 ≤ l.length) (hl4 : l.length ≤ 4) (hb : ∀ i, i < l.length → 2 ≤ l.getD i 0 ∧ l.getD i 0 ≤ 16) (hx : 0 ≤ x) (hx2 : x ≤ 1000) (hy : 0 ≤ y) (hy2 : y ≤ 1000) (w : World) (hlow : LowL g off l w) :
    RMake lo 142 (.agg #[.slice (some ⟨g, off, none⟩) l.length sc, .int .i64 mm]) x y (torusL l x y) w := by
  obtain ⟨hbw, q0, q1, q2⟩ := three_new w (.cells #[.slice (some ⟨g, off, none⟩) l.length sc, .int .i64 mm] 138) (.cells #[.int .i64 x] 3) (.cells #[.int .i64 y] 3)
  have HB := Lib.hid hbw
  have hlow2 : LowL g off l (((w.alloc (.cells #[.slice (some ⟨g, off, none⟩) l.length sc, .int .i64 mm] 138)).alloc (.cells #[.int .i64 x] 3)).alloc (.cells #[.int .i64 y] 3)) := fun j hj => kcell hbw (hlow j hj)
  have HI : Hid (RIter lo 151 #[.pointer (some ⟨w.heap.size, 0, none⟩), .pointer (some ⟨w.heap.size + 1, 0, none⟩), .pointer (some ⟨w.heap.size + 2, 0, none⟩)] (torusL l x y) w.heap.size (((w.alloc (.cells #[.slice (some ⟨g, off, none⟩) l.length sc, .int .i64 mm] 138)).alloc (.cells #[.int .i64 x] 3)).alloc (.cells #[.int .i64 y] 3))) := by
    refine ⟨enters_of Tryz.func151 (by kernel_rfl) rfl, _, ?_, fun n n0 o hlo => torusIter n0 o w.heap.size (w.heap.size + 1) (w.heap.size + 2) g off sc l mm x y (by omega) hl1 hl4 hb hx hx2 hy hy2 q0 q1 q2 hlow2 n⟩
    rintro b (rfl | rfl | rfl)
    · exact ⟨Nat.le_refl _, _, q0, rfl⟩
    · exact ⟨by omega, _, q1, rfl⟩
    · exact ⟨by omega, _, q2, rfl⟩
  clear hbw q0 q1 q2 hlow hlow2 hb
  generalize l.length = N at *
  unfold RMake
  go_enter Tryz.func142, Tryz.ntmps142
  go_wp2_with fail
  go_ret
  exact ⟨151, _, rfl, HI.out, HB.out⟩
theorem tOk_sides {l : List Int} {h : Int} (ht : tOk l h) : (1 ≤ l.length ∧ l.length ≤ 4) ∧ ∀ i, i < l.length → 2 ≤ l.getD i 0 ∧ l.getD i 0 ≤ 16 := by
  refine ⟨by have := ht.1; omega, fun i hi => ?_⟩
  have := ht.2.2.1 l[i] (List.getElem_mem hi)
  rw [show l.getD i 0 = l[i] by simp [List.getD, hi]]
  exact this
theorem torus_v {l : List Int} {hosts : Int} (hv : vOk 1 l hosts) : tOk l hosts := by
  rcases hv with ⟨h0, h1⟩ | ⟨h0, h1⟩ | ⟨h0, h1⟩
  · exact h1
  · cases h0
  · cases h0
theorem torusL_len {l : List Int} {hosts x y : Int} (hv : vOk 1 l hosts) : (torusL l x y).length ≤ 100000 := by
  obtain ⟨⟨h1, h2⟩, hb⟩ := tOk_sides (torus_v hv)
  have := dimK_len (coordsL l y) hb l.length (Nat.le_refl _) (coordsL l x)
  unfold torusL
  omega
theorem torusSteps_make {w : World} {sa : Option Addr} {l : List Int} {hosts x y : Int} (h : Ints w sa l) (sc : Nat) (hv : vOk 1 l hosts) (hin : inB (swI 1 l) [x, y] = true) (W : World) (hb : Below w.heap.size w W) :
    RMake w.heap.size 142 (.agg #[.slice sa l.length sc, .int .i64 (prodI l)]) x y (torusL l x y) W := by
  obtain ⟨⟨h1, h2⟩, hs⟩ := tOk_sides (torus_v hv)
  obtain ⟨⟨hx0, hx1⟩, hy0, hy1⟩ := inB_two hin
  have hvb := v_bound hv
  have hne : l ≠ [] := by rintro rfl; simp at h1
  obtain ⟨g, off, rfl, hc⟩ := h.at_ hne
  have hg : g < w.heap.size := block_lt_of_cell (hc 0 (by omega))
  exact torusMake w.heap.size g off sc l (prodI l) x y hg h1 h2 hs hx0 (by omega) hy0 (by omega) W (fun j hj => kcell hb (hc j hj))
theorem Route_torus {w : World} {sa : Option Addr} {l : List Int} (h : Ints w sa l) (sc : Nat) (hosts x y : Int) (hv : vOk 1 l hosts) (hin : inB (swI 1 l) [x, y] = true) (hy : y < hoI 1 l) :
    Calls Tryz.prog 87 #[.agg #[.int .i64 1, .slice sa l.length sc, .int .i64 hosts], .int .i64 x, .int .i64 y] w fun e w' => ∃ v, e = .returned (.tuple #[v, .int .i64 0]) ∧ NewInts w.heap.size w' v (x :: (torusL l x y).map (·.1)) ∧ Below w.heap.size w w' :=
  Route1_any h sc hosts x y hv hin hy _ (torusL_len hv) (fun W hb => torusSteps_make h sc hv hin W hb)
theorem Classes_torus {w : World} {sa : Option Addr} {l : List Int} (h : Ints w sa l) (sc : Nat) (hosts x y : Int) (hv : vOk 1 l hosts) (hin : inB (swI 1 l) [x, y] = true) (hy : y < hoI 1 l) :
    Calls Tryz.prog 88 #[.agg #[.int .i64 1, .slice sa l.length sc, .int .i64 hosts], .int .i64 x, .int .i64 y] w fun e w' => ∃ v, e = .returned (.tuple #[v, .int .i64 0]) ∧ NewInts w.heap.size w' v ((torusL l x y).map (·.2)) ∧ Below w.heap.size w w' :=
  Classes1_any h sc hosts x y hv hin hy _ (torusL_len hv) (fun W hb => torusSteps_make h sc hv hin W hb)
end Go.Proofs.YtbhkenphcahifaaGreat
namespace Go.Proofs.YtbhkenphcahifaaGreat
open Go.RowKit Go.Shelf
attribute [local go_sem] Oper.semAt_some
set_option maxRecDepth 100000
set_option maxHeartbeats 4000000
section
variable {n : Nat} {P : Program} {ops : Array Oper} {Q : Exit → Act → World → Prop}
theorem wpOpIn_rowg {i j : Nat} {want : Bool} {o : Oper} {K : Act → World → Prop} {a : Act} {w : World} (ho : ops[i]? = some o) (hgd : o.guard = some (j, want)) (hy : yielded ops a.tmps j = some want) (ty : TypeId) (x : Operand) (hop : o.op = .load ty x)
    (g : Nat) (hx : a.eval x = .pointer (some ⟨g, 0, none⟩)) (t : TypeId) (cs : Array Value) (fr : Nat × Nat) (d : TypeDesc) (hg : w.heap[g]? = some (.cells cs t fr))
    (hu : P.underlying ty = some d) (hd : (match d with | .struct _ | .array _ _ => true | _ => false) = true) (hi : (P.info? ty).map (·.size) = some cs.size)
    (h : K (a.put o.dst (.agg cs)) w) : wpOpIn Fence.wide n P ops Q i K a w := by
  refine wpOpIn_guard (v := .agg cs) ho hgd hy ?_ h
  simp only [Oper.semAt, hop, execOp, hx, Instr.loadAt, Instr.sureAddr, Sem.run_bind, Sem.run_pure, Result.andThen_ok, run_loadVar_row w g t ty cs fr d hg hu hd hi]
end
theorem info24 : (Tryz.prog.info? 24).map (·.size) = some 3 := by kernel_rfl
theorem placeL_len (kind : Int) (l : List Int) (x : Int) (h : l.length ≤ 17592186044416) : (placeL kind l x).length ≤ 17592186044416 := by
  unfold placeL
  split
  · rw [show (coordsL l x).length = l.length from cfold_len _ _ _]; exact h
  · split <;> simp
/-- what Place says of a list -/
def PlaceIs (B : Nat) (kind : Int) (l : List Int) (hosts x : Int) (e : Ending) (w' : World) : Prop := ∃ a c, e = .returned (.tuple #[.slice a (if plaE kind l hosts x = 0 then placeL kind l x else []).length c, .int .i64 (plaE kind l hosts x)]) ∧ Ints w' a (if plaE kind l hosts x = 0 then placeL kind l x else [])
theorem ints_nil (w : World) : Ints w none [] := ⟨by simp, fun h => absurd rfl h⟩
theorem place_is {B : Nat} {kind : Int} {l : List Int} {hosts x : Int} {e : Ending} {w' : World} (hl : l.length ≤ 17592186044416)
    (h : (plaE kind l hosts x ≠ 0 ∧ e = .returned (.tuple #[.slice none 0 0, .int .i64 (plaE kind l hosts x)])) ∨ (plaE kind l hosts x = 0 ∧ ∃ g, e = .returned (.tuple #[.slice (some ⟨g, 0, none⟩) (placeL kind l x).length (placeL kind l x).length, .int .i64 0]) ∧ B ≤ g ∧ RowAt w' g (placeL kind l x))) : PlaceIs B kind l hosts x e w' := by
  rcases h with ⟨h1, rfl⟩ | ⟨h1, g, rfl, h2, h3⟩
  · refine ⟨none, 0, ?_, ?_⟩
    · rw [if_neg h1]; rfl
    · rw [if_neg h1]; exact ints_nil _
  · refine ⟨some ⟨g, 0, none⟩, (placeL kind l x).length, ?_, ?_⟩
    · rw [if_pos h1, h1]
    · rw [if_pos h1]; exact h3.ints (placeL_len _ _ _ hl)
end Go.Proofs.YtbhkenphcahifaaGreat
namespace Go.Proofs.YtbhkenphcahifaaGreat
open Go.RowKit Go.Shelf
attribute [local go_sem] Oper.semAt_some
set_option maxRecDepth 100000
set_option maxHeartbeats 4000000
/-- the steps of a route: each switch with its class -/
def stepsL (kind : Int) (l : List Int) (x y : Int) : List (Int × Int) := if kind = 1 then torusL l x y else if kind = 2 then treeSteps l x y else dragSteps l x y
def rteL (kind : Int) (l : List Int) (hosts x y : Int) : List Int := if rteE kind l hosts x y = 0 then x :: (stepsL kind l x y).map (·.1) else []
def rteC (kind : Int) (l : List Int) (hosts x y : Int) : List Int := if rteE kind l hosts x y = 0 then (stepsL kind l x y).map (·.2) else []
theorem rte_ok {kind : Int} {l : List Int} {hosts x y : Int} (h : rteE kind l hosts x y = 0) : vOk kind l hosts ∧ inB (swI kind l) [x, y] = true ∧ y < hoI kind l := by
  unfold rteE at h
  by_cases h1 : vOk kind l hosts
  · rw [if_pos h1] at h
    by_cases h2 : inB (swI kind l) [x, y] = true
    · rw [if_pos h2] at h
      by_cases h3 : y < hoI kind l
      · exact ⟨h1, h2, h3⟩
      · rw [if_neg h3] at h; cases h
    · rw [if_neg h2] at h; cases h
  · rw [if_neg h1] at h; cases h
theorem Route_all {w : World} {sa : Option Addr} {l : List Int} (h : Ints w sa l) (sc : Nat) (kind hosts x y : Int) :
    Calls Tryz.prog 87 #[.agg #[.int .i64 kind, .slice sa l.length sc, .int .i64 hosts], .int .i64 x, .int .i64 y] w fun e w' => (∃ a c, e = .returned (.tuple #[.slice a (rteL kind l hosts x y).length c, .int .i64 (rteE kind l hosts x y)]) ∧ Ints w' a (rteL kind l hosts x y)) ∧ Below w.heap.size w w' := by
  by_cases hE : rteE kind l hosts x y = 0
  · obtain ⟨hv, hin, hy⟩ := rte_ok hE
    have hl : rteL kind l hosts x y = x :: (stepsL kind l x y).map (·.1) := if_pos hE
    rw [hl, hE]
    have key : Calls Tryz.prog 87 #[.agg #[.int .i64 kind, .slice sa l.length sc, .int .i64 hosts], .int .i64 x, .int .i64 y] w fun e w' => ∃ v, e = .returned (.tuple #[v, .int .i64 0]) ∧ NewInts w.heap.size w' v (x :: (stepsL kind l x y).map (·.1)) ∧ Below w.heap.size w w' := by
      rcases v_kind hv with rfl | rfl | rfl
      · exact Route_torus h sc hosts x y hv hin hy
      · exact Route_tree h sc hosts x y hv hin hy
      · exact Route_drag h sc hosts x y hv hin hy
    refine key.mono ?_
    rintro e w' ⟨v, rfl, hn, hb⟩
    obtain ⟨a, c, rfl, hi⟩ := hn.ints
    exact ⟨⟨a, c, rfl, hi⟩, hb⟩
  · have hl : rteL kind l hosts x y = [] := if_neg hE
    rw [hl]
    refine (Route_bad h sc kind hosts x y hE).mono ?_
    rintro e w' ⟨rfl, hb⟩
    exact ⟨⟨none, 0, rfl, ints_nil _⟩, hb⟩
theorem Classes_all {w : World} {sa : Option Addr} {l : List Int} (h : Ints w sa l) (sc : Nat) (kind hosts x y : Int) :
    Calls Tryz.prog 88 #[.agg #[.int .i64 kind, .slice sa l.length sc, .int .i64 hosts], .int .i64 x, .int .i64 y] w fun e w' => (∃ a c, e = .returned (.tuple #[.slice a (rteC kind l hosts x y).length c, .int .i64 (rteE kind l hosts x y)]) ∧ Ints w' a (rteC kind l hosts x y)) ∧ Below w.heap.size w w' := by
  by_cases hE : rteE kind l hosts x y = 0
  · obtain ⟨hv, hin, hy⟩ := rte_ok hE
    have hl : rteC kind l hosts x y = (stepsL kind l x y).map (·.2) := if_pos hE
    rw [hl, hE]
    have key : Calls Tryz.prog 88 #[.agg #[.int .i64 kind, .slice sa l.length sc, .int .i64 hosts], .int .i64 x, .int .i64 y] w fun e w' => ∃ v, e = .returned (.tuple #[v, .int .i64 0]) ∧ NewInts w.heap.size w' v ((stepsL kind l x y).map (·.2)) ∧ Below w.heap.size w w' := by
      rcases v_kind hv with rfl | rfl | rfl
      · exact Classes_torus h sc hosts x y hv hin hy
      · exact Classes_tree h sc hosts x y hv hin hy
      · exact Classes_drag h sc hosts x y hv hin hy
    refine key.mono ?_
    rintro e w' ⟨v, rfl, hn, hb⟩
    obtain ⟨a, c, rfl, hi⟩ := hn.ints
    exact ⟨⟨a, c, rfl, hi⟩, hb⟩
  · have hl : rteC kind l hosts x y = [] := if_neg hE
    rw [hl]
    refine (Classes_bad h sc kind hosts x y hE).mono ?_
    rintro e w' ⟨rfl, hb⟩
    exact ⟨⟨none, 0, rfl, ints_nil _⟩, hb⟩
theorem tree_spec (w : World) : Calls Tryz.prog 42 #[] w fun e w' => ∃ g, e = .returned (.agg #[.int .i64 2, .slice (some ⟨g, 0, none⟩) 2 2, .int .i64 2]) ∧ Ints w' (some ⟨g, 0, none⟩) [2, 3] ∧ Below w.heap.size w w' := by
  obtain ⟨hbx, q0, q1, hz⟩ := twoN w (.cells #[.int .i64 0, .slice none 0 0, .int .i64 0] 24) (.cells #[.int .i64 2, .int .i64 3] 3)
  have HB := Lib.hid hbx
  have Q0 := Lib.hid q0
  have HI := Lib.hid (ints_pair (w.alloc (.cells #[.int .i64 0, .slice none 0 0, .int .i64 0] 24)) 2 3)
  rw [show (w.alloc (.cells #[.int .i64 0, .slice none 0 0, .int .i64 0] 24)).heap.size = w.heap.size + 1 by simp] at HI
  have d0 := cellR 0 q0 rfl
  have d1 := cellR 1 q0 rfl
  have d2 := cellR 2 q0 rfl
  have f0 := frozen_of_row _ _ 0 _ _ q0
  have f1 := frozen_of_row _ _ 1 _ _ q0
  have f2 := frozen_of_row _ _ 2 _ _ q0
  have l1 := (Array.getElem?_eq_some_iff.1 q0).1
  clear hbx q0 q1 hz HI
  obtain ⟨hb9, hr, _, _⟩ := twoN w (.cells #[.int .i64 2, .slice (some ⟨w.heap.size + 1, 0, none⟩) 2 2, .int .i64 2] 24) (.cells #[.int .i64 2, .int .i64 3] 3)
  have hi9 := ints_pair (w.alloc (.cells #[.int .i64 2, .slice (some ⟨w.heap.size + 1, 0, none⟩) 2 2, .int .i64 2] 24)) 2 3
  rw [show (w.alloc (.cells #[.int .i64 2, .slice (some ⟨w.heap.size + 1, 0, none⟩) 2 2, .int .i64 2] 24)).heap.size = w.heap.size + 1 by simp] at hi9
  have HB9 := Lib.hid hb9
  have HR := Lib.hid hr
  have HI9 := Lib.hid hi9
  clear hb9 hr hi9
  go_enter Tryz.func42, Tryz.ntmps42
  go_wp2_with fail
  have hr := HR.out
  refine bodyPost_ret (v := .agg #[.int .i64 2, .slice (some ⟨w.heap.size + 1, 0, none⟩) 2 2, .int .i64 2]) ?_ rfl ⟨_, rfl, HI9.out, HB9.out⟩
  simp [results, Act.put, run_loadVar_row _ _ 24 24 _ _ _ hr Tryz.underlying24 rfl info24, Tryz.results42, asAddr]
theorem torus_spec (w : World) : Calls Tryz.prog 44 #[] w fun e w' => ∃ g, e = .returned (.agg #[.int .i64 1, .slice (some ⟨g, 0, none⟩) 2 2, .int .i64 1]) ∧ Ints w' (some ⟨g, 0, none⟩) [3, 4] ∧ Below w.heap.size w w' := by
  obtain ⟨hbx, q0, q1, hz⟩ := twoN w (.cells #[.int .i64 0, .slice none 0 0, .int .i64 0] 24) (.cells #[.int .i64 3, .int .i64 4] 3)
  have HB := Lib.hid hbx
  have Q0 := Lib.hid q0
  have HI := Lib.hid (ints_pair (w.alloc (.cells #[.int .i64 0, .slice none 0 0, .int .i64 0] 24)) 3 4)
  rw [show (w.alloc (.cells #[.int .i64 0, .slice none 0 0, .int .i64 0] 24)).heap.size = w.heap.size + 1 by simp] at HI
  have d0 := cellR 0 q0 rfl
  have d1 := cellR 1 q0 rfl
  have d2 := cellR 2 q0 rfl
  have f0 := frozen_of_row _ _ 0 _ _ q0
  have f1 := frozen_of_row _ _ 1 _ _ q0
  have f2 := frozen_of_row _ _ 2 _ _ q0
  have l1 := (Array.getElem?_eq_some_iff.1 q0).1
  clear hbx q0 q1 hz HI
  obtain ⟨hb9, hr, _, _⟩ := twoN w (.cells #[.int .i64 1, .slice (some ⟨w.heap.size + 1, 0, none⟩) 2 2, .int .i64 1] 24) (.cells #[.int .i64 3, .int .i64 4] 3)
  have hi9 := ints_pair (w.alloc (.cells #[.int .i64 1, .slice (some ⟨w.heap.size + 1, 0, none⟩) 2 2, .int .i64 1] 24)) 3 4
  rw [show (w.alloc (.cells #[.int .i64 1, .slice (some ⟨w.heap.size + 1, 0, none⟩) 2 2, .int .i64 1] 24)).heap.size = w.heap.size + 1 by simp] at hi9
  have HB9 := Lib.hid hb9
  have HR := Lib.hid hr
  have HI9 := Lib.hid hi9
  clear hb9 hr hi9
  go_enter Tryz.func44, Tryz.ntmps44
  go_wp2_with fail
  have hr := HR.out
  refine bodyPost_ret (v := .agg #[.int .i64 1, .slice (some ⟨w.heap.size + 1, 0, none⟩) 2 2, .int .i64 1]) ?_ rfl ⟨_, rfl, HI9.out, HB9.out⟩
  simp [results, Act.put, run_loadVar_row _ _ 24 24 _ _ _ hr Tryz.underlying24 rfl info24, Tryz.results44, asAddr]
theorem dragon_spec (w : World) : Calls Tryz.prog 46 #[] w fun e w' => ∃ g, e = .returned (.agg #[.int .i64 3, .slice (some ⟨g, 0, none⟩) 2 2, .int .i64 1]) ∧ Ints w' (some ⟨g, 0, none⟩) [2, 1] ∧ Below w.heap.size w w' := by
  obtain ⟨hbx, q0, q1, hz⟩ := twoN w (.cells #[.int .i64 0, .slice none 0 0, .int .i64 0] 24) (.cells #[.int .i64 2, .int .i64 1] 3)
  have HB := Lib.hid hbx
  have Q0 := Lib.hid q0
  have HI := Lib.hid (ints_pair (w.alloc (.cells #[.int .i64 0, .slice none 0 0, .int .i64 0] 24)) 2 1)
  rw [show (w.alloc (.cells #[.int .i64 0, .slice none 0 0, .int .i64 0] 24)).heap.size = w.heap.size + 1 by simp] at HI
  have d0 := cellR 0 q0 rfl
  have d1 := cellR 1 q0 rfl
  have d2 := cellR 2 q0 rfl
  have f0 := frozen_of_row _ _ 0 _ _ q0
  have f1 := frozen_of_row _ _ 1 _ _ q0
  have f2 := frozen_of_row _ _ 2 _ _ q0
  have l1 := (Array.getElem?_eq_some_iff.1 q0).1
  clear hbx q0 q1 hz HI
  obtain ⟨hb9, hr, _, _⟩ := twoN w (.cells #[.int .i64 3, .slice (some ⟨w.heap.size + 1, 0, none⟩) 2 2, .int .i64 1] 24) (.cells #[.int .i64 2, .int .i64 1] 3)
  have hi9 := ints_pair (w.alloc (.cells #[.int .i64 3, .slice (some ⟨w.heap.size + 1, 0, none⟩) 2 2, .int .i64 1] 24)) 2 1
  rw [show (w.alloc (.cells #[.int .i64 3, .slice (some ⟨w.heap.size + 1, 0, none⟩) 2 2, .int .i64 1] 24)).heap.size = w.heap.size + 1 by simp] at hi9
  have HB9 := Lib.hid hb9
  have HR := Lib.hid hr
  have HI9 := Lib.hid hi9
  clear hb9 hr hi9
  go_enter Tryz.func46, Tryz.ntmps46
  go_wp2_with fail
  have hr := HR.out
  refine bodyPost_ret (v := .agg #[.int .i64 3, .slice (some ⟨w.heap.size + 1, 0, none⟩) 2 2, .int .i64 1]) ?_ rfl ⟨_, rfl, HI9.out, HB9.out⟩
  simp [results, Act.put, run_loadVar_row _ _ 24 24 _ _ _ hr Tryz.underlying24 rfl info24, Tryz.results46, asAddr]
theorem routes_any {w : World} {sa pa qa : Option Addr} {l P C : List Int} (h : Ints w sa l) (hp : Ints w pa P) (hc : Ints w qa C) (sc pc qc : Nat) (kind hosts x y : Int) (hE : rteE kind l hosts x y = 0) (hP : rteL kind l hosts x y = P) (hC : rteC kind l hosts x y = C) :
    Calls Tryz.prog 45 #[.agg #[.int .i64 kind, .slice sa l.length sc, .int .i64 hosts], .int .i64 x, .int .i64 y, .slice pa P.length pc, .slice qa C.length qc] w fun e w' => e = .returned (.bool true) ∧ Below w.heap.size w w' := by
  have H21 := Lib.hid (fun W (hb : Below w.heap.size w W) => Route_all (h.keep hb) sc kind hosts x y)
  have H23 := Lib.hid (fun W (hb : Below w.heap.size w W) => Classes_all (h.keep hb) sc kind hosts x y)
  rw [hE, hP] at H21
  rw [hE, hC] at H23
  have H20 := Lib.hid (fun (W : World) (a b : Option Addr) (m : List Int) (ha : Ints W a m) (hb : Ints W b m) (ca cb : Nat) => equal_any ha hb ca cb)
  have HPP := Lib.hid hp
  have HCC := Lib.hid hc
  have hPd : decide (P = P) = true := decide_eq_true rfl
  have hCd : decide (C = C) = true := decide_eq_true rfl
  have HB := Lib.hid ((Below.refl w.heap.size w).alloc (Nat.le_refl _) (.cells #[.int .i64 kind, .slice sa l.length sc, .int .i64 hosts] 24))
  have Q0 := Lib.hid (heap_alloc_new w (.cells #[.int .i64 kind, .slice sa l.length sc, .int .i64 hosts] 24))
  have c0 := cellR 0 Q0.out rfl
  have c1 := cellR 1 Q0.out rfl
  have c2 := cellR 2 Q0.out rfl
  clear h hp hc hE hP hC
  generalize l.length = N at *
  go_enter Tryz.func45, Tryz.ntmps45
  go_wp2_with fail
  generalize w.alloc (.cells #[.int .i64 kind, .slice sa N sc, .int .i64 hosts] 24) = X at *
  refine (H21.out _ HB.out).mono ?_
  rintro e w1 ⟨⟨a1, k1, rfl, i1⟩, hb⟩
  have I1 := Lib.hid i1
  replace Q0 := Lib.hid (heapB hb Q0.out)
  replace HB := Lib.hid (HB.out.trans (hb.mono HB.out.size))
  clear H21 hb i1 c0 c1 c2
  have c0 := cellR 0 Q0.out rfl
  have c1 := cellR 1 Q0.out rfl
  have c2 := cellR 2 Q0.out rfl
  go_wp2_with fail
  refine (H23.out _ HB.out).mono ?_
  rintro e w2 ⟨⟨a2, k2, rfl, i2⟩, hb⟩
  have I2 := Lib.hid i2
  replace I1 := Lib.hid (I1.out.keep hb)
  replace HB := Lib.hid (HB.out.trans (hb.mono HB.out.size))
  clear H23 hb i2 c0 c1 c2 Q0
  go_wp2_with fail
  refine (H20.out _ _ _ _ I1.out (HPP.out.keep HB.out) _ _).mono ?_
  rintro e w3 ⟨rfl, hb⟩
  rw [hPd]
  replace I2 := Lib.hid (I2.out.keep hb)
  replace HB := Lib.hid (HB.out.trans (hb.mono HB.out.size))
  clear hb I1 HPP
  go_wp2_with fail
  refine (H20.out _ _ _ _ I2.out (HCC.out.keep HB.out) _ _).mono ?_
  rintro e w4 ⟨rfl, hb⟩
  rw [hCd]
  replace HB := Lib.hid (HB.out.trans (hb.mono HB.out.size))
  clear hb I2 HCC H20
  go_wp2_with fail
  go_ret
  exact ⟨rfl, HB.out⟩
end Go.Proofs.YtbhkenphcahifaaGreat
namespace Go.Proofs.YtbhkenphcahifaaGreat
open Go.RowKit Go.Shelf
set_option maxRecDepth 100000
theorem getD_set_same {α} (l : List α) (m : Nat) (v d : α) (h : m < l.length) : (l.set m v).getD m d = v := by simp [List.getD, h]
theorem getD_set_other {α} (l : List α) (m i : Nat) (v d : α) (h : m ≠ i) : (l.set m v).getD i d = l.getD i d := by simp [List.getD, List.getElem?_set, h]
end Go.Proofs.YtbhkenphcahifaaGreat
namespace Go.Proofs.YtbhkenphcahifaaGreat
open Go.RowKit Go.Shelf
set_option maxRecDepth 100000
set_option maxHeartbeats 4000000
/-- the digits of a number lead back -/
theorem cfold_num {l c : List Int} (hc : InT l c) : ∀ m, m ≤ l.length → (cfold l (numI l c) ((List.range l.length).reverse.take m)).1 = numK l c (l.length - m) ∧ ∀ j, l.length - m ≤ j → j < l.length → (cfold l (numI l c) ((List.range l.length).reverse.take m)).2.getD j 0 = c.getD j 0 := by
  intro m
  induction m with
  | zero => intro _; exact ⟨rfl, fun j h1 h2 => by omega⟩
  | succ m ih =>
    intro hm
    obtain ⟨i1, i2⟩ := ih (by omega)
    obtain ⟨k, hk⟩ : ∃ k, l.length = k + 1 + m := ⟨l.length - m - 1, by omega⟩
    have hs : cfold l (numI l c) ((List.range l.length).reverse.take (m + 1)) = cstep l (cfold l (numI l c) ((List.range l.length).reverse.take m)) k := by
      rw [List.take_succ_eq_append_getElem (by simp; omega), cfold_snoc]
      congr 1
      simp only [List.getElem_reverse, List.getElem_range, List.length_range]
      omega
    have e1 : l.length - m = k + 1 := by omega
    have e2 : l.length - (m + 1) = k := by omega
    rw [e1] at i1 i2
    rw [hs, e2]
    obtain ⟨c0, c1⟩ := hc.2 k (by omega)
    have hlen := cfold_len l (numI l c) ((List.range l.length).reverse.take m)
    have hdiv : numK l c (k + 1) / l.getD k 0 = numK l c k ∧ numK l c (k + 1) % l.getD k 0 = c.getD k 0 := by
      rw [numK]
      constructor
      · rw [Int.add_comm, Int.add_mul_ediv_right _ _ (by omega), Int.ediv_eq_zero_of_lt c0 c1, Int.zero_add]
      · rw [Int.add_comm, Int.add_mul_emod_self_right, Int.emod_eq_of_lt c0 c1]
    generalize cfold l (numI l c) ((List.range l.length).reverse.take m) = st at *
    unfold cstep
    refine ⟨by show st.1 / _ = _; rw [i1]; exact hdiv.1, fun j h1 h2 => ?_⟩
    show (st.2.set k (st.1 % l.getD k 0)).getD j 0 = _
    rw [i1, hdiv.2]
    by_cases hjk : k = j
    · subst hjk
      exact getD_set_same _ _ _ _ (by omega)
    · rw [getD_set_other _ _ _ _ _ hjk]
      exact i2 j (by omega) h2
theorem coords_num {l c : List Int} (hc : InT l c) : coordsL l (numI l c) = c := by
  have h := (cfold_num hc l.length (Nat.le_refl _)).2
  rw [List.take_of_length_le (by simp)] at h
  have hlen := cfold_len l (numI l c) (List.range l.length).reverse
  unfold coordsL
  refine List.ext_getElem (by rw [hlen, hc.1]) fun j h1 h2 => ?_
  have := h j (by omega) (by rw [hlen] at h1; exact h1)
  simpa [List.getD, h1, h2] using this
end Go.Proofs.YtbhkenphcahifaaGreat
namespace Go.Proofs.YtbhkenphcahifaaGreat
open Go.RowKit Go.Shelf
set_option maxRecDepth 100000
set_option maxHeartbeats 4000000
theorem lvl_div {ww wd : Int} (l : Nat) (h0 : 0 ≤ wd) (h1 : wd < ww) : ((l : Int) * ww + wd) / ww = l := by
  rw [Int.add_comm, Int.add_mul_ediv_right _ _ (by omega), Int.ediv_eq_zero_of_lt h0 h1, Int.zero_add]
end Go.Proofs.YtbhkenphcahifaaGreat
namespace Go.Proofs.YtbhkenphcahifaaGreat
open Go.RowKit Go.Shelf
set_option maxRecDepth 100000
set_option maxHeartbeats 4000000
/-- is the sum of the first coordinates even -/
def evenB (c : List Int) : Nat → Bool
  | 0 => true
  | i + 1 => (evenB c i == (c.getD i 0 % 2 == 0))
/-- a coordinate, counted in its direction -/
def dgI (l c : List Int) (i : Nat) : Int := if evenB c i = true then c.getD i 0 else l.getD i 0 - 1 - c.getD i 0
/-- the place of a switch in the snake -/
def rkS (l c : List Int) : Nat → Int
  | 0 => 0
  | k + 1 => rkS l c k * l.getD k 0 + dgI l c k
theorem dg_in {l c : List Int} (hc : InT l c) {i : Nat} (hi : i < l.length) : 0 ≤ dgI l c i ∧ dgI l c i < l.getD i 0 := by
  obtain ⟨h0, h1⟩ := hc.2 i hi
  unfold dgI
  split <;> omega
/-- the last dimension that can be changed; the others behind it stand at their ends -/
def AtEnd (l c : List Int) (i : Nat) : Prop := ∀ j, i < j → j < l.length → dgI l c j = l.getD j 0 - 1
/-- the next coordinates -/
def nextC (c : List Int) (i : Nat) : List Int := c.set i (c.getD i 0 + (if evenB c i = true then 1 else -1))
theorem even_set_le {c : List Int} {i : Nat} {v : Int} : ∀ j, j ≤ i → evenB (c.set i v) j = evenB c j
  | 0, _ => rfl
  | j + 1, h => by
    rw [evenB, evenB, even_set_le j (by omega), getD_set_other _ _ _ _ _ (by omega)]
theorem par_flip {v z : Int} (h : v = z + 1 ∨ v = z - 1) : (v % 2 == 0) = !(z % 2 == 0) := by
  by_cases h2 : z % 2 = 0
  · have h3 : v % 2 ≠ 0 := by omega
    simp [h2, h3]
  · have h3 : v % 2 = 0 := by omega
    simp [h2, h3]
theorem even_set_gt {c : List Int} {i : Nat} (hi : i < c.length) {v : Int} (hv : v = c.getD i 0 + 1 ∨ v = c.getD i 0 - 1) : ∀ j, i < j → evenB (c.set i v) j = !(evenB c j)
  | 0, h => by omega
  | j + 1, h => by
    rw [evenB, evenB]
    by_cases hij : i = j
    · subst hij
      rw [even_set_le i (Nat.le_refl _), getD_set_same _ _ _ _ hi]
      have := par_flip hv
      rw [this]
      cases evenB c i <;> cases (c.getD i 0 % 2 == 0) <;> rfl
    · rw [even_set_gt hi hv j (by omega), getD_set_other _ _ _ _ _ hij]
      cases evenB c j <;> cases (c.getD j 0 % 2 == 0) <;> rfl
/-- a step along the snake leads one place further -/
theorem rk_next {l c : List Int} (hc : InT l c) {i : Nat} (hi : i < l.length) (hd : dgI l c i < l.getD i 0 - 1) (he : AtEnd l c i) :
    InT l (nextC c i) ∧ rkS l (nextC c i) l.length = rkS l c l.length + 1 := by
  have hcl : i < c.length := by rw [hc.1]; exact hi
  obtain ⟨c0, c1⟩ := hc.2 i hi
  have hv : (c.getD i 0 + (if evenB c i = true then 1 else -1)) = c.getD i 0 + 1 ∨ (c.getD i 0 + (if evenB c i = true then 1 else -1)) = c.getD i 0 - 1 := by
    split
    · exact .inl rfl
    · exact .inr (by omega)
  have hin : 0 ≤ c.getD i 0 + (if evenB c i = true then 1 else -1) ∧ c.getD i 0 + (if evenB c i = true then 1 else -1) < l.getD i 0 := by
    unfold dgI at hd
    by_cases h : evenB c i = true
    · rw [if_pos h] at hd ⊢; omega
    · rw [if_neg h] at hd ⊢; omega
  refine ⟨hc.set hi hin.1 hin.2, ?_⟩
  have dlt : ∀ j, j < i → dgI l (nextC c i) j = dgI l c j := fun j hj => by
    unfold dgI nextC
    rw [even_set_le j (by omega), getD_set_other _ _ _ _ _ (by omega)]
  have deq : dgI l (nextC c i) i = dgI l c i + 1 := by
    unfold dgI nextC
    rw [even_set_le i (Nat.le_refl _), getD_set_same _ _ _ _ hcl]
    by_cases h : evenB c i = true
    · rw [if_pos h, if_pos h, if_pos h]
    · rw [if_neg h, if_neg h, if_neg h]; omega
  have dgt : ∀ j, i < j → j < l.length → dgI l (nextC c i) j = 0 := fun j hj hl => by
    have h1 := he j hj hl
    unfold dgI at h1
    unfold dgI nextC
    rw [even_set_gt hcl hv j hj, getD_set_other _ _ _ _ _ (by omega)]
    by_cases h : evenB c j = true
    · rw [if_pos h] at h1
      rw [if_neg (by rw [h]; decide)]; omega
    · have h2 : evenB c j = false := by simpa using h
      rw [if_neg h] at h1
      rw [if_pos (by rw [h2]; rfl)]; omega
  have low : ∀ k, k ≤ i → rkS l (nextC c i) k = rkS l c k := fun k => by
    induction k with
    | zero => intro _; rfl
    | succ k ih => intro hk; rw [rkS, rkS, ih (by omega), dlt k (by omega)]
  have high : ∀ m, i + 1 + m ≤ l.length → rkS l (nextC c i) (i + 1 + m) = rkS l c (i + 1 + m) + 1 := fun m => by
    induction m with
    | zero => intro _; rw [Nat.add_zero, rkS, rkS, low i (Nat.le_refl _), deq]; omega
    | succ m ih =>
      intro hm
      rw [← Nat.add_assoc, rkS, rkS, ih (by omega), dgt (i + 1 + m) (by omega) (by omega), he (i + 1 + m) (by omega) (by omega), Int.add_mul]
      omega
  have := high (l.length - (i + 1)) (by omega)
  rwa [show i + 1 + (l.length - (i + 1)) = l.length by omega] at this
/-- as long as not all dimensions stand at their ends, some dimension can be changed -/
theorem rk_bound {l c : List Int} (hc : InT l c) : ∀ k, k ≤ l.length → 0 ≤ rkS l c k ∧ rkS l c k + 1 ≤ prodI (l.take k) := by
  intro k
  induction k with
  | zero => intro _; exact ⟨Int.le_refl _, by simp [rkS, prodI]⟩
  | succ k ih =>
    intro hk
    obtain ⟨i1, i2⟩ := ih (by omega)
    obtain ⟨d0, d1⟩ := dg_in hc (show k < l.length by omega)
    rw [List.take_succ_eq_append_getElem (by omega), prodI_snoc, rkS]
    rw [show l[k] = l.getD k 0 by simp [List.getD, show k < l.length by omega]]
    have h0 : 0 ≤ rkS l c k * l.getD k 0 := Int.mul_nonneg i1 (by omega)
    have h1 : (rkS l c k + 1) * l.getD k 0 ≤ prodI (l.take k) * l.getD k 0 := Int.mul_le_mul_of_nonneg_right i2 (by omega)
    rw [Int.add_mul] at h1
    omega
/-- at the last place all stand at their ends -/
theorem rk_last {l c : List Int} (h : AtEnd l c 0 ∧ (0 < l.length → dgI l c 0 = l.getD 0 0 - 1)) : rkS l c l.length + 1 = prodI l := by
  have key : ∀ k, k ≤ l.length → rkS l c k + 1 = prodI (l.take k) := by
    intro k
    induction k with
    | zero => intro _; simp [rkS, prodI]
    | succ k ih =>
      intro hk
      have hd : dgI l c k = l.getD k 0 - 1 := by
        cases k with
        | zero => exact h.2 (by omega)
        | succ k => exact h.1 (k + 1) (by omega) (by omega)
      rw [List.take_succ_eq_append_getElem (by omega), prodI_snoc, rkS, hd, ← ih (by omega)]
      rw [show l[k] = l.getD k 0 by simp [List.getD, show k < l.length by omega], Int.add_mul]
      omega
  have := key l.length (Nat.le_refl _)
  rwa [List.take_length] at this
end Go.Proofs.YtbhkenphcahifaaGreat
namespace Go.Proofs.YtbhkenphcahifaaGreat
open Go.RowKit Go.Shelf
attribute [local go_sem] Oper.semAt_some
set_option maxRecDepth 100000
set_option maxHeartbeats 4000000
def boolA (l : List Bool) : Array Value := (l.map Value.bool).toArray
def BAt (w : World) (b : Nat) (l : List Bool) : Prop := w.heap[b]? = some (.cells (boolA l) 4 (0, 0))
theorem BAt.lt {w : World} {b : Nat} {l : List Bool} (h : BAt w b l) : b < w.heap.size := (Array.getElem?_eq_some_iff.1 h).1
theorem BAt.cell {w : World} {b : Nat} {l : List Bool} (h : BAt w b l) (j : Nat) (hj : j < l.length) : w.cell? ⟨b, j, none⟩ = some (.bool (l.getD j true)) := by
  rw [cell_of_row w b j _ _ _ h]; simp [boolA, List.getD, hj]
theorem BAt.open_ {w : World} {b : Nat} {l : List Bool} (h : BAt w b l) (j : Nat) : w.frozen? ⟨b, j, none⟩ = false := frozen_of_row w b j _ _ h
theorem BAt.set {w : World} {b : Nat} {l : List Bool} (h : BAt w b l) (x : Nat) (v : Bool) : BAt (w.setCell ⟨b, x, none⟩ (.bool v)) b (l.set x v) := by
  unfold BAt
  rw [setCell_eq_setRow w b x _ _ _ _ h, setRow_heap w b _ _ _ _ h]
  congr 2
  simp [boolA, List.map_set]
theorem Tryz.info4 : (Tryz.prog.info? 4).map (fun i => (i.zero, i.size, i.bytes)) = some (some (.bool false), 1, 1) := by kernel_rfl
theorem make_bools (n : Nat) (hn : n ≤ 17592186044416) (w : World) : (Instr.makeSlice 49 (.int .i64 n) (.int .i64 n)).run Tryz.prog w = .ok (.slice (some ⟨w.heap.size, 0, none⟩) n n) (w.alloc (.cells (boolA (List.replicate n false)) 4)) := by
  obtain ⟨i0, hi, hz0, hz1, hz2⟩ := info_parts Tryz.info4
  have := run_make (P := Tryz.prog) w 49 4 i0 (.bool false) Tryz.underlying49 hi hz0 .i64 .i64 n n (by omega) (Int.le_refl _) (by rw [hz2]; omega) (by omega)
  rw [this, hz1]
  simp only [Int.toNat_natCast, Nat.mul_one]
  congr 3
  unfold boolA madeCells
  apply Array.ext
  · simp
  · intro i h1 h2
    simp [Value.cells, Nat.mod_one]
end Go.Proofs.YtbhkenphcahifaaGreat
namespace Go.Proofs.YtbhkenphcahifaaGreat
open Go.RowKit Go.Shelf
attribute [local go_sem] Oper.semAt_some
set_option maxRecDepth 100000
set_option maxHeartbeats 4000000
theorem ints_rowA (w : World) (L : List Int) (hl : L.length ≤ 1000) : Ints (w.alloc (.cells (rowA L) 3)) (some ⟨w.heap.size, 0, none⟩) L := RowAt.ints (heap_alloc_new w _) (by omega)
theorem x_size : szI 2 [2, 3] 2 = 12 ∧ hsI 2 [2, 3] 2 = 8 ∧ errI 2 [2, 3] 2 = 0 := by decide
theorem x_place : plaE 1 [3, 4] 1 7 = 0 ∧ placeL 1 [3, 4] 7 = [1, 3] := by decide
theorem x_r1 : rteE 1 [3, 4] 1 0 7 = 0 ∧ rteL 1 [3, 4] 1 0 7 = [0, 4, 7] ∧ rteC 1 [3, 4] 1 0 7 = [0, 1] := by decide
theorem x_r2 : rteE 2 [2, 3] 2 0 3 = 0 ∧ rteL 2 [2, 3] 2 0 3 = [0, 5, 11, 7, 3] ∧ rteC 2 [2, 3] 2 0 3 = [0, 0, 0, 0] := by decide
theorem x_r3 : rteE 3 [2, 1] 1 1 2 = 0 ∧ rteL 3 [2, 1] 1 1 2 = [1, 0, 3, 2] ∧ rteC 3 [2, 1] 1 1 2 = [0, 0, 1] := by decide
theorem x_route {w : World} {g : Nat} {k hosts x y : Int} {l P C : List Int} (h : Ints w (some ⟨g, 0, none⟩) l) (hE : rteE k l hosts x y = 0 ∧ rteL k l hosts x y = P ∧ rteC k l hosts x y = C) (hp : P.length ≤ 1000) (hc : C.length ≤ 1000) :
    Calls Tryz.prog 45 #[.agg #[.int .i64 k, .slice (some ⟨g, 0, none⟩) l.length 2, .int .i64 hosts], .int .i64 x, .int .i64 y, .slice (some ⟨w.heap.size, 0, none⟩) P.length P.length, .slice (some ⟨w.heap.size + 1, 0, none⟩) C.length C.length] ((w.alloc (.cells (rowA P) 3)).alloc (.cells (rowA C) 3)) fun e w' => e = .returned (.bool true) ∧ Below w.heap.size w w' := by
  have h1 := ints_rowA w P hp
  have h2 := ints_rowA (w.alloc (.cells (rowA P) 3)) C hc
  have hb1 : Below w.heap.size w (w.alloc (.cells (rowA P) 3)) := (Below.refl _ _).alloc (Nat.le_refl _) _
  have hb2 : Below (w.alloc (.cells (rowA P) 3)).heap.size (w.alloc (.cells (rowA P) 3)) ((w.alloc (.cells (rowA P) 3)).alloc (.cells (rowA C) 3)) := (Below.refl _ _).alloc (Nat.le_refl _) _
  have hz : (w.alloc (.cells (rowA P) 3)).heap.size = w.heap.size + 1 := by simp
  have hb := hb1.trans (hb2.mono (by rw [hz]; omega))
  rw [hz] at h2
  refine (routes_any (h.keep hb) (h1.keep hb2) h2 2 P.length C.length k hosts x y hE.1 hE.2.1 hE.2.2).mono ?_
  rintro e w' ⟨h5, h6⟩
  exact ⟨h5, hb.trans (h6.mono (by simp; omega))⟩
theorem works_any (w : World) : Calls Tryz.prog 9 #[] w fun e w' => e = .returned (.bool true) ∧ Below w.heap.size w w' := by
  go_enter Tryz.func9, Tryz.ntmps9
  go_wp2_with fail
  refine (tree_spec _).mono ?_
  rintro e w1 ⟨g, rfl, hi, hb⟩
  have HB := Lib.hid hb
  have H11 : Hid (Calls Tryz.prog 41 #[.agg #[.int .i64 2, .slice (some ⟨g, 0, none⟩) 2 2, .int .i64 2]] w1 fun e w' => e = .returned (.tuple #[.int .i64 12, .int .i64 8, .int .i64 0]) ∧ Below w1.heap.size w1 w') := by
    have := Size_any hi 2 2 2
    rw [x_size.1, x_size.2.1, x_size.2.2] at this
    exact this
  clear hi hb
  go_wp2_with fail
  refine H11.out.mono ?_
  rintro e w2 ⟨rfl, hb⟩
  replace HB := Lib.hid (HB.out.trans (hb.mono HB.out.size))
  clear H11 hb
  go_wp2_with fail
  refine (torus_spec _).mono ?_
  rintro e w3 ⟨g2, rfl, hi, hb⟩
  replace HB := Lib.hid (HB.out.trans (hb.mono HB.out.size))
  have H18 : Hid (Calls Tryz.prog 43 #[.agg #[.int .i64 1, .slice (some ⟨g2, 0, none⟩) 2 2, .int .i64 1], .int .i64 7] w3 fun e w' => (∃ a c, e = .returned (.tuple #[.slice a 2 c, .int .i64 0]) ∧ Ints w' a [1, 3]) ∧ Below w3.heap.size w3 w') := by
    refine (Place_any hi 2 1 1 7).mono ?_
    rintro e w' ⟨hb', hpl⟩
    obtain ⟨a, c, he, hii⟩ := place_is (by decide) hpl
    rw [if_pos x_place.1, x_place.2] at he hii
    rw [x_place.1] at he
    exact ⟨⟨a, c, he, hii⟩, hb'⟩
  clear hi hb
  go_wp2_with fail
  refine H18.out.mono ?_
  rintro e w4 ⟨⟨a, c, rfl, hp⟩, hb⟩
  replace HB := Lib.hid (HB.out.trans (hb.mono HB.out.size))
  have h9 := ints_rowA w4 [1, 3] (by decide)
  have hb9 : Below w4.heap.size w4 (w4.alloc (.cells (rowA [1, 3]) 3)) := (Below.refl _ _).alloc (Nat.le_refl _) _
  rw [rowA2] at h9 hb9
  have HQ : Hid (Calls Tryz.prog 15 #[.slice a 2 c, .slice (some ⟨w4.heap.size, 0, none⟩) 2 2] (w4.alloc (.cells #[.int .i64 1, .int .i64 3] 3)) fun e w' => e = .returned (.bool true) ∧ Below w4.heap.size w4 w') := by
    refine (equal_any (hp.keep hb9) h9 c 2).mono ?_
    rintro e w' ⟨h1, h2⟩
    rw [decide_eq_true rfl] at h1
    exact ⟨h1, hb9.trans (h2.mono (by simp))⟩
  clear H18 hb hp h9 hb9
  go_wp2_with fail
  refine HQ.out.mono ?_
  rintro e w6 ⟨rfl, hb⟩
  replace HB := Lib.hid (HB.out.trans (hb.mono HB.out.size))
  clear HQ hb
  go_wp2_with fail
  refine (torus_spec _).mono ?_
  rintro e w5 ⟨g, rfl, hi, hb⟩
  have HX : Hid (Calls Tryz.prog 45 #[.agg #[.int .i64 1, .slice (some ⟨g, 0, none⟩) 2 2, .int .i64 1], .int .i64 0, .int .i64 7, .slice (some ⟨w5.heap.size, 0, none⟩) 3 3, .slice (some ⟨w5.heap.size + 1, 0, none⟩) 2 2] ((w5.alloc (.cells #[.int .i64 0, .int .i64 4, .int .i64 7] 3)).alloc (.cells #[.int .i64 0, .int .i64 1] 3)) fun e w' => e = .returned (.bool true) ∧ Below w5.heap.size w5 w') := by
    have hx := x_route hi x_r1 (by decide) (by decide)
    rw [show rowA [0, 4, 7] = #[.int .i64 0, .int .i64 4, .int .i64 7] by unfold rowA; rfl, show rowA [0, 1] = #[.int .i64 0, .int .i64 1] by unfold rowA; rfl] at hx
    exact hx
  replace HB := Lib.hid (HB.out.trans (hb.mono HB.out.size))
  clear hi hb
  go_wp2_with fail
  refine HX.out.mono ?_
  rintro e w6 ⟨rfl, hb⟩
  replace HB := Lib.hid (HB.out.trans (hb.mono HB.out.size))
  clear HX hb
  obtain ⟨w7, rfl⟩ : ∃ w7, w7 = w6 := ⟨_, rfl⟩
  go_wp2_with fail
  refine (tree_spec _).mono ?_
  rintro e w5 ⟨g, rfl, hi, hb⟩
  have HX : Hid (Calls Tryz.prog 45 #[.agg #[.int .i64 2, .slice (some ⟨g, 0, none⟩) 2 2, .int .i64 2], .int .i64 0, .int .i64 3, .slice (some ⟨w5.heap.size, 0, none⟩) 5 5, .slice (some ⟨w5.heap.size + 1, 0, none⟩) 4 4] ((w5.alloc (.cells #[.int .i64 0, .int .i64 5, .int .i64 11, .int .i64 7, .int .i64 3] 3)).alloc (.cells #[.int .i64 0, .int .i64 0, .int .i64 0, .int .i64 0] 3)) fun e w' => e = .returned (.bool true) ∧ Below w5.heap.size w5 w') := by
    have hx := x_route hi x_r2 (by decide) (by decide)
    rw [show rowA [0, 5, 11, 7, 3] = #[.int .i64 0, .int .i64 5, .int .i64 11, .int .i64 7, .int .i64 3] by unfold rowA; rfl, show rowA [0, 0, 0, 0] = #[.int .i64 0, .int .i64 0, .int .i64 0, .int .i64 0] by unfold rowA; rfl] at hx
    exact hx
  replace HB := Lib.hid (HB.out.trans (hb.mono HB.out.size))
  clear hi hb
  go_wp2_with fail
  refine HX.out.mono ?_
  rintro e w6 ⟨rfl, hb⟩
  replace HB := Lib.hid (HB.out.trans (hb.mono HB.out.size))
  clear HX hb
  obtain ⟨w7, rfl⟩ : ∃ w7, w7 = w6 := ⟨_, rfl⟩
  go_wp2_with fail
  refine (dragon_spec _).mono ?_
  rintro e w5 ⟨g, rfl, hi, hb⟩
  have HX : Hid (Calls Tryz.prog 45 #[.agg #[.int .i64 3, .slice (some ⟨g, 0, none⟩) 2 2, .int .i64 1], .int .i64 1, .int .i64 2, .slice (some ⟨w5.heap.size, 0, none⟩) 4 4, .slice (some ⟨w5.heap.size + 1, 0, none⟩) 3 3] ((w5.alloc (.cells #[.int .i64 1, .int .i64 0, .int .i64 3, .int .i64 2] 3)).alloc (.cells #[.int .i64 0, .int .i64 0, .int .i64 1] 3)) fun e w' => e = .returned (.bool true) ∧ Below w5.heap.size w5 w') := by
    have hx := x_route hi x_r3 (by decide) (by decide)
    rw [show rowA [1, 0, 3, 2] = #[.int .i64 1, .int .i64 0, .int .i64 3, .int .i64 2] by unfold rowA; rfl, show rowA [0, 0, 1] = #[.int .i64 0, .int .i64 0, .int .i64 1] by unfold rowA; rfl] at hx
    exact hx
  replace HB := Lib.hid (HB.out.trans (hb.mono HB.out.size))
  clear hi hb
  go_wp2_with fail
  refine HX.out.mono ?_
  rintro e w6 ⟨rfl, hb⟩
  replace HB := Lib.hid (HB.out.trans (hb.mono HB.out.size))
  clear HX hb
  obtain ⟨w7, rfl⟩ : ∃ w7, w7 = w6 := ⟨_, rfl⟩
  go_wp2_with fail
  go_ret
  exact ⟨rfl, HB.out⟩
end Go.Proofs.YtbhkenphcahifaaGreat
namespace Go.Proofs.YtbhkenphcahifaaGreat
open Go.RowKit Go.Shelf
attribute [local go_sem] Oper.semAt_some
set_option maxRecDepth 100000
set_option maxHeartbeats 4000000
def ascI (n k : Nat) : List Int := (List.range n).map fun j => if j < k then (j : Int) else 0
theorem asc_zero (n : Nat) : ascI n 0 = List.replicate n 0 := by
  unfold ascI
  refine List.ext_getElem (by simp) fun i h1 h2 => by simp
theorem asc_len (n k : Nat) : (ascI n k).length = n := by simp [ascI]
theorem asc_set (n k : Nat) : (ascI n k).set k (k : Int) = ascI n (k + 1) := by
  unfold ascI
  refine List.ext_getElem (by simp) fun i h1 h2 => ?_
  simp only [List.getElem_set, List.getElem_map, List.getElem_range]
  by_cases h : k = i
  · subst h; simp
  · rw [if_neg h]
    by_cases h3 : i < k
    · rw [if_pos h3, if_pos (by omega)]
    · rw [if_neg h3, if_neg (by omega)]
theorem ascending_any (n : Nat) (hn : n ≤ 1000000) (w : World) : Calls Tryz.prog 194 #[.int .i64 (n : Int)] w fun e w' => ∃ v, e = .returned v ∧ NewInts w.heap.size w' v (ascI n n) ∧ Below w.heap.size w w' := by
  have hmk := make_ints n (by omega)
  have hba : RowAt (w.alloc (.cells (rowA (List.replicate n 0)) 3)) w.heap.size (List.replicate n 0) := heap_alloc_new w _
  rw [← asc_zero] at hba hmk
  have H0 : Hid (RowAt (w.alloc (.cells (rowA (ascI n 0)) 3)) w.heap.size (ascI n 0) ∧ Below w.heap.size w (w.alloc (.cells (rowA (ascI n 0)) 3))) := ⟨hba, (Below.refl _ _).alloc (Nat.le_refl _) _⟩
  obtain ⟨g, hg⟩ : ∃ g, g = w.heap.size := ⟨_, rfl⟩
  have HG := Lib.hid hg
  clear hba
  go_enter Tryz.func194, Tryz.ntmps194
  go_wp2_with fail
  rw [← hg] at H0 ⊢
  clear hmk hg
  generalize w.alloc (.cells (rowA (ascI n 0)) 3) = X at *
  go_loopw [9] (fun iv wr => ∃ (k : Nat), k ≤ n ∧ iv = .int .i64 (k : Int) ∧ Hid (RowAt wr g (ascI n k) ∧ Below g w wr)) (fun iv _ => n - (intOf iv).toNat)
  case atStart => exact ⟨0, Nat.zero_le _, rfl, H0⟩
  case round =>
    clear H0
    obtain ⟨k, hk, rfl, HI⟩ := hrel
    by_cases hlt : k < n
    · have e0 := HI.out.1.cell k (by rw [asc_len]; exact hlt)
      have o0 := HI.out.1.open_ k
      have l0 := HI.out.1.lt
      have HN : Hid (RowAt (wr.setCell ⟨g, k, none⟩ (.int .i64 (k : Int))) g (ascI n (k + 1)) ∧ Below g w (wr.setCell ⟨g, k, none⟩ (.int .i64 (k : Int)))) := ⟨by rw [← asc_set]; exact HI.out.1.set k _, HI.out.2.setCell (p := ⟨g, k, none⟩) (Nat.le_refl _) _⟩
      generalize (ascI n k)[k]'(by rw [asc_len]; exact hlt) = old at *
      have hji : (k : Int) < (n : Int) := by omega
      clear HI
      go_wp2_with fail
      go_roundw
      case rel => exact ⟨k + 1, by omega, by go_num, HN⟩
      case measure => simp [intOf]; omega
    · have hkn : k = n := by omega
      have HR : Hid (NewInts w.heap.size wr (.slice (some ⟨g, 0, none⟩) n n) (ascI n n) ∧ Below w.heap.size w wr) := by
        have h1 := HI.out.1
        rw [hkn] at h1
        have h2 := h1.own (B := w.heap.size) (by rw [HG.out]; exact Nat.le_refl _) (by rw [asc_len]; omega)
        rw [asc_len] at h2
        exact ⟨h2, HG.out ▸ HI.out.2⟩
      clear HI hkn
      go_wp2_with fail
      go_ret
      exact ⟨_, rfl, HR.out.1, HR.out.2⟩
end Go.Proofs.YtbhkenphcahifaaGreat
namespace Go.Proofs.YtbhkenphcahifaaGreat
open Go.RowKit Go.Shelf
attribute [local go_sem] Oper.semAt_some
set_option maxRecDepth 100000
set_option maxHeartbeats 4000000
theorem own_lower7 {w : World} {lo lo' e k n : Nat} {v : Value} {xs : List Value} (h : w.ownsRow lo e k v n xs) (hl : lo' ≤ lo) : w.ownsRow lo' e k v n xs := by
  refine ⟨h.1, ?_⟩
  rcases h.2 with h2 | ⟨g, cap, cur, h1, h3, h4⟩
  · exact .inl h2
  · exact .inr ⟨g, cap, cur, h1, Nat.le_trans hl h3, h4⟩
theorem m_snake1 (sa : Option Addr) (n sc : Nat) (m : Int) (w : World) : (method 330 138 (.agg #[.slice sa n sc, .int .i64 m]) "armada/net.snake").run Tryz.prog w = .ok (145, .agg #[.slice sa n sc, .int .i64 m]) w := by kernel_rfl
theorem m_snake2 (a b c : Int) (w : World) : (method 330 142 (.agg #[.int .i64 a, .int .i64 b, .int .i64 c]) "armada/net.snake").run Tryz.prog w = .ok (186, .agg #[.int .i64 a, .int .i64 b, .int .i64 c]) w := by kernel_rfl
theorem m_snake3 (a b c : Int) (w : World) : (method 330 146 (.agg #[.int .i64 a, .int .i64 b, .int .i64 c]) "armada/net.snake").run Tryz.prog w = .ok (200, .agg #[.int .i64 a, .int .i64 b, .int .i64 c]) w := by kernel_rfl
theorem treeSnake_any (a b : Int) (n : Nat) (hn : n ≤ 1000000) (w : World) : Calls Tryz.prog 186 #[.agg #[.int .i64 a, .int .i64 b, .int .i64 (n : Int)]] w fun e w' => ∃ v, e = .returned v ∧ NewInts w.heap.size w' v (ascI n n) ∧ Below w.heap.size w w' := by
  have HB := Lib.hid ((Below.refl w.heap.size w).alloc (Nat.le_refl _) (.cells #[.int .i64 a, .int .i64 b, .int .i64 (n : Int)] 142))
  have q0 := heap_alloc_new w (.cells #[.int .i64 a, .int .i64 b, .int .i64 (n : Int)] 142)
  have c2 := cellR 2 q0 rfl
  have HA := Lib.hid (fun W => ascending_any n hn W)
  have hsz : w.heap.size ≤ (w.alloc (.cells #[.int .i64 a, .int .i64 b, .int .i64 (n : Int)] 142)).heap.size := by simp
  clear q0
  go_enter Tryz.func186, Tryz.ntmps186
  go_wp2_with fail
  generalize w.alloc (.cells #[.int .i64 a, .int .i64 b, .int .i64 (n : Int)] 142) = X at *
  refine (HA.out _).mono ?_
  rintro e w1 ⟨v, rfl, hv, hb⟩
  have HR : Hid (NewInts w.heap.size w1 v (ascI n n) ∧ Below w.heap.size w w1) := ⟨⟨own_lower7 hv.own hsz, hv.len⟩, HB.out.trans (hb.mono hsz)⟩
  clear HA hv hb c2 HB
  go_wp2_with fail
  go_ret
  exact ⟨_, rfl, HR.out.1, HR.out.2⟩
theorem dragSnake_any (a b c : Int) (n : Nat) (hn : n ≤ 1000000) (hac : a * c = (n : Int)) (w : World) : Calls Tryz.prog 200 #[.agg #[.int .i64 a, .int .i64 b, .int .i64 c]] w fun e w' => ∃ v, e = .returned v ∧ NewInts w.heap.size w' v (ascI n n) ∧ Below w.heap.size w w' := by
  have HB := Lib.hid ((Below.refl w.heap.size w).alloc (Nat.le_refl _) (.cells #[.int .i64 a, .int .i64 b, .int .i64 c] 146))
  have q0 := heap_alloc_new w (.cells #[.int .i64 a, .int .i64 b, .int .i64 c] 146)
  have c0 := cellR 0 q0 rfl
  have c2 := cellR 2 q0 rfl
  have HA := Lib.hid (fun W => ascending_any n hn W)
  have hw : wrap64 (a * c) = (n : Int) := by rw [hac]; exact wrap_small _ (by omega) (by omega)
  have hsz : w.heap.size ≤ (w.alloc (.cells #[.int .i64 a, .int .i64 b, .int .i64 c] 146)).heap.size := by simp
  clear q0 hac
  go_enter Tryz.func200, Tryz.ntmps200
  go_wp2_with fail
  generalize w.alloc (.cells #[.int .i64 a, .int .i64 b, .int .i64 c] 146) = X at *
  refine (HA.out _).mono ?_
  rintro e w1 ⟨v, rfl, hv, hb⟩
  have HR : Hid (NewInts w.heap.size w1 v (ascI n n) ∧ Below w.heap.size w w1) := ⟨⟨own_lower7 hv.own hsz, hv.len⟩, HB.out.trans (hb.mono hsz)⟩
  clear HA hv hb c0 c2 HB hw
  go_wp2_with fail
  go_ret
  exact ⟨_, rfl, HR.out.1, HR.out.2⟩
/-- Snake over any maker of the kind's snake -/
theorem Snake1_any {w : World} {sa : Option Addr} {l : List Int} (h : Ints w sa l) (sc : Nat) (hosts : Int) (hv : vOk 1 l hosts) {L : List Int}
    (hS : ∀ W, Below w.heap.size w W → Calls Tryz.prog 145 #[.agg #[.slice sa l.length sc, .int .i64 (prodI l)]] W fun e w' => ∃ v, e = .returned v ∧ NewInts W.heap.size w' v L ∧ Below W.heap.size W w') :
    Calls Tryz.prog 20 #[.agg #[.int .i64 1, .slice sa l.length sc, .int .i64 hosts]] w fun e w' => ∃ v, e = .returned (.tuple #[v, .int .i64 0]) ∧ NewInts w.heap.size w' v L ∧ Below w.heap.size w w' := by
  have HO : Hid (∀ W, Below w.heap.size w W → Calls Tryz.prog 47 #[.agg #[.int .i64 1, .slice sa l.length sc, .int .i64 hosts]] W fun e w' => Below W.heap.size W w' ∧ ((vOk 1 l hosts ∧ e = .returned (.tuple #[netV 1 sa sc l, .int .i64 0])) ∨ (¬ vOk 1 l hosts ∧ e = .returned (.tuple #[.nilIface, .int .i64 2])))) := fun W hb => networkOf_any (h.keep hb) sc 1 hosts
  have HSS := Lib.hid hS
  have hm := m_snake1 sa l.length sc (prodI l)
  have HNV : Hid (netV 1 sa sc l = .iface 138 (.agg #[.slice sa l.length sc, .int .i64 (prodI l)])) := rfl
  have HB := Lib.hid ((Below.refl w.heap.size w).alloc (Nat.le_refl _) (.cells #[.int .i64 1, .slice sa l.length sc, .int .i64 hosts] 24))
  have q0 := heap_alloc_new w (.cells #[.int .i64 1, .slice sa l.length sc, .int .i64 hosts] 24)
  have c0 := cellR 0 q0 rfl
  have c1 := cellR 1 q0 rfl
  have c2 := cellR 2 q0 rfl
  clear h q0 hS
  go_enter Tryz.func20, Tryz.ntmps20
  go_wp2_with fail
  generalize w.alloc (.cells #[.int .i64 1, .slice sa l.length sc, .int .i64 hosts] 24) = X at *
  refine (HO.out _ HB.out).mono ?_
  rintro e w1 ⟨hb1, ⟨hn, rfl⟩ | ⟨hn, rfl⟩⟩
  · have HB1 := Lib.hid (HB.out.trans (hb1.mono HB.out.size))
    rw [HNV.out]
    have HS1 := Lib.hid (HSS.out _ HB1.out)
    clear c0 c1 c2 HB hb1 HO hn HNV HSS
    go_wp2_with fail
    refine HS1.out.mono ?_
    rintro e w2 ⟨v, rfl, hv2, hb2⟩
    have HR : Hid (NewInts w.heap.size w2 v L ∧ Below w.heap.size w w2) := ⟨⟨own_lower7 hv2.own HB1.out.size, hv2.len⟩, HB1.out.trans (hb2.mono HB1.out.size)⟩
    clear HS1 hv2 hb2 HB1
    go_wp2_with fail
    exact bodyPost_ret (v := .tuple #[v, .int .i64 0]) (by simp [results, Tryz.results20]) rfl ⟨v, rfl, HR.out.1, HR.out.2⟩
  · exact absurd hv hn
theorem Snake2_any {w : World} {sa : Option Addr} {l : List Int} (h : Ints w sa l) (sc : Nat) (hosts : Int) (hv : vOk 2 l hosts) {L : List Int}
    (hS : ∀ W, Below w.heap.size w W → Calls Tryz.prog 186 #[.agg #[.int .i64 (l.getD 0 0), .int .i64 (l.getD 1 0), .int .i64 (wordsI l)]] W fun e w' => ∃ v, e = .returned v ∧ NewInts W.heap.size w' v L ∧ Below W.heap.size W w') :
    Calls Tryz.prog 20 #[.agg #[.int .i64 2, .slice sa l.length sc, .int .i64 hosts]] w fun e w' => ∃ v, e = .returned (.tuple #[v, .int .i64 0]) ∧ NewInts w.heap.size w' v L ∧ Below w.heap.size w w' := by
  have HO : Hid (∀ W, Below w.heap.size w W → Calls Tryz.prog 47 #[.agg #[.int .i64 2, .slice sa l.length sc, .int .i64 hosts]] W fun e w' => Below W.heap.size W w' ∧ ((vOk 2 l hosts ∧ e = .returned (.tuple #[netV 2 sa sc l, .int .i64 0])) ∨ (¬ vOk 2 l hosts ∧ e = .returned (.tuple #[.nilIface, .int .i64 2])))) := fun W hb => networkOf_any (h.keep hb) sc 2 hosts
  have HSS := Lib.hid hS
  have hm := m_snake2 (l.getD 0 0) (l.getD 1 0) (wordsI l)
  have HNV : Hid (netV 2 sa sc l = .iface 142 (.agg #[.int .i64 (l.getD 0 0), .int .i64 (l.getD 1 0), .int .i64 (wordsI l)])) := rfl
  have HB := Lib.hid ((Below.refl w.heap.size w).alloc (Nat.le_refl _) (.cells #[.int .i64 2, .slice sa l.length sc, .int .i64 hosts] 24))
  have q0 := heap_alloc_new w (.cells #[.int .i64 2, .slice sa l.length sc, .int .i64 hosts] 24)
  have c0 := cellR 0 q0 rfl
  have c1 := cellR 1 q0 rfl
  have c2 := cellR 2 q0 rfl
  clear h q0 hS
  go_enter Tryz.func20, Tryz.ntmps20
  go_wp2_with fail
  generalize w.alloc (.cells #[.int .i64 2, .slice sa l.length sc, .int .i64 hosts] 24) = X at *
  refine (HO.out _ HB.out).mono ?_
  rintro e w1 ⟨hb1, ⟨hn, rfl⟩ | ⟨hn, rfl⟩⟩
  · have HB1 := Lib.hid (HB.out.trans (hb1.mono HB.out.size))
    rw [HNV.out]
    have HS1 := Lib.hid (HSS.out _ HB1.out)
    clear c0 c1 c2 HB hb1 HO hn HNV HSS
    go_wp2_with fail
    refine HS1.out.mono ?_
    rintro e w2 ⟨v, rfl, hv2, hb2⟩
    have HR : Hid (NewInts w.heap.size w2 v L ∧ Below w.heap.size w w2) := ⟨⟨own_lower7 hv2.own HB1.out.size, hv2.len⟩, HB1.out.trans (hb2.mono HB1.out.size)⟩
    clear HS1 hv2 hb2 HB1
    go_wp2_with fail
    exact bodyPost_ret (v := .tuple #[v, .int .i64 0]) (by simp [results, Tryz.results20]) rfl ⟨v, rfl, HR.out.1, HR.out.2⟩
  · exact absurd hv hn
theorem Snake3_any {w : World} {sa : Option Addr} {l : List Int} (h : Ints w sa l) (sc : Nat) (hosts : Int) (hv : vOk 3 l hosts) {L : List Int}
    (hS : ∀ W, Below w.heap.size w W → Calls Tryz.prog 200 #[.agg #[.int .i64 (l.getD 0 0), .int .i64 (l.getD 1 0), .int .i64 (l.getD 0 0 * l.getD 1 0 + 1)]] W fun e w' => ∃ v, e = .returned v ∧ NewInts W.heap.size w' v L ∧ Below W.heap.size W w') :
    Calls Tryz.prog 20 #[.agg #[.int .i64 3, .slice sa l.length sc, .int .i64 hosts]] w fun e w' => ∃ v, e = .returned (.tuple #[v, .int .i64 0]) ∧ NewInts w.heap.size w' v L ∧ Below w.heap.size w w' := by
  have HO : Hid (∀ W, Below w.heap.size w W → Calls Tryz.prog 47 #[.agg #[.int .i64 3, .slice sa l.length sc, .int .i64 hosts]] W fun e w' => Below W.heap.size W w' ∧ ((vOk 3 l hosts ∧ e = .returned (.tuple #[netV 3 sa sc l, .int .i64 0])) ∨ (¬ vOk 3 l hosts ∧ e = .returned (.tuple #[.nilIface, .int .i64 2])))) := fun W hb => networkOf_any (h.keep hb) sc 3 hosts
  have HSS := Lib.hid hS
  have hm := m_snake3 (l.getD 0 0) (l.getD 1 0) (l.getD 0 0 * l.getD 1 0 + 1)
  have HNV : Hid (netV 3 sa sc l = .iface 146 (.agg #[.int .i64 (l.getD 0 0), .int .i64 (l.getD 1 0), .int .i64 (l.getD 0 0 * l.getD 1 0 + 1)])) := rfl
  have HB := Lib.hid ((Below.refl w.heap.size w).alloc (Nat.le_refl _) (.cells #[.int .i64 3, .slice sa l.length sc, .int .i64 hosts] 24))
  have q0 := heap_alloc_new w (.cells #[.int .i64 3, .slice sa l.length sc, .int .i64 hosts] 24)
  have c0 := cellR 0 q0 rfl
  have c1 := cellR 1 q0 rfl
  have c2 := cellR 2 q0 rfl
  clear h q0 hS
  go_enter Tryz.func20, Tryz.ntmps20
  go_wp2_with fail
  generalize w.alloc (.cells #[.int .i64 3, .slice sa l.length sc, .int .i64 hosts] 24) = X at *
  refine (HO.out _ HB.out).mono ?_
  rintro e w1 ⟨hb1, ⟨hn, rfl⟩ | ⟨hn, rfl⟩⟩
  · have HB1 := Lib.hid (HB.out.trans (hb1.mono HB.out.size))
    rw [HNV.out]
    have HS1 := Lib.hid (HSS.out _ HB1.out)
    clear c0 c1 c2 HB hb1 HO hn HNV HSS
    go_wp2_with fail
    refine HS1.out.mono ?_
    rintro e w2 ⟨v, rfl, hv2, hb2⟩
    have HR : Hid (NewInts w.heap.size w2 v L ∧ Below w.heap.size w w2) := ⟨⟨own_lower7 hv2.own HB1.out.size, hv2.len⟩, HB1.out.trans (hb2.mono HB1.out.size)⟩
    clear HS1 hv2 hb2 HB1
    go_wp2_with fail
    exact bodyPost_ret (v := .tuple #[v, .int .i64 0]) (by simp [results, Tryz.results20]) rfl ⟨v, rfl, HR.out.1, HR.out.2⟩
  · exact absurd hv hn
end Go.Proofs.YtbhkenphcahifaaGreat
namespace Go.Proofs.YtbhkenphcahifaaGreat
open Go.RowKit Go.Shelf
attribute [local go_sem] Oper.semAt_some
set_option maxRecDepth 100000
set_option maxHeartbeats 4000000
/-- no valid network has more than 256 switches -/
theorem sw_max {kind : Int} {l : List Int} {hosts : Int} (hv : vOk kind l hosts) : swI kind l ≤ 256 := by
  rcases hv with ⟨rfl, h⟩ | ⟨rfl, h⟩ | ⟨rfl, h⟩
  · exact h.2.2.2
  · obtain ⟨_, h1, h2, h3, _⟩ := h
    show l.getD 1 0 * wordsI l ≤ 256
    have hw : wordsI l = (((l.getD 0 0).toNat ^ ((l.getD 1 0).toNat - 1) : Nat) : Int) := rfl
    rw [hw]
    generalize l.getD 0 0 = A at *
    generalize l.getD 1 0 = C at *
    obtain ⟨k, rfl⟩ := Int.eq_ofNat_of_zero_le (show 0 ≤ A by omega)
    obtain ⟨n, rfl⟩ := Int.eq_ofNat_of_zero_le (show 0 ≤ C by omega)
    simp only [Int.toNat_natCast] at h3 ⊢
    have hn : n = 1 ∨ n = 2 ∨ n = 3 ∨ n = 4 := by omega
    have hk : k = 2 ∨ k = 3 ∨ k = 4 ∨ k = 5 ∨ k = 6 ∨ k = 7 ∨ k = 8 := by omega
    rcases hn with rfl | rfl | rfl | rfl <;> rcases hk with rfl | rfl | rfl | rfl | rfl | rfl | rfl <;> first | decide | (exfalso; revert h3; decide)
  · exact h.2.2.2.2
theorem Snake_bad {w : World} {sa : Option Addr} {l : List Int} (h : Ints w sa l) (sc : Nat) (kind hosts : Int) (hv : ¬ vOk kind l hosts) :
    Calls Tryz.prog 20 #[.agg #[.int .i64 kind, .slice sa l.length sc, .int .i64 hosts]] w fun e w' => e = .returned (.tuple #[.slice none 0 0, .int .i64 2]) ∧ Below w.heap.size w w' := by
  have HO : Hid (∀ W, Below w.heap.size w W → Calls Tryz.prog 47 #[.agg #[.int .i64 kind, .slice sa l.length sc, .int .i64 hosts]] W fun e w' => Below W.heap.size W w' ∧ ((vOk kind l hosts ∧ e = .returned (.tuple #[netV kind sa sc l, .int .i64 0])) ∨ (¬ vOk kind l hosts ∧ e = .returned (.tuple #[.nilIface, .int .i64 2])))) := fun W hb => networkOf_any (h.keep hb) sc kind hosts
  have HB := Lib.hid ((Below.refl w.heap.size w).alloc (Nat.le_refl _) (.cells #[.int .i64 kind, .slice sa l.length sc, .int .i64 hosts] 24))
  have q0 := heap_alloc_new w (.cells #[.int .i64 kind, .slice sa l.length sc, .int .i64 hosts] 24)
  have c0 := cellR 0 q0 rfl
  have c1 := cellR 1 q0 rfl
  have c2 := cellR 2 q0 rfl
  clear h q0
  go_enter Tryz.func20, Tryz.ntmps20
  go_wp2_with fail
  generalize w.alloc (.cells #[.int .i64 kind, .slice sa l.length sc, .int .i64 hosts] 24) = X at *
  refine (HO.out _ HB.out).mono ?_
  rintro e w1 ⟨hb1, ⟨hn, rfl⟩ | ⟨hn, rfl⟩⟩
  · exact absurd hn hv
  · have HB1 := Lib.hid (HB.out.trans (hb1.mono HB.out.size))
    clear c0 c1 c2 HB hb1 HO hn
    go_wp2_with fail
    exact bodyPost_ret (v := .tuple #[.slice none 0 0, .int .i64 2]) (by simp [results, Tryz.results20]) rfl ⟨rfl, HB1.out⟩
end Go.Proofs.YtbhkenphcahifaaGreat
namespace Go.Proofs.YtbhkenphcahifaaGreat
open Go.RowKit Go.Shelf
set_option maxRecDepth 100000
set_option maxHeartbeats 4000000
/-- the direction in which a coordinate moves -/
def dirB (c : List Int) (i : Nat) : Int := if evenB c i = true then 1 else -1
theorem dir_within {l c : List Int} (hc : InT l c) {i : Nat} (hi : i < l.length) : (0 ≤ c.getD i 0 + dirB c i ∧ c.getD i 0 + dirB c i ≤ l.getD i 0 - 1) ↔ dgI l c i < l.getD i 0 - 1 := by
  obtain ⟨h0, h1⟩ := hc.2 i hi
  unfold dirB dgI
  split <;> omega
theorem dir_next {c : List Int} {i : Nat} (hi : i < c.length) (j : Nat) : dirB (nextC c i) j = if i < j then - dirB c j else dirB c j := by
  unfold dirB nextC
  by_cases h : i < j
  · have hv : c.getD i 0 + (if evenB c i = true then 1 else -1) = c.getD i 0 + 1 ∨ c.getD i 0 + (if evenB c i = true then 1 else -1) = c.getD i 0 - 1 := by
      split
      · exact .inl rfl
      · exact .inr (by omega)
    rw [if_pos h, even_set_gt hi hv j h]
    cases evenB c j <;> simp
  · rw [if_neg h, even_set_le j (by omega)]
/-- the last dimension that can be changed -/
def ldS (l c : List Int) : Nat → Nat
  | 0 => 0
  | m + 1 => if dgI l c m < l.getD m 0 - 1 then m else ldS l c m
theorem ld_eq {l c : List Int} {i : Nat} : ∀ m, i < m → dgI l c i < l.getD i 0 - 1 → (∀ j, i < j → j < m → dgI l c j = l.getD j 0 - 1) → ldS l c m = i
  | 0, h, _, _ => by omega
  | m + 1, h, hd, he => by
    rw [ldS]
    by_cases hm : i = m
    · subst hm; rw [if_pos hd]
    · rw [if_neg (by have := he m (by omega) (by omega); omega)]
      exact ld_eq m (by omega) hd (fun j h1 h2 => he j h1 (by omega))
theorem ld_spec {l c : List Int} (hc : InT l c) : ∀ m, m ≤ l.length → (∀ j, j < m → dgI l c j = l.getD j 0 - 1) ∨ (ldS l c m < m ∧ dgI l c (ldS l c m) < l.getD (ldS l c m) 0 - 1 ∧ ∀ j, ldS l c m < j → j < m → dgI l c j = l.getD j 0 - 1)
  | 0, _ => .inl fun j h => by omega
  | m + 1, hm => by
    rw [ldS]
    split
    · rename_i h
      exact .inr ⟨by omega, h, fun j h1 h2 => by omega⟩
    · rename_i h
      have hd := dg_in hc (show m < l.length by omega)
      rcases ld_spec hc m (by omega) with h1 | ⟨h1, h2, h3⟩
      · refine .inl fun j hj => ?_
        by_cases hjm : j = m
        · subst hjm; omega
        · exact h1 j (by omega)
      · refine .inr ⟨by omega, h2, fun j k1 k2 => ?_⟩
        by_cases hjm : j = m
        · subst hjm; omega
        · exact h3 j k1 (by omega)
/-- the coordinates of the switches of the snake -/
def snC (l : List Int) : Nat → List Int
  | 0 => List.replicate l.length 0
  | k + 1 => nextC (snC l k) (ldS l (snC l k) l.length)
theorem even_zero (n : Nat) : ∀ i, evenB (List.replicate n 0) i = true
  | 0 => rfl
  | i + 1 => by
    rw [evenB, even_zero n i]
    have : (List.replicate n (0 : Int)).getD i 0 = 0 := by
      by_cases h : i < n
      · simp [List.getD, h]
      · simp [List.getD, h]
    rw [this]; rfl
theorem getD_zeros (n i : Nat) : (List.replicate n (0 : Int)).getD i 0 = 0 := by
  by_cases h : i < n
  · simp [List.getD, h]
  · simp [List.getD, h]
theorem sn_zero {l : List Int} (hb : ∀ i, i < l.length → 2 ≤ l.getD i 0 ∧ l.getD i 0 ≤ 16) : InT l (snC l 0) ∧ ∀ k, rkS l (snC l 0) k = 0 := by
  refine ⟨⟨by simp [snC], fun i hi => ?_⟩, fun k => ?_⟩
  · have := hb i hi
    rw [snC, getD_zeros]; omega
  · induction k with
    | zero => rfl
    | succ k ih => rw [rkS, ih, snC, dgI, even_zero, if_pos rfl, getD_zeros]; simp
theorem sn_rank {l : List Int} (hl : 1 ≤ l.length) (hb : ∀ i, i < l.length → 2 ≤ l.getD i 0 ∧ l.getD i 0 ≤ 16) : ∀ k : Nat, (k : Int) < prodI l → InT l (snC l k) ∧ rkS l (snC l k) l.length = k
  | 0, _ => ⟨(sn_zero hb).1, (sn_zero hb).2 _⟩
  | k + 1, hk => by
    obtain ⟨h1, h2⟩ := sn_rank hl hb k (by omega)
    rcases ld_spec h1 l.length (Nat.le_refl _) with h | ⟨a1, a2, a3⟩
    · have := rk_last (l := l) (c := snC l k) ⟨fun j h1 h2 => h j h2, fun h0 => h 0 h0⟩
      omega
    · have := rk_next h1 a1 a2 (fun j h1 h2 => a3 j h1 h2)
      rw [snC]
      exact ⟨this.1, by rw [this.2, h2]; simp⟩
/-- the snake -/
def snL (l : List Int) (n : Nat) : List Int := (List.range n).map fun k => numI l (snC l k)
theorem snL_len (l : List Int) (n : Nat) : (snL l n).length = n := by simp [snL]
theorem snL_succ (l : List Int) (n : Nat) : snL l (n + 1) = snL l n ++ [numI l (snC l n)] := by unfold snL; rw [List.range_succ, List.map_append]; rfl
theorem numK_lt {l a : List Int} (ha : ∀ i, i < l.length → 0 ≤ a.getD i 0 ∧ a.getD i 0 < l.getD i 0) : ∀ k, k ≤ l.length → 0 ≤ numK l a k ∧ numK l a k + 1 ≤ prodI (l.take k) := by
  intro k
  induction k with
  | zero => intro _; exact ⟨Int.le_refl _, by simp [numK, prodI]⟩
  | succ k ih =>
    intro hk
    obtain ⟨i1, i2⟩ := ih (by omega)
    obtain ⟨d0, d1⟩ := ha k (by omega)
    rw [List.take_succ_eq_append_getElem (by omega), prodI_snoc, numK]
    rw [show l[k] = l.getD k 0 by simp [List.getD, show k < l.length by omega]]
    have h0 : 0 ≤ numK l a k * l.getD k 0 := Int.mul_nonneg i1 (by omega)
    have h1 : (numK l a k + 1) * l.getD k 0 ≤ prodI (l.take k) * l.getD k 0 := Int.mul_le_mul_of_nonneg_right i2 (by omega)
    rw [Int.add_mul] at h1
    omega
theorem num_lt {l c : List Int} (hc : InT l c) : 0 ≤ numI l c ∧ numI l c < prodI l := by
  have := numK_lt hc.2 l.length (Nat.le_refl _)
  rw [List.take_length] at this
  unfold numI; omega
/-- a digit of a number -/
theorem prodI_cons (x : Int) (l : List Int) : prodI (x :: l) = x * prodI l := by
  unfold prodI
  have key : ∀ (l : List Int) (a b : Int), l.foldl (· * ·) (a * b) = a * l.foldl (· * ·) b := by
    intro l
    induction l with
    | nil => intro a b; rfl
    | cons y l ih => intro a b; rw [List.foldl_cons, List.foldl_cons, Int.mul_assoc, ih]
  rw [List.foldl_cons, Int.one_mul]
  have := key l x 1
  rw [Int.mul_one] at this
  exact this
/-- how far apart the switches are whose coordinates differ by 1 -/
def strI (l : List Int) (i : Nat) : Int := prodI (l.drop (i + 1))
theorem str_step {l : List Int} {i : Nat} (hi : i < l.length) : prodI (l.drop i) = l.getD i 0 * strI l i := by
  rw [List.drop_eq_getElem_cons hi, prodI_cons, strI]
  congr 1
  simp [List.getD, hi]
theorem prod_pos {l : List Int} (hb : ∀ i, i < l.length → 2 ≤ l.getD i 0 ∧ l.getD i 0 ≤ 16) : ∀ m, m ≤ l.length → 1 ≤ prodI (l.drop (l.length - m)) := by
  intro m
  induction m with
  | zero => intro _; simp [prodI]
  | succ m ih =>
    intro hm
    have h := str_step (l := l) (i := l.length - (m + 1)) (by omega)
    have h2 := hb (l.length - (m + 1)) (by omega)
    rw [strI, show l.length - (m + 1) + 1 = l.length - m by omega] at h
    rw [h]
    have := ih (by omega)
    have : 1 * 1 ≤ l.getD (l.length - (m + 1)) 0 * prodI (l.drop (l.length - m)) := Int.mul_le_mul (by omega) this (by omega) (by omega)
    omega
theorem drop_pos {l : List Int} (hb : ∀ i, i < l.length → 2 ≤ l.getD i 0 ∧ l.getD i 0 ≤ 16) (i : Nat) (hi : i ≤ l.length) : 1 ≤ prodI (l.drop i) := by
  have := prod_pos hb (l.length - i) (by omega)
  rwa [show l.length - (l.length - i) = i by omega] at this
/-- what the coordinates behind a dimension add -/
def rstK (l c : List Int) (i : Nat) : Nat → Int
  | 0 => 0
  | m + 1 => rstK l c i m * l.getD (i + m) 0 + c.getD (i + m) 0
def prdK (l : List Int) (i : Nat) : Nat → Int
  | 0 => 1
  | m + 1 => prdK l i m * l.getD (i + m) 0
theorem numK_split (l c : List Int) (i : Nat) : ∀ m, numK l c (i + m) = numK l c i * prdK l i m + rstK l c i m
  | 0 => by simp [prdK, rstK]
  | m + 1 => by
    rw [← Nat.add_assoc, numK, numK_split l c i m, prdK, rstK, Int.add_mul, Int.mul_assoc, Int.add_assoc]
theorem prdK_eq (l : List Int) (i : Nat) : ∀ m, i + m ≤ l.length → prdK l i m = prodI ((l.drop i).take m)
  | 0, _ => by simp [prdK, prodI]
  | m + 1, h => by
    have hm : m < (l.drop i).length := by simp; omega
    rw [prdK, prdK_eq l i m (by omega), List.take_succ_eq_append_getElem hm, prodI_snoc]
    congr 1
    simp [List.getD, show i + m < l.length by omega]
theorem prdK_all (l : List Int) (i : Nat) (hi : i ≤ l.length) : prdK l i (l.length - i) = prodI (l.drop i) := by
  rw [prdK_eq l i _ (by omega)]
  congr 1
  exact List.take_of_length_le (by simp)
theorem rst_in {l c : List Int} (hc : InT l c) (i : Nat) : ∀ m, i + m ≤ l.length → 0 ≤ rstK l c i m ∧ rstK l c i m + 1 ≤ prdK l i m
  | 0, _ => ⟨Int.le_refl _, Int.le_refl _⟩
  | m + 1, h => by
    obtain ⟨i1, i2⟩ := rst_in hc i m (by omega)
    obtain ⟨d0, d1⟩ := hc.2 (i + m) (by omega)
    rw [rstK, prdK]
    have h0 : 0 ≤ rstK l c i m * l.getD (i + m) 0 := Int.mul_nonneg i1 (by omega)
    have h1 : (rstK l c i m + 1) * l.getD (i + m) 0 ≤ prdK l i m * l.getD (i + m) 0 := Int.mul_le_mul_of_nonneg_right i2 (by omega)
    rw [Int.add_mul] at h1
    omega
theorem num_split {l c : List Int} {i : Nat} (hi : i < l.length) : numI l c = (numK l c i * l.getD i 0 + c.getD i 0) * strI l i + rstK l c (i + 1) (l.length - (i + 1)) := by
  have := numK_split l c (i + 1) (l.length - (i + 1))
  rw [prdK_all l (i + 1) (by omega), show i + 1 + (l.length - (i + 1)) = l.length by omega] at this
  unfold numI strI
  rw [this, numK]
theorem num_digit {l c : List Int} (hc : InT l c) {i : Nat} (hi : i < l.length) : numI l c / strI l i % l.getD i 0 = c.getD i 0 := by
  obtain ⟨r0, r1⟩ := rst_in hc (i + 1) (l.length - (i + 1)) (by omega)
  rw [prdK_all l (i + 1) (by omega)] at r1
  obtain ⟨c0, c1⟩ := hc.2 i hi
  have hs : strI l i ≠ 0 := by unfold strI; omega
  rw [num_split hi, Int.add_comm, Int.add_mul_ediv_right _ _ hs, Int.ediv_eq_zero_of_lt r0 (by unfold strI; omega), Int.zero_add, Int.add_comm, Int.add_mul_emod_self_right, Int.emod_eq_of_lt c0 c1]
theorem numK_set {l c : List Int} {i : Nat} {v : Int} : ∀ k, k ≤ i → numK l (c.set i v) k = numK l c k
  | 0, _ => rfl
  | k + 1, h => by rw [numK, numK, numK_set k (by omega), getD_set_other _ _ _ _ _ (by omega)]
theorem rst_set {l c : List Int} {i j : Nat} {v : Int} (hj : i < j) : ∀ m, rstK l (c.set i v) j m = rstK l c j m
  | 0 => rfl
  | m + 1 => by rw [rstK, rstK, rst_set hj m, getD_set_other _ _ _ _ _ (by omega)]
theorem num_set {l c : List Int} {i : Nat} (hi : i < l.length) (hc : i < c.length) (v : Int) : numI l (c.set i v) = numI l c + strI l i * (v - c.getD i 0) := by
  rw [num_split hi, num_split hi, numK_set i (Nat.le_refl _), rst_set (by omega), getD_set_same _ _ _ _ hc]
  rw [Int.mul_sub, Int.add_mul, Int.add_mul, Int.mul_comm (strI l i), Int.mul_comm (strI l i)]
  omega
/-- the neighbors in one dimension -/
def nbA (l : List Int) (x : Int) (i : Nat) (s : Int) : Int := x + strI l i * ((x / strI l i % l.getD i 0 + s) % l.getD i 0 - x / strI l i % l.getD i 0)
def nbK (l : List Int) (x : Int) : Nat → List Int
  | 0 => []
  | k + 1 => nbK l x k ++ [nbA l x k 1, nbA l x k (-1)]
theorem nbK_len (l : List Int) (x : Int) : ∀ k, (nbK l x k).length = 2 * k
  | 0 => rfl
  | k + 1 => by rw [nbK, List.length_append, nbK_len l x k]; simp; omega
theorem nb_mem {l : List Int} {x : Int} {i : Nat} {s : Int} (hs : s = 1 ∨ s = -1) : ∀ k, i < k → nbA l x i s ∈ nbK l x k
  | 0, h => by omega
  | k + 1, h => by
    rw [nbK]
    by_cases hik : i = k
    · subst hik; rcases hs with rfl | rfl <;> simp
    · exact List.mem_append.2 (.inl (nb_mem hs k (by omega)))
end Go.Proofs.YtbhkenphcahifaaGreat
namespace Go.Proofs.YtbhkenphcahifaaGreat
open Go.RowKit Go.Shelf
attribute [local go_sem] Oper.semAt_some
set_option maxRecDepth 100000
set_option maxHeartbeats 4000000
/-- the marks that ranges over functions, one behind the other, leave behind -/
def mk (D : Nat) : Deferred := { target := .collected D, args := #[] }
/-- they are open, and each is its own -/
structure Marks (B : Nat) (Ds : List Nat) (w : World) : Prop where
  open_ : ∀ D ∈ Ds, B ≤ D ∧ w.heap[D]? = some (.deferred (some []))
  nodup : Ds.Nodup
theorem Marks.lt {B : Nat} {Ds : List Nat} {w : World} (h : Marks B Ds w) {D : Nat} (hD : D ∈ Ds) : D < w.heap.size := (Array.getElem?_eq_some_iff.1 (h.open_ D hD).2).1
theorem Marks.nil (B : Nat) (w : World) : Marks B [] w := ⟨fun D h => by simp at h, List.nodup_nil⟩
/-- nothing but the marks' blocks is changed -/
structure Shut (Ds : List Nat) (w w' : World) : Prop where
  os : w'.os = w.os
  tape : w'.tape = w.tape
  output : w'.output = w.output
  size : w'.heap.size = w.heap.size
  block : ∀ k, k ∉ Ds → w'.heap[k]? = w.heap[k]?
/-- a function leaves through its marks -/
theorem leaves_marks {F : Fence} {n : Nat} {P : Program} {fn : Func} {tmps : Array Value} {R : Ending → World → Prop} {B : Nat} : ∀ (Ds : List Nat) (w : World), Marks B Ds w → (∀ w', Shut Ds w w' → LeavesIn F n P fn tmps R [] .returning w') → LeavesInM F n P fn tmps R (Ds.map mk) .returning w
  | [], w, _, h => h w ⟨rfl, rfl, rfl, rfl, fun _ _ => rfl⟩
  | D :: Ds, w, hm, h => by
    have hD := (hm.open_ D (by simp)).2
    have hn := List.nodup_cons.1 hm.nodup
    refine ⟨by simp, .inl ⟨D, _, rfl, run_takeDeferred hD, ?_⟩⟩
    refine leaves_marks Ds _ ⟨fun E hE => ⟨(hm.open_ E (by simp [hE])).1, ?_⟩, hn.2⟩ fun w' hw => h w' ⟨hw.os, hw.tape, hw.output, ?_, fun k hk => ?_⟩
    · have hne : E ≠ D := by rintro rfl; exact hn.1 hE
      exact (World.putObj_heap_other hne).trans (hm.open_ E (by simp [hE])).2
    · rw [hw.size]; simp [World.putObj]
    · have h1 : k ≠ D := fun e => hk (by simp [e])
      exact (hw.block k (fun e => hk (by simp [e]))).trans (World.putObj_heap_other h1)
theorem Marks.push {B : Nat} {Ds : List Nat} {w w' : World} (h : Marks B Ds w) {D : Nat} (hD : w.heap.size ≤ D) (hk : ∀ E ∈ Ds, w'.heap[E]? = w.heap[E]?) (hd : w'.heap[D]? = some (.deferred (some []))) (hB : B ≤ w.heap.size) : Marks B (D :: Ds) w' := by
  refine ⟨fun E hE => ?_, List.nodup_cons.2 ⟨fun hE => ?_, h.nodup⟩⟩
  · rcases List.mem_cons.1 hE with rfl | hE
    · exact ⟨by omega, hd⟩
    · exact ⟨(h.open_ E hE).1, (hk E hE).trans (h.open_ E hE).2⟩
  · have := h.lt hE; omega
theorem Marks.keep {B : Nat} {Ds : List Nat} {w w' : World} (h : Marks B Ds w) (hk : ∀ E ∈ Ds, w'.heap[E]? = w.heap[E]?) : Marks B Ds w' := ⟨fun E hE => ⟨(h.open_ E hE).1, (hk E hE).trans (h.open_ E hE).2⟩, h.nodup⟩
/-- an iterator that reads what it has captured, and makes at most new blocks -/
def SeqR {α : Type} (n : Nat) (gf : Nat) (lb : Array Value) (encs : α → Array Value) (Nd : List Nat) (L : List α) (w : World) : Prop :=
  ∀ (l : Nat) (J : List α → World → Prop) (W : World), Below w.heap.size w W → (∀ pre V V2, J pre V → Below V.heap.size V V2 → J pre V2) →
    (∀ pre x W1, J pre W1 → pre ++ [x] <+: L → YieldAt Fence.wide (n - 1) Tryz.prog l (encs x) W1 fun e W' => e = .returned (.bool true) ∧ J (pre ++ [x]) W' ∧ ∀ b ∈ Nd, W'.heap[b]? = W1.heap[b]?) →
    J [] W → CallsIn Fence.wide n Tryz.prog gf (#[.func (.yield l) #[] #[]] ++ lb) W fun e W' => (∃ v, e = .returned v) ∧ J L W'
/-- whatever abides stores into records and new blocks abides what a loop does -/
theorem grown_split {X Y : World} {r : Nat} (hg : X.grownBy Y (some r)) (hr : r < X.heap.size) : ∃ o', Below (X.putObj r o').heap.size (X.putObj r o') Y ∧ Y.heap[r]? = some o' := by
  have hlt : r < Y.heap.size := Nat.lt_of_lt_of_le hr hg.size
  refine ⟨Y.heap[r], ⟨hg.os, hg.tape, hg.output, by simpa [World.putObj] using hg.size, fun k hk => ?_⟩, Array.getElem?_eq_getElem hlt⟩
  have hk' : k < X.heap.size := by simpa [World.putObj] using hk
  by_cases hkr : k = r
  · subst hkr
    rw [World.putObj_heap_same hk', Array.getElem?_eq_getElem hlt]
  · rw [World.putObj_heap_other hkr]
    exact hg.block k hk' (fun e => hkr (Option.some.inj e))
theorem below_of_grown {X Y : World} (hg : X.grownBy Y none) : Below X.heap.size X Y := ⟨hg.os, hg.tape, hg.output, hg.size, fun k hk => hg.block k hk (fun e => by cases e)⟩
/-- a range over such an iterator, by a body that never leaves -/
theorem range_r {α : Type} {n : Nat} {g : Operand} {ps : Array Tmp} {assign body : Code} {Q : Exit → Act → World → Prop} {a : Act} {w : World} (h1 : 1 ≤ n) {gf : Nat} {lb : Array Value}
    (hg : a.eval g = .func (.func gf) #[] lb) (eg : ∀ args w, (callFunc gf args).run Tryz.prog w = .ok (.enter gf args) w) {encs : α → Array Value} {Nd : List Nat} {L : List α}
    (hseq : SeqR (n - 1) gf lb encs Nd L w) (hnd : ∀ b ∈ Nd, b < w.heap.size)
    (hps : ∀ x, (encs x).size = ps.size) (I : List α → World → Prop) (hI : OwnFrom w.heap.size I) (hIg : ∀ pre V V2, I pre V → Below V.heap.size V V2 → I pre V2) (h0 : I [] w) (a₁ : α → Act)
    (hassign : ∀ (l : Nat) (x : α) (W : World) (K : Act → World → Prop), K (a₁ x) W → assign.wpIn (Fence.wide.inRound l) (n - 1 - 1) Tryz.prog (Exit.then K (fun _ _ _ => False)) { tmps := (ps.zip (encs x)).foldl (fun t (p, v) => t.setIfInBounds p v) a.tmps, defers := [] } W)
    (hbody : ∀ (l : Nat) (pre : List α) (x : α) (W : World), I pre W → pre ++ [x] <+: L → body.wpIn (Fence.wide.inRound l) (n - 1 - 1) Tryz.prog (ownPostG w.heap.size (fun W W' => ∀ b ∈ Nd, W'.heap[b]? = W.heap[b]?) I (fun _ _ _ => False) (pre ++ [x]) W) (a₁ x) W)
    (hdone : ∀ (D : Nat) (W : World), w.heap.size ≤ D → I L W → W.heap[D]? = some (.deferred (some [])) → Q .normal { a with defers := { target := .collected D, args := #[] } :: a.defers } W) :
    (Code.rangeFunc g ps assign body).wpIn Fence.wide n Tryz.prog Q a w := by
  refine wpIn_rangeFunc ?_
  intro fn hfn
  rw [show Fence.wide.round = none from rfl]
  let rc : LoopState → Option Code → Loop := fun st pe => { state := st, pending := pe, fn, tmps := a.tmps, params := ps, assign, body, defers := w.heap.size }
  obtain ⟨W1, hW1⟩ : ∃ W1, (w.alloc (.deferred (some []))).alloc (.loop (rc .ready none)) = W1 := ⟨_, rfl⟩
  have hb1 : Below w.heap.size w W1 := by
    rw [← hW1]; exact ((Below.refl _ w).alloc (Nat.le_refl _) _).alloc (by simp) _
  have hl1 : W1.heap[w.heap.size + 1]? = some (.loop (rc .ready none)) := by
    rw [← hW1]; have := World.alloc_heap_new (w.alloc (.deferred (some []))) (.loop (rc .ready none)); rwa [World.size_alloc] at this
  have hk1 : W1.heap[w.heap.size]? = some (.deferred (some [])) := by
    rw [← hW1]; exact (Below.heap_alloc _ _ _ (by simp)).trans (World.alloc_heap_new w _)
  have hi1 : I [] W1 := by rw [← hW1]; exact hI.alloc _ (hI.alloc _ h0)
  refine ⟨w.heap.size + 1, [{ target := .collected w.heap.size, args := #[] }], W1, { target := .fn (.func gf) lb, args := #[.func (.yield (w.heap.size + 1)) #[] #[]] }, W1, gf,
    #[.func (.yield (w.heap.size + 1)) #[] #[]] ++ lb, W1, ?_, ?_, ?_, ?_, fun _ => h1, ?_⟩
  · rw [← hW1]; exact run_enterLoop_outer _ _ _ _ _
  · simp only [resolve, hg]
    simp [go_sem]
  · intro f' hf'; trivial
  · simp [invoke, go_sem, eg]
  · refine (hseq (w.heap.size + 1) (fun pre W => I pre W ∧ W.heap[w.heap.size + 1]? = some (.loop (rc .ready none)) ∧ W.heap[w.heap.size]? = some (.deferred (some []))) W1 hb1 ?_ ?_ ⟨hi1, hl1, hk1⟩).mono ?_
    · rintro pre V V2 ⟨hi, hl, hk⟩ hb
      exact ⟨hIg pre V V2 hi hb, (hb.block _ (Array.getElem?_eq_some_iff.1 hl).1).trans hl, (hb.block _ (Array.getElem?_eq_some_iff.1 hk).1).trans hk⟩
    · rintro pre x W ⟨hi, hl, hk⟩ hlen
      have hlt : w.heap.size + 1 < W.heap.size := (Array.getElem?_eq_some_iff.1 hl).1
      refine ⟨fn, _, assign, body, run_yield (P := Tryz.prog) (args := encs x) hl (hps x), roundIn_of_wpIn hfn (hassign _ x W _ ?_)⟩
      refine ⟨_, run_beginRound hl rfl, ?_⟩
      have hl2 := World.putObj_heap_same (w := W) (o := .loop { rc .ready none with state := .busy }) hlt
      have hk2 : (W.putObj (w.heap.size + 1) (.loop { rc .ready none with state := .busy })).heap[w.heap.size]? = some (.deferred (some [])) := (World.putObj_heap_other (by omega)).trans hk
      refine wpIn_mono (hbody (w.heap.size + 1) pre x _ (hI.putObj _ hi (by omega) hl rfl) hlen) ?_
      rintro e a3 W3 hp
      cases e with
      | normal =>
        obtain ⟨hk3, hkp3, hi3⟩ := hp
        have hl3 := hk3.same _ _ (by omega) hl2 rfl
        have hk4 := hk3.same _ _ (Nat.le_refl _) hk2 rfl
        exact ⟨_, _, run_endRound (P := Tryz.prog) none hl3, rfl, ⟨hI.putObj _ hi3 (by omega) hl3 rfl, World.putObj_heap_same (Array.getElem?_eq_some_iff.1 hl3).1, (World.putObj_heap_other (by omega)).trans hk4⟩, fun b hb => ((World.putObj_heap_other (by have := hnd b hb; omega)).trans (hkp3 b hb)).trans (World.putObj_heap_other (by have := hnd b hb; omega))⟩
      | ret => exact hp.2.elim
      | exit id => exact hp.2.elim
      | goto t => exact hp.2.elim
      | panic ch => exact hp.elim
      | outgrown => exact hp.elim
    · rintro e W2 ⟨⟨v, rfl⟩, hi, hl, hk⟩
      exact ⟨none, _, run_endLoop (P := Tryz.prog) hl (by simp), hdone _ _ (Nat.le_refl _) (hI.putObj _ hi (by omega) hl rfl) ((World.putObj_heap_other (by omega)).trans hk)⟩
/-- what such an iterator has captured -/
def Has (cs : List (Nat × Obj)) (W : World) : Prop := ∀ p ∈ cs, W.heap[p.1]? = some p.2
theorem Has.below {cs : List (Nat × Obj)} {W W' : World} (h : Has cs W) (hb : Below W.heap.size W W') : Has cs W' := fun p hp => heapB hb (h p hp)
theorem Has.kept {cs : List (Nat × Obj)} {W W' : World} (h : Has cs W) (hk : ∀ b ∈ cs.map (·.1), W'.heap[b]? = W.heap[b]?) : Has cs W' := fun p hp => (hk p.1 (List.mem_map.2 ⟨p, hp, rfl⟩)).trans (h p hp)
theorem Has.m0 {p : Nat × Obj} {r : List (Nat × Obj)} {W : World} (h : Has (p :: r) W) : W.heap[p.1]? = some p.2 := h p (by simp)
theorem Has.m1 {p q : Nat × Obj} {r : List (Nat × Obj)} {W : World} (h : Has (p :: q :: r) W) : W.heap[q.1]? = some q.2 := h q (by simp)
abbrev encI : Int → Array Value := fun x => #[.int .i64 x]
/-- slices.Values' iterator -/
theorem valIter (Bs g cap : Nat) (L : List Int) (cur : Array Value) {w : World} (q0 : w.heap[Bs]? = some (.cells #[.slice (some ⟨g, 0, none⟩) L.length cap] 22 (0, 0))) (q1 : w.heap[g]? = some (.cells cur 3 (0, 0))) (hc : ∀ j (hj : j < L.length), cur[j]? = some (.int .i64 L[j])) (hL : L.length ≤ 100000) (n : Nat) :
    SeqR n 158 #[.pointer (some ⟨Bs, 0, none⟩)] encI [Bs, g] L w := by
  intro ll J W hW hG hY h0
  have HC : Hid (Has [(Bs, .cells #[.slice (some ⟨g, 0, none⟩) L.length cap] 22 (0, 0)), (g, .cells cur 3 (0, 0))] W) := by
    intro p hp
    simp only [List.mem_cons, List.not_mem_nil, or_false] at hp
    rcases hp with rfl | rfl
    · exact heapB hW q0
    · exact heapB hW q1
  have HY := Lib.hid hY
  have HG := Lib.hid hG
  have HCC := Lib.hid hc
  clear hY hW q0 q1 hG hc
  have k0 := cellR 0 HC.out.m0 rfl
  refine callsIn_of_wp Tryz.func158 rfl trivial ?_ rfl
  simp only [Tryz.ntmps158, List.size_toArray, List.length_cons, List.length_nil, Nat.reduceAdd, Nat.reduceSub, Array.replicate_succ, Array.replicate_zero, List.push_toArray, List.append_toArray, List.nil_append, List.cons_append]
  gi_wp2
  gi_loopw [7] (fun i wr => ∃ k : Nat, k ≤ L.length ∧ i = .int .i64 (k : Int) ∧ J (L.take k) wr ∧ Hid (Has [(Bs, .cells #[.slice (some ⟨g, 0, none⟩) L.length cap] 22 (0, 0)), (g, .cells cur 3 (0, 0))] wr)) (fun i _ => L.length - (intOf i).toNat)
  case atStart => exact ⟨0, Nat.zero_le _, rfl, h0, HC⟩
  case round =>
    clear k0 HC h0
    obtain ⟨k, hk, rfl, hJ, HC⟩ := hrel
    by_cases hlt : k < L.length
    · have e0 := cellR k HC.out.m1 (HCC.out k hlt)
      obtain ⟨fn, tm, as_, bd, hy, hR⟩ := HY.out (L.take k) L[k] _ hJ (by rw [← List.take_succ_eq_append_getElem hlt]; exact List.take_prefix _ _)
      rw [← List.take_succ_eq_append_getElem hlt] at hR
      gi_wp2
      refine ⟨fun h => (by cases h), ?_⟩
      refine hR.mono ?_
      rintro e W2 ⟨rfl, h1, hkq⟩
      replace HC := Lib.hid (HC.out.kept hkq)
      clear hy hR hkq hJ e0
      gi_wp2
      go_roundw
      case rel => exact ⟨k + 1, by omega, by go_num, h1, HC⟩
      case measure => simp [intOf]; omega
    · have hkn : k = L.length := by omega
      subst hkn
      rw [List.take_length] at hJ
      gi_wp2
      go_end0
      exact ⟨⟨_, rfl⟩, hJ⟩
/-- a function that yields a list -/
def VIter (gf : Nat) (lb : Array Value) (L : List Int) (s0 : Nat) (w : World) : Prop :=
  (∀ args w, (callFunc gf args).run Tryz.prog w = .ok (.enter gf args) w) ∧ ∃ Nd : List Nat, (∀ b ∈ Nd, s0 ≤ b ∧ ∃ o, w.heap[b]? = some o ∧ o.isCells = true) ∧ ∀ n, SeqR n gf lb encI Nd L w
/-- such a function, made -/
def VMake (f : Nat) (args : Array Value) (L : List Int) (B : Nat) (W : World) : Prop :=
  Calls Tryz.prog f args W fun e w' => ∃ gf lb, e = .returned (.func (.func gf) #[] lb) ∧ VIter gf lb L B w' ∧ Below B W w'
/-- slices.Values of a list of one's own -/
theorem values_new {B : Nat} {w : World} {v : Value} {L : List Int} (h : NewInts B w v L) (hB : B ≤ w.heap.size) (hL : L.length ≤ 100000) (hne : L ≠ []) : VMake 148 #[v] L B w := by
  obtain ⟨h1, h2⟩ := h.own
  rcases h2 with ⟨rfl, hn⟩ | ⟨g, cap, cur, rfl, hg, hr, hc, hm, hs, ht⟩
  · exact absurd (List.length_eq_zero_iff.1 hn) hne
  have q0 := heap_alloc_new w (.cells #[.slice (some ⟨g, 0, none⟩) L.length cap] 22)
  have hbw : Below w.heap.size w (w.alloc (.cells #[.slice (some ⟨g, 0, none⟩) L.length cap] 22)) := (Below.refl _ _).alloc (Nat.le_refl _) _
  have q1 := heapB hbw hr
  have HB : Hid (Below B w (w.alloc (.cells #[.slice (some ⟨g, 0, none⟩) L.length cap] 22))) := hbw.mono hB
  have hcell : ∀ j (hj : j < L.length), cur[j]? = some (.int .i64 L[j]) := fun j hj => by
    have h3 : (L.map (Value.int .i64))[j]? = some (.int .i64 L[j]) := by simp [hj]
    rw [← ht, List.getElem?_take] at h3
    split at h3
    · simpa using h3
    · cases h3
  have HI : Hid (VIter 158 #[.pointer (some ⟨w.heap.size, 0, none⟩)] L B (w.alloc (.cells #[.slice (some ⟨g, 0, none⟩) L.length cap] 22))) := by
    refine ⟨enters_of Tryz.func158 (by kernel_rfl) rfl, [w.heap.size, g], ?_, fun n => valIter w.heap.size g cap L cur q0 q1 hcell hL n⟩
    intro b hb
    simp only [List.mem_cons, List.not_mem_nil, or_false] at hb
    rcases hb with rfl | rfl
    · exact ⟨hB, _, q0, rfl⟩
    · exact ⟨hg, _, q1, rfl⟩
  clear q0 hbw q1 hcell hr hc hm hs ht h1 hL hne h
  generalize L.length = N at *
  unfold VMake
  go_enter Tryz.func148, Tryz.ntmps148
  go_wp2_with fail
  go_ret
  exact ⟨158, _, rfl, HI.out, HB.out⟩
end Go.Proofs.YtbhkenphcahifaaGreat
namespace Go.Proofs.YtbhkenphcahifaaGreat
open Go.RowKit Go.Shelf
attribute [local go_sem] Oper.semAt_some
set_option maxRecDepth 100000
set_option maxHeartbeats 4000000
theorem Fq.grow {n0 o b : Nat} {W W2 : World} (h : Fq n0 o b W) (ho : o < W.heap.size) (hb : Below W.heap.size W W2) : Fq n0 o b W2 := by
  obtain ⟨⟨ob, k1, k2⟩, k3, k4, k5⟩ := h
  exact ⟨⟨ob, heapB hb k1, k2⟩, k3, k4, fun u hu => k5 u (by rw [← hu]; exact (hb.cell (p := ⟨o, 0, none⟩) ho).symm)⟩
/-- blocks beside a list that grows abide stores into records -/
theorem Fq.put {n0 o b c s : Nat} {W : World} {o1 o' : Obj} (h : Fq n0 o c W) (ho : o < s) (hb : s ≤ b) (h1 : W.heap[b]? = some o1) (h2 : o1.isCells = false) : Fq n0 o c (W.putObj b o') := by
  obtain ⟨⟨oc, k1, k2⟩, k3, k4, k5⟩ := h
  have hne : c ≠ b := by rintro rfl; rw [k1] at h1; cases h1; rw [k2] at h2; cases h2
  refine ⟨⟨oc, (World.putObj_heap_other hne).trans k1, k2⟩, k3, k4, fun v hv => k5 v ?_⟩
  rw [← hv]
  exact (World.cell?_of_block (w := W) (World.putObj_heap_other (show o ≠ b by omega))).symm
theorem m_near1 (sa : Option Addr) (n sc : Nat) (m : Int) (w : World) : (method 330 138 (.agg #[.slice sa n sc, .int .i64 m]) "armada/net.neighbors").run Tryz.prog w = .ok (140, .agg #[.slice sa n sc, .int .i64 m]) w := by kernel_rfl
end Go.Proofs.YtbhkenphcahifaaGreat
namespace Go.Proofs.YtbhkenphcahifaaGreat
open Go.RowKit Go.Shelf
attribute [local go_sem] Oper.semAt_some
set_option maxRecDepth 100000
set_option maxHeartbeats 4000000
/-- the neighbors of a switch in a tree: m of those below, m of those above -/
def dnT (k : Nat) (ww : Int) (l : Nat) (wx : Int) (m : Nat) : List Int := (List.range m).map fun (d : Nat) => (l : Int) * ww + wthI k l wx (d : Int)
def upT (k : Nat) (ww : Int) (l : Nat) (wx : Int) (m : Nat) : List Int := (List.range m).map fun (d : Nat) => ((l : Int) + 1) * ww + wthI k l wx (d : Int)
/-- those of a switch on the level l with the word wx -/
def lvT (k lv : Nat) (ww : Int) (l : Nat) (wx : Int) : List Int := (if 0 < l then dnT k ww (l - 1) wx k else []) ++ (if l < lv - 1 then upT k ww l wx k else [])
def nbT (k lv : Nat) (x : Int) : List Int := lvT k lv ((k ^ (lv - 1) : Nat) : Int) (x / ((k ^ (lv - 1) : Nat) : Int)).toNat (x % ((k ^ (lv - 1) : Nat) : Int))
theorem dnT_succ (k : Nat) (ww : Int) (l : Nat) (wx : Int) (m : Nat) : dnT k ww l wx (m + 1) = dnT k ww l wx m ++ [(l : Int) * ww + wthI k l wx (m : Int)] := by unfold dnT; rw [List.range_succ, List.map_append]; rfl
theorem dnT_mono (k : Nat) (ww : Int) (l : Nat) (wx : Int) {a b : Nat} (h : a ≤ b) : dnT k ww l wx a <+: dnT k ww l wx b := by
  unfold dnT
  have h1 : (List.range b).take a = List.range a := by rw [List.take_range, Nat.min_eq_left h]
  rw [← h1, List.map_take]
  exact List.take_prefix _ _
theorem upT_mono (k : Nat) (ww : Int) (l : Nat) (wx : Int) {a b : Nat} (h : a ≤ b) : upT k ww l wx a <+: upT k ww l wx b := by
  unfold upT
  have h1 : (List.range b).take a = List.range a := by rw [List.take_range, Nat.min_eq_left h]
  rw [← h1, List.map_take]
  exact List.take_prefix _ _
theorem upT_succ (k : Nat) (ww : Int) (l : Nat) (wx : Int) (m : Nat) : upT k ww l wx (m + 1) = upT k ww l wx m ++ [((l : Int) + 1) * ww + wthI k l wx (m : Int)] := by unfold upT; rw [List.range_succ, List.map_append]; rfl
section
variable {P : Program} {ops : Array Oper} {n : Nat} {Q : Exit → Act → World → Prop}
/-- a yield, by what its round says -/
theorem wpOpIn_yield {i : Nat} {o : Oper} {K : Act → World → Prop} {a : Act} {w : World} {l fn : Nat} {tm : Array Value} {as_ bd : Code} {R : Ending → World → Prop} (ho : ops[i]? = some o) (hgd : o.guard = none)
    (h : (o.semAt none a.eval).run P w = .ok (.round l fn tm as_ bd) w) (hc : RoundIn Fence.wide (n - 1) P l fn tm as_ bd w R) (hk : ∀ e w', R e w' → ∃ v, e = .returned v ∧ K (a.put o.dst v) w') : wpOpIn Fence.wide n P ops Q i K a w := by
  refine wpOpIn_step ho (fun K' hK => ?_)
  rw [if_pos (by simp [Region.wanted, hgd])]
  refine ⟨fun f _ => trivial, ?_⟩
  have e : Fence.wide.round = none := rfl
  rw [e, h, Oper.uponIn_round]
  refine ⟨(fun hd => by cases hd), hc.mono ?_⟩
  intro e w' hr
  obtain ⟨v, rfl, hv⟩ := hk e w' hr
  exact hK _ _ hv
end
theorem treeNear (Bs Bx : Nat) (k lv : Nat) (x : Int) (hk : 1 ≤ k) (hk2 : k ≤ 16) (hlv : 1 ≤ lv) (hlv2 : lv ≤ 5) (hww2 : k ^ (lv - 1) ≤ 1000) (hx : 0 ≤ x) (hx2 : x < (lv : Int) * ((k ^ (lv - 1) : Nat) : Int)) {w : World}
    (q0 : w.heap[Bs]? = some (.cells #[.int .i64 (k : Int), .int .i64 (lv : Int), .int .i64 ((k ^ (lv - 1) : Nat) : Int)] 142 (0, 0))) (q1 : w.heap[Bx]? = some (.cells #[.int .i64 x] 3 (0, 0))) (n : Nat) :
    SeqR n 187 #[.pointer (some ⟨Bx, 0, none⟩), .pointer (some ⟨Bs, 0, none⟩)] encI [Bs, Bx] (nbT k lv x) w := by
  intro ll J W hW hG hY h0
  have HC : Hid (Has [(Bs, .cells #[.int .i64 (k : Int), .int .i64 (lv : Int), .int .i64 ((k ^ (lv - 1) : Nat) : Int)] 142 (0, 0)), (Bx, .cells #[.int .i64 x] 3 (0, 0))] W) := by
    intro p hp
    simp only [List.mem_cons, List.not_mem_nil, or_false] at hp
    rcases hp with rfl | rfl
    · exact heapB hW q0
    · exact heapB hW q1
  have HY := Lib.hid hY
  have HG := Lib.hid hG
  clear hY hW q0 q1 hG
  have HWI := Lib.hid (fun (i : Nat) (wd d : Int) (h1 : i < lv - 1) (h2 : 0 ≤ wd) (h3 : wd < ((k ^ (lv - 1) : Nat) : Int)) (h4 : 0 ≤ d) (h5 : d < k) => wth_in (k := k) (i := i) (m := lv - 1) (x := wd) (d := d) hk h1 h2 h3 h4 h5)
  have hDL : nbT k lv x = lvT k lv ((k ^ (lv - 1) : Nat) : Int) (x / ((k ^ (lv - 1) : Nat) : Int)).toNat (x % ((k ^ (lv - 1) : Nat) : Int)) := rfl
  have hw1 : 1 ≤ k ^ (lv - 1) := pow_pos' hk
  obtain ⟨ww, hww⟩ : ∃ ww : Int, ww = ((k ^ (lv - 1) : Nat) : Int) := ⟨_, rfl⟩
  have hwa : 1 ≤ ww := by omega
  have hwb : ww ≤ 1000 := by omega
  rw [← hww] at hx2 hDL HWI HC
  have HWT := Lib.hid (fun (i : Nat) (hi : i ≤ 5) (v d : Int) (h1 : 0 ≤ v) (h2 : v ≤ 1000) (h3 : 0 ≤ d) (h4 : d ≤ 16) W => with_any k i hk hk2 hi (lv : Int) ww v d h1 h2 h3 h4 W)
  have hlx2 : x / ww < lv := Int.ediv_lt_of_lt_mul (by omega) hx2
  have hlx0 := Int.ediv_nonneg hx (show 0 ≤ ww by omega)
  have hwx0 := Int.emod_nonneg x (show ww ≠ 0 by omega)
  have hwx1 := Int.emod_lt_of_pos x (show 0 < ww by omega)
  have hne : ww ≠ 0 := by omega
  have E1 : wrap64 (x.tdiv ww) = x / ww := by rw [Int.tdiv_eq_ediv_of_nonneg hx]; unfold wrap64; omega
  have E2 : x.tmod ww = x % ww := Int.tmod_eq_emod_of_nonneg hx
  obtain ⟨lx, hlx⟩ := Int.eq_ofNat_of_zero_le hlx0
  rw [hlx] at hDL hlx2 E1
  have hlx3 : lx < lv := by omega
  rw [Int.toNat_natCast] at hDL
  have HDL := Lib.hid hDL
  generalize nbT k lv x = DL at *
  generalize x % ww = wx at *
  have k0 := HC.out.m0
  have k1 := HC.out.m1
  have c0 := cellR 0 k0 rfl
  have c1 := cellR 1 k0 rfl
  have c2 := cellR 2 k0 rfl
  have d0 := cellR 0 k1 rfl
  have HBD := Lib.hid (And.intro hk2 (And.intro hlv2 (And.intro hlx3 (And.intro hwa (And.intro hwb (And.intro hwx0 hwx1))))))
  clear hDL hww hlv hx hx2 hww2 hw1 hlx0 hlx2 hlx hk hlv2 hwx0 hwx1 hwb hwa
  refine callsIn_of_wp Tryz.func187 rfl trivial ?_ rfl
  simp only [Tryz.ntmps187, List.size_toArray, List.length_cons, List.length_nil, Nat.reduceAdd, Nat.reduceSub, Array.replicate_succ, Array.replicate_zero, List.push_toArray, List.append_toArray, List.nil_append, List.cons_append]
  gi_wp2
  refine wpIn_wide.2 ?_
  go_quiet (fail)
  have HC2 : Hid (Has [(Bs, .cells #[.int .i64 (k : Int), .int .i64 (lv : Int), .int .i64 ww] 142 (0, 0)), (Bx, .cells #[.int .i64 x] 3 (0, 0))] (W.drewN nq)) := HC.out
  clear HC
  have HC := HC2
  clear HC2
  replace h0 : J [] (W.drewN nq) := HG.out [] _ _ h0 (below_drewN (Below.refl _ _) _)
  generalize W.drewN nq = W1 at *
  rw [E1]
  clear k0 k1 c0 c1 c2 d0 E1 E2
  by_cases h1 : 0 < lx
  · obtain ⟨m, hm⟩ : ∃ m, lx = m + 1 := ⟨lx - 1, by omega⟩
    have HM := Lib.hid hm
    have d0 : decide ((lx : Int) > 0) = true := decide_eq_true (by omega)
    have d0' : decide (0 < lx) = true := decide_eq_true h1
    have c0 := cellR 0 HC.out.m0 rfl
    clear hm
    gi_wp2
    gi_loopw [20] (fun a wr => ∃ d : Nat, d ≤ k ∧ a = .int .i64 (d : Int) ∧ J (dnT k ww m wx d) wr ∧ Hid (Has [(Bs, .cells #[.int .i64 (k : Int), .int .i64 (lv : Int), .int .i64 ww] 142 (0, 0)), (Bx, .cells #[.int .i64 x] 3 (0, 0))] wr)) (fun a _ => k - (intOf a).toNat)
    case atStart => exact ⟨0, Nat.zero_le _, rfl, h0, HC⟩
    case round =>
      clear h0 HC
      obtain ⟨d, hd, rfl, hJ, HC1⟩ := hrel
      have c0 := cellR 0 HC1.out.m0 rfl
      have c1 := cellR 1 HC1.out.m0 rfl
      have c2 := cellR 2 HC1.out.m0 rfl
      by_cases hlt : d < k
      · have d1 : decide ((d : Int) < (k : Int)) = true := decide_eq_true (by omega)
        obtain ⟨wv, hwv⟩ : ∃ wv, wv = wthI k m wx (d : Int) := ⟨_, rfl⟩
        have HNX : Hid (dnT k ww m wx (d + 1) = dnT k ww m wx d ++ [(m : Int) * ww + wv]) := by show _ = _; rw [hwv]; exact dnT_succ _ _ _ _ _
        have HLT : Hid (dnT k ww m wx d ++ [(m : Int) * ww + wv] <+: DL) := by
          show _ <+: _
          rw [← HNX.out, HDL.out]; unfold lvT; rw [if_pos (by have := HM.out; omega), show lx - 1 = m by have := HM.out; omega]
          exact (dnT_mono k ww m wx (show d + 1 ≤ k from hlt)).trans (List.prefix_append _ _)
        have h9 := HBD.out
        have hwb2 := HWI.out m wx (d : Int) (by have := HM.out; omega) h9.2.2.2.2.2.1 h9.2.2.2.2.2.2 (by omega) (by omega)
        rw [← hwv] at hwb2
        have HW1 := Lib.hid (fun W => HWT.out m (by have := HM.out; omega) wx (d : Int) h9.2.2.2.2.2.1 (by omega) (by omega) (by omega) W)
        rw [← hwv] at HW1
        have hmw : 0 ≤ (m : Int) * ww ∧ (m : Int) * ww ≤ 5 * 1000 := ⟨Int.mul_nonneg (by omega) (by omega), Int.mul_le_mul (by have := HM.out; omega) (by omega) (by omega) (by omega)⟩
        have ES1 : Hid (∀ W, (binOp .sub 3 (.int .i64 (lx : Int)) (.int .i64 1)).run Tryz.prog W = .ok (.int .i64 (m : Int)) W) := fun W => by
          have h8 := i64_sub (lx : Int) 1 (by have := HM.out; omega) (by have := HM.out; omega) W
          rwa [show (lx : Int) - 1 = (m : Int) by have := HM.out; omega] at h8
        have EM1 := Lib.hid (fun W => i64_mul (m : Int) ww (by omega) (by omega) W)
        have EA1 := Lib.hid (fun W => i64_add ((m : Int) * ww) wv (by omega) (by omega) W)
        clear h9 hwb2 hmw hwv
        gi_wp2
        have hJ' : J (dnT k ww m wx d) wr.drew := HG.out _ _ _ hJ ((Below.refl _ _).drew)
        have HC9 : Hid (Has [(Bs, .cells #[.int .i64 (k : Int), .int .i64 (lv : Int), .int .i64 ww] 142 (0, 0)), (Bx, .cells #[.int .i64 x] 3 (0, 0))] wr.drew) := HC1.out
        clear HC1
        have HC1 := HC9
        clear HC9
        refine region_det (by kernel_rfl) (I := fun listed a' w' => Hid (Has [(Bs, .cells #[.int .i64 (k : Int), .int .i64 (lv : Int), .int .i64 ww] 142 (0, 0)), (Bx, .cells #[.int .i64 x] 3 (0, 0))] w') ∧ Hid (J (if listed.getD 13 false = true then dnT k ww m wx (d + 1) else dnT k ww m wx d) w') ∧ Hid (listed.getD 13 false = true → listed.getD 11 false = true) ∧ Hid (listed.getD 13 false = true → listed.getD 12 false = true) ∧ Hid (listed.getD 12 false = true → listed.getD 11 false = true) ∧ a' = ⟨#[Value.func (Fn.yield ll) #[] #[], Value.pointer (some (Addr.mk Bx 0 none)), Value.pointer (some (Addr.mk Bs 0 none)), undef, Value.int IntKind.i64 ↑lx, Value.int IntKind.i64 wx, Value.int IntKind.i64 ↑d, undef, Value.int IntKind.i64 x, Value.pointer (some (Addr.mk Bs 2 none)), Value.int IntKind.i64 ww, Value.int IntKind.i64 ↑lx, Value.int IntKind.i64 x, Value.pointer (some (Addr.mk Bs 2 none)), Value.int IntKind.i64 ww, Value.int IntKind.i64 wx, Value.int IntKind.i64 ↑lx, Value.bool true, Value.pointer (some (Addr.mk Bs 0 none)), Value.int IntKind.i64 ↑k, Value.int IntKind.i64 ↑d, Value.bool true, Value.int IntKind.i64 ↑d, (if listed.getD 0 false = true then Value.func (Fn.yield ll) #[] #[] else u23), (if listed.getD 1 false = true then Value.int IntKind.i64 ((lx : Int)) else u24), (if listed.getD 2 false = true then Value.int IntKind.i64 ((m : Int)) else u25), (if listed.getD 3 false = true then Value.pointer (some ⟨Bs, 2, none⟩) else u26), (if listed.getD 4 false = true then Value.int IntKind.i64 (ww) else u27), (if listed.getD 5 false = true then Value.int IntKind.i64 ((m : Int) * ww) else u28), (if listed.getD 6 false = true then Value.agg #[Value.int IntKind.i64 (k : Int), Value.int IntKind.i64 (lv : Int), Value.int IntKind.i64 ww] else u29), (if listed.getD 7 false = true then Value.int IntKind.i64 (wx) else u30), (if listed.getD 8 false = true then Value.int IntKind.i64 ((lx : Int)) else u31), (if listed.getD 9 false = true then Value.int IntKind.i64 ((m : Int)) else u32), (if listed.getD 10 false = true then Value.int IntKind.i64 ((d : Int)) else u33), (if listed.getD 11 false = true then Value.int IntKind.i64 (wv) else u34), (if listed.getD 12 false = true then Value.int IntKind.i64 ((m : Int) * ww + wv) else u35), (if listed.getD 13 false = true then Value.bool true else u36), (if listed.getD 14 false = true then Value.bool false else u37), u38, undef, undef, undef, undef, undef, undef, undef, undef, undef, undef, undef, undef, undef, undef, undef, undef, undef, undef, undef, undef, undef, undef, undef, undef, undef], []⟩) (hup_check (by kernel_rfl)) ?h0 ?step ?fin
        case h0 => exact ⟨HC1, Lib.hid hJ', (fun h => by simp at h), (fun h => by simp at h), (fun h => by simp at h), rfl⟩
        case step => as_aux_lemma =>
          intro listed a' w' i hs hbi hdep hi ⟨IC, IJ, JY, JZ, JX, ha⟩
          obtain ⟨ls⟩ := listed
          match ls, hs with
          | [x0, x1, x2, x3, x4, x5, x6, x7, x8, x9, x10, x11, x12, x13, x14], _ =>
          subst ha
          have hi' : i = 0 ∨ i = 1 ∨ i = 2 ∨ i = 3 ∨ i = 4 ∨ i = 5 ∨ i = 6 ∨ i = 7 ∨ i = 8 ∨ i = 9 ∨ i = 10 ∨ i = 11 ∨ i = 12 ∨ i = 13 ∨ i = 14 := by simp at hi; omega
          rcases hi' with rfl | rfl | rfl | rfl | rfl | rfl | rfl | rfl | rfl | rfl | rfl | rfl | rfl | rfl | rfl
          · obtain rfl : x0 = false := by simpa using hbi
            refine wpOpIn_plain rfl rfl rfl ?_
            exact ⟨IC, IJ, JY, JZ, JX, rfl⟩
          · obtain rfl : x1 = false := by simpa using hbi
            refine wpOpIn_plain rfl rfl rfl ?_
            exact ⟨IC, IJ, JY, JZ, JX, rfl⟩
          · obtain rfl : x2 = false := by simpa using hbi
            obtain rfl : x1 = true := hdep _ rfl ⟨1, .data⟩ (by simp) rfl
            refine wpOpIn_plain (v := Value.int IntKind.i64 ((m : Int))) (w' := w') rfl rfl (sem_bin (vx := Value.int IntKind.i64 ((lx : Int))) (vy := Value.int IntKind.i64 (1)) rfl rfl rfl rfl (ES1.out w')) ?_
            exact ⟨IC, IJ, JY, JZ, JX, rfl⟩
          · obtain rfl : x3 = false := by simpa using hbi
            refine wpOpIn_plain rfl rfl rfl ?_
            exact ⟨IC, IJ, JY, JZ, JX, rfl⟩
          · obtain rfl : x4 = false := by simpa using hbi
            obtain rfl : x3 = true := hdep _ rfl ⟨3, .data⟩ (by simp) rfl
            have c9 := cellR 2 IC.out.m0 rfl
            refine wpOpIn_plain (v := Value.int IntKind.i64 (ww)) (w' := w') rfl rfl (by simp [Oper.semAt, execOp, go_sem, c9]) ?_
            exact ⟨IC, IJ, JY, JZ, JX, rfl⟩
          · obtain rfl : x5 = false := by simpa using hbi
            obtain rfl : x2 = true := hdep _ rfl ⟨2, .data⟩ (by simp) rfl
            obtain rfl : x4 = true := hdep _ rfl ⟨4, .data⟩ (by simp) rfl
            refine wpOpIn_plain (v := Value.int IntKind.i64 ((m : Int) * ww)) (w' := w') rfl rfl (sem_bin (vx := Value.int IntKind.i64 ((m : Int))) (vy := Value.int IntKind.i64 (ww)) rfl rfl rfl rfl (EM1.out w')) ?_
            exact ⟨IC, IJ, JY, JZ, JX, rfl⟩
          · obtain rfl : x6 = false := by simpa using hbi
            refine wpOpIn_load_row rfl rfl 142 _ rfl Bs rfl 142 _ _ _ IC.out.m0 Tryz.underlying142 rfl info109 ?_
            exact ⟨IC, IJ, JY, JZ, JX, rfl⟩
          · obtain rfl : x7 = false := by simpa using hbi
            refine wpOpIn_plain rfl rfl rfl ?_
            exact ⟨IC, IJ, JY, JZ, JX, rfl⟩
          · obtain rfl : x8 = false := by simpa using hbi
            refine wpOpIn_plain rfl rfl rfl ?_
            exact ⟨IC, IJ, JY, JZ, JX, rfl⟩
          · obtain rfl : x9 = false := by simpa using hbi
            obtain rfl : x8 = true := hdep _ rfl ⟨8, .data⟩ (by simp) rfl
            refine wpOpIn_plain (v := Value.int IntKind.i64 ((m : Int))) (w' := w') rfl rfl (sem_bin (vx := Value.int IntKind.i64 ((lx : Int))) (vy := Value.int IntKind.i64 (1)) rfl rfl rfl rfl (ES1.out w')) ?_
            exact ⟨IC, IJ, JY, JZ, JX, rfl⟩
          · obtain rfl : x10 = false := by simpa using hbi
            refine wpOpIn_plain rfl rfl rfl ?_
            exact ⟨IC, IJ, JY, JZ, JX, rfl⟩
          · obtain rfl : x11 = false := by simpa using hbi
            obtain rfl : x6 = true := hdep _ rfl ⟨6, .data⟩ (by simp) rfl
            obtain rfl : x7 = true := hdep _ rfl ⟨7, .data⟩ (by simp) rfl
            obtain rfl : x9 = true := hdep _ rfl ⟨9, .data⟩ (by simp) rfl
            obtain rfl : x10 = true := hdep _ rfl ⟨10, .data⟩ (by simp) rfl
            obtain rfl : x13 = false := Bool.eq_false_iff.2 fun h => by have := JY.out h; cases this
            refine wpOpIn_call (args := #[Value.agg #[Value.int IntKind.i64 (k : Int), Value.int IntKind.i64 (lv : Int), Value.int IntKind.i64 ww], Value.int IntKind.i64 (wx), Value.int IntKind.i64 ((m : Int)), Value.int IntKind.i64 ((d : Int))]) rfl rfl (sem_call4 rfl rfl rfl rfl rfl (enters_of Tryz.func188 (by kernel_rfl) rfl)) (HW1.out w') ?_
            rintro e V ⟨rfl, hb⟩
            exact ⟨_, rfl, (Lib.hid (IC.out.below hb)), (Lib.hid (HG.out _ _ _ IJ.out hb)), (fun _ => rfl), JZ, (fun _ => rfl), rfl⟩
          · obtain rfl : x12 = false := by simpa using hbi
            obtain rfl : x5 = true := hdep _ rfl ⟨5, .data⟩ (by simp) rfl
            obtain rfl : x11 = true := hdep _ rfl ⟨11, .data⟩ (by simp) rfl
            obtain rfl : x13 = false := Bool.eq_false_iff.2 fun h => by have := JZ.out h; cases this
            refine wpOpIn_plain (v := Value.int IntKind.i64 ((m : Int) * ww + wv)) (w' := w') rfl rfl (sem_bin (vx := Value.int IntKind.i64 ((m : Int) * ww)) (vy := Value.int IntKind.i64 (wv)) rfl rfl rfl rfl (EA1.out w')) ?_
            exact ⟨IC, IJ, JY, (fun _ => rfl), (fun _ => rfl), rfl⟩
          · obtain rfl : x13 = false := by simpa using hbi
            obtain rfl : x0 = true := hdep _ rfl ⟨0, .data⟩ (by simp) rfl
            obtain rfl : x12 = true := hdep _ rfl ⟨12, .data⟩ (by simp) rfl
            have ij : J (dnT k ww m wx d) w' := IJ.out
            obtain ⟨fn, tm, as_, bd, hy, hR⟩ := HY.out (dnT k ww m wx d) ((m : Int) * ww + wv) w' ij HLT.out
            rw [show dnT k ww m wx d ++ [(m : Int) * ww + wv] = dnT k ww m wx (d + 1) from HNX.out.symm] at hR
            refine wpOpIn_yield rfl rfl (by simp [Oper.semAt, execOp, resolve, invoke, Deferred.ofValue, Act.eval, hy]) hR ?_
            rintro e V ⟨rfl, h1, hkq⟩
            exact ⟨_, rfl, (Lib.hid (IC.out.kept hkq)), (Lib.hid h1), (fun _ => JX.out rfl), (fun _ => rfl), JX, rfl⟩
          · obtain rfl : x14 = false := by simpa using hbi
            obtain rfl : x13 = true := hdep _ rfl ⟨13, .data⟩ (by simp) rfl
            refine wpOpIn_plain (v := Value.bool false) (w' := w') rfl rfl (by simp [Oper.semAt, execOp, go_sem]) ?_
            exact ⟨IC, IJ, JY, JZ, JX, rfl⟩
        case fin =>
        intro listed a' Z hs hall ⟨IC, IJ, JY, JZ, JX, ha⟩
        obtain ⟨ls⟩ := listed
        match ls, hs with
        | [x0, x1, x2, x3, x4, x5, x6, x7, x8, x9, x10, x11, x12, x13, x14], _ =>
        obtain rfl : x0 = true := hall 0 (by simp)
        obtain rfl : x1 = true := hall 1 (by simp)
        obtain rfl : x2 = true := hall 2 (by simp)
        obtain rfl : x3 = true := hall 3 (by simp)
        obtain rfl : x4 = true := hall 4 (by simp)
        obtain rfl : x5 = true := hall 5 (by simp)
        obtain rfl : x6 = true := hall 6 (by simp)
        obtain rfl : x7 = true := hall 7 (by simp)
        obtain rfl : x8 = true := hall 8 (by simp)
        obtain rfl : x9 = true := hall 9 (by simp)
        obtain rfl : x10 = true := hall 10 (by simp)
        obtain rfl : x11 = true := hall 11 (by simp)
        obtain rfl : x12 = true := hall 12 (by simp)
        obtain rfl : x13 = true := hall 13 (by simp)
        obtain rfl : x14 = true := hall 14 (by simp)
        subst ha
        have HC2 := IC
        have HJ2 := IJ
        clear IC IJ JX JY JZ hall hs
        dsimp only [Exit.then, Exit.inBlock]
        have HWI1 := Lib.hid (wrap_small ((d : Int) + 1) (by omega) (by have := HBD.out.1; omega))
        have HCS : Hid (((d : Int) + 1) = ((d + 1 : Nat) : Int)) := by show _ = _; rw [Int.natCast_add]; rfl
        have HME : Hid (k - (intOf (.int .i64 ((d : Int) + 1))).toNat < k - (intOf (.int .i64 (d : Int))).toNat) := by show _ < _; simp [intOf]; omega
        have HMO : Hid (k - (intOf (.int .i64 (wrap64 ((d : Int) + 1)))).toNat < k - (intOf (.int .i64 (d : Int))).toNat) := by show _ < _; rw [HWI1.out]; exact HME.out
        have HK1 : Hid (d + 1 ≤ k) := hlt
        clear HW1 ES1 EM1 EA1 HLT HNX
        gi_wp2
        go_roundw
        case rel => exact ⟨d + 1, HK1.out, by first | rw [HWI1.out, HCS.out] | rw [HCS.out], HJ2.out, HC2⟩
        case measure => first | exact HMO.out | exact HME.out
      · have hdk : k = d := by omega
        subst hdk
        have h0 := hJ
        have HC := HC1
        clear hJ HC1 c0 c1 c2
        have HQ : Hid ((if 0 < lx then dnT k ww (lx - 1) wx k else []) = dnT k ww m wx k) := by show _ = _; rw [if_pos (by have := HM.out; omega), show lx - 1 = m by have := HM.out; omega]
        obtain ⟨QQ, hQ⟩ : ∃ QQ, QQ = dnT k ww m wx k := ⟨_, rfl⟩
        rw [← hQ] at h0 HQ
        clear hQ hd hlt
        have HCK := HC
        have c0 := cellR 0 HC.out.m0 rfl
        have c1 := cellR 1 HC.out.m0 rfl
        have c2 := cellR 2 HC.out.m0 rfl
        by_cases hl2 : lx < lv - 1
        · have d2 : decide ((lx : Int) < (lv : Int) - 1) = true := decide_eq_true (by omega)
          have HDL2 : Hid (DL = QQ ++ upT k ww lx wx k) := by show _ = _; rw [HDL.out]; unfold lvT; rw [HQ.out, if_pos hl2]
          have HL2 := Lib.hid hl2
          have hlw : wrap64 ((lv : Int) - 1) = (lv : Int) - 1 := wrap_small _ (by omega) (by have := HBD.out.2.1; omega)
          gi_wp2
          clear c0 c1 c2 hlw d2
          gi_loopw [46] (fun a wr => ∃ d : Nat, d ≤ k ∧ a = .int .i64 (d : Int) ∧ J (QQ ++ upT k ww lx wx d) wr ∧ Hid (Has [(Bs, .cells #[.int .i64 (k : Int), .int .i64 (lv : Int), .int .i64 ww] 142 (0, 0)), (Bx, .cells #[.int .i64 x] 3 (0, 0))] wr)) (fun a _ => k - (intOf a).toNat)
          case atStart => exact ⟨0, Nat.zero_le _, rfl, by rw [show upT k ww lx wx 0 = [] from rfl, List.append_nil]; exact h0, HC⟩
          case round =>
            clear h0 HC HCK
            obtain ⟨d2, hd, rfl, hJ, HC1⟩ := hrel
            have c0 := cellR 0 HC1.out.m0 rfl
            have c1 := cellR 1 HC1.out.m0 rfl
            have c2 := cellR 2 HC1.out.m0 rfl
            by_cases hlt : d2 < k
            · have d1 : decide ((d2 : Int) < (k : Int)) = true := decide_eq_true (by omega)
              obtain ⟨wv, hwv⟩ : ∃ wv, wv = wthI k lx wx (d2 : Int) := ⟨_, rfl⟩
              have HNX : Hid (QQ ++ upT k ww lx wx (d2 + 1) = QQ ++ upT k ww lx wx d2 ++ [((lx : Int) + 1) * ww + wv]) := by show _ = _; rw [hwv, upT_succ, List.append_assoc]
              have HLT : Hid (QQ ++ upT k ww lx wx d2 ++ [((lx : Int) + 1) * ww + wv] <+: DL) := by
                show _ <+: _
                rw [← HNX.out, HDL2.out]
                obtain ⟨r, hr⟩ := upT_mono _ ww lx wx (show d2 + 1 ≤ k from hlt)
                exact ⟨r, by rw [List.append_assoc, hr]⟩
              have h9 := HBD.out
              have hwb2 := HWI.out lx wx (d2 : Int) HL2.out h9.2.2.2.2.2.1 h9.2.2.2.2.2.2 (by omega) (by omega)
              rw [← hwv] at hwb2
              have HW1 := Lib.hid (fun W => HWT.out lx (by omega) wx (d2 : Int) h9.2.2.2.2.2.1 (by omega) (by omega) (by omega) W)
              rw [← hwv] at HW1
              have hmw : 0 ≤ ((lx : Int) + 1) * ww ∧ ((lx : Int) + 1) * ww ≤ 6 * 1000 := ⟨Int.mul_nonneg (by omega) (by omega), Int.mul_le_mul (by omega) (by omega) (by omega) (by omega)⟩
              have ES1 := Lib.hid (fun W => i64_add (lx : Int) 1 (by omega) (by omega) W)
              have EM1 := Lib.hid (fun W => i64_mul ((lx : Int) + 1) ww (by omega) (by omega) W)
              have EA1 := Lib.hid (fun W => i64_add (((lx : Int) + 1) * ww) wv (by omega) (by omega) W)
              clear h9 hwb2 hmw hwv
              gi_wp2
              have hJ' : J (QQ ++ upT k ww lx wx d2) wr.drew := HG.out _ _ _ hJ ((Below.refl _ _).drew)
              have HC9 : Hid (Has [(Bs, .cells #[.int .i64 (k : Int), .int .i64 (lv : Int), .int .i64 ww] 142 (0, 0)), (Bx, .cells #[.int .i64 x] 3 (0, 0))] wr.drew) := HC1.out
              clear HC1
              have HC1 := HC9
              clear HC9
              refine region_det (by kernel_rfl) (I := fun listed a' w' => Hid (Has [(Bs, .cells #[.int .i64 (k : Int), .int .i64 (lv : Int), .int .i64 ww] 142 (0, 0)), (Bx, .cells #[.int .i64 x] 3 (0, 0))] w') ∧ Hid (J (if listed.getD 12 false = true then QQ ++ upT k ww lx wx (d2 + 1) else QQ ++ upT k ww lx wx d2) w') ∧ Hid (listed.getD 12 false = true → listed.getD 10 false = true) ∧ Hid (listed.getD 12 false = true → listed.getD 11 false = true) ∧ Hid (listed.getD 11 false = true → listed.getD 10 false = true) ∧ a' = ⟨#[Value.func (Fn.yield ll) #[] #[], Value.pointer (some (Addr.mk Bx 0 none)), Value.pointer (some (Addr.mk Bs 0 none)), undef, Value.int IntKind.i64 ↑lx, Value.int IntKind.i64 wx, u6, Value.int IntKind.i64 ↑d2, Value.int IntKind.i64 x, Value.pointer (some (Addr.mk Bs 2 none)), Value.int IntKind.i64 ww, Value.int IntKind.i64 ↑lx, Value.int IntKind.i64 x, Value.pointer (some (Addr.mk Bs 2 none)), Value.int IntKind.i64 ww, Value.int IntKind.i64 wx, Value.int IntKind.i64 ↑lx, Value.bool true, Value.pointer (some (Addr.mk Bs 0 none)), Value.int IntKind.i64 ↑k, Value.int IntKind.i64 ↑k, Value.bool false, u22, u23, u24, u25, u26, u27, u28, u29, u30, u31, u32, u33, u34, u35, u36, u37, u38, Value.int IntKind.i64 ↑lx, Value.pointer (some (Addr.mk Bs 1 none)), Value.int IntKind.i64 ↑lv, Value.int IntKind.i64 (↑lv - 1), Value.bool true, Value.pointer (some (Addr.mk Bs 0 none)), Value.int IntKind.i64 ↑k, Value.int IntKind.i64 ↑d2, Value.bool true, Value.int IntKind.i64 ↑d2, (if listed.getD 0 false = true then Value.func (Fn.yield ll) #[] #[] else u49), (if listed.getD 1 false = true then Value.int IntKind.i64 ((lx : Int)) else u50), (if listed.getD 2 false = true then Value.int IntKind.i64 ((lx : Int) + 1) else u51), (if listed.getD 3 false = true then Value.pointer (some ⟨Bs, 2, none⟩) else u52), (if listed.getD 4 false = true then Value.int IntKind.i64 (ww) else u53), (if listed.getD 5 false = true then Value.int IntKind.i64 (((lx : Int) + 1) * ww) else u54), (if listed.getD 6 false = true then Value.agg #[Value.int IntKind.i64 (k : Int), Value.int IntKind.i64 (lv : Int), Value.int IntKind.i64 ww] else u55), (if listed.getD 7 false = true then Value.int IntKind.i64 (wx) else u56), (if listed.getD 8 false = true then Value.int IntKind.i64 ((lx : Int)) else u57), (if listed.getD 9 false = true then Value.int IntKind.i64 ((d2 : Int)) else u58), (if listed.getD 10 false = true then Value.int IntKind.i64 (wv) else u59), (if listed.getD 11 false = true then Value.int IntKind.i64 (((lx : Int) + 1) * ww + wv) else u60), (if listed.getD 12 false = true then Value.bool true else u61), (if listed.getD 13 false = true then Value.bool false else u62), u63], []⟩) (hup_check (by kernel_rfl)) ?h0 ?step ?fin
              case h0 => exact ⟨HC1, Lib.hid hJ', (fun h => by simp at h), (fun h => by simp at h), (fun h => by simp at h), rfl⟩
              case step => as_aux_lemma =>
                intro listed a' w' i hs hbi hdep hi ⟨IC, IJ, JY, JZ, JX, ha⟩
                obtain ⟨ls⟩ := listed
                match ls, hs with
                | [x0, x1, x2, x3, x4, x5, x6, x7, x8, x9, x10, x11, x12, x13], _ =>
                subst ha
                have hi' : i = 0 ∨ i = 1 ∨ i = 2 ∨ i = 3 ∨ i = 4 ∨ i = 5 ∨ i = 6 ∨ i = 7 ∨ i = 8 ∨ i = 9 ∨ i = 10 ∨ i = 11 ∨ i = 12 ∨ i = 13 := by simp at hi; omega
                rcases hi' with rfl | rfl | rfl | rfl | rfl | rfl | rfl | rfl | rfl | rfl | rfl | rfl | rfl | rfl
                · obtain rfl : x0 = false := by simpa using hbi
                  refine wpOpIn_plain rfl rfl rfl ?_
                  exact ⟨IC, IJ, JY, JZ, JX, rfl⟩
                · obtain rfl : x1 = false := by simpa using hbi
                  refine wpOpIn_plain rfl rfl rfl ?_
                  exact ⟨IC, IJ, JY, JZ, JX, rfl⟩
                · obtain rfl : x2 = false := by simpa using hbi
                  obtain rfl : x1 = true := hdep _ rfl ⟨1, .data⟩ (by simp) rfl
                  refine wpOpIn_plain (v := Value.int IntKind.i64 ((lx : Int) + 1)) (w' := w') rfl rfl (sem_bin (vx := Value.int IntKind.i64 ((lx : Int))) (vy := Value.int IntKind.i64 (1)) rfl rfl rfl rfl (ES1.out w')) ?_
                  exact ⟨IC, IJ, JY, JZ, JX, rfl⟩
                · obtain rfl : x3 = false := by simpa using hbi
                  refine wpOpIn_plain rfl rfl rfl ?_
                  exact ⟨IC, IJ, JY, JZ, JX, rfl⟩
                · obtain rfl : x4 = false := by simpa using hbi
                  obtain rfl : x3 = true := hdep _ rfl ⟨3, .data⟩ (by simp) rfl
                  have c9 := cellR 2 IC.out.m0 rfl
                  refine wpOpIn_plain (v := Value.int IntKind.i64 (ww)) (w' := w') rfl rfl (by simp [Oper.semAt, execOp, go_sem, c9]) ?_
                  exact ⟨IC, IJ, JY, JZ, JX, rfl⟩
                · obtain rfl : x5 = false := by simpa using hbi
                  obtain rfl : x2 = true := hdep _ rfl ⟨2, .data⟩ (by simp) rfl
                  obtain rfl : x4 = true := hdep _ rfl ⟨4, .data⟩ (by simp) rfl
                  refine wpOpIn_plain (v := Value.int IntKind.i64 (((lx : Int) + 1) * ww)) (w' := w') rfl rfl (sem_bin (vx := Value.int IntKind.i64 (((lx : Int) + 1))) (vy := Value.int IntKind.i64 (ww)) rfl rfl rfl rfl (EM1.out w')) ?_
                  exact ⟨IC, IJ, JY, JZ, JX, rfl⟩
                · obtain rfl : x6 = false := by simpa using hbi
                  refine wpOpIn_load_row rfl rfl 142 _ rfl Bs rfl 142 _ _ _ IC.out.m0 Tryz.underlying142 rfl info109 ?_
                  exact ⟨IC, IJ, JY, JZ, JX, rfl⟩
                · obtain rfl : x7 = false := by simpa using hbi
                  refine wpOpIn_plain rfl rfl rfl ?_
                  exact ⟨IC, IJ, JY, JZ, JX, rfl⟩
                · obtain rfl : x8 = false := by simpa using hbi
                  refine wpOpIn_plain rfl rfl rfl ?_
                  exact ⟨IC, IJ, JY, JZ, JX, rfl⟩
                · obtain rfl : x9 = false := by simpa using hbi
                  refine wpOpIn_plain rfl rfl rfl ?_
                  exact ⟨IC, IJ, JY, JZ, JX, rfl⟩
                · obtain rfl : x10 = false := by simpa using hbi
                  obtain rfl : x6 = true := hdep _ rfl ⟨6, .data⟩ (by simp) rfl
                  obtain rfl : x7 = true := hdep _ rfl ⟨7, .data⟩ (by simp) rfl
                  obtain rfl : x8 = true := hdep _ rfl ⟨8, .data⟩ (by simp) rfl
                  obtain rfl : x9 = true := hdep _ rfl ⟨9, .data⟩ (by simp) rfl
                  obtain rfl : x12 = false := Bool.eq_false_iff.2 fun h => by have := JY.out h; cases this
                  refine wpOpIn_call (args := #[Value.agg #[Value.int IntKind.i64 (k : Int), Value.int IntKind.i64 (lv : Int), Value.int IntKind.i64 ww], Value.int IntKind.i64 (wx), Value.int IntKind.i64 ((lx : Int)), Value.int IntKind.i64 ((d2 : Int))]) rfl rfl (sem_call4 rfl rfl rfl rfl rfl (enters_of Tryz.func188 (by kernel_rfl) rfl)) (HW1.out w') ?_
                  rintro e V ⟨rfl, hb⟩
                  exact ⟨_, rfl, (Lib.hid (IC.out.below hb)), (Lib.hid (HG.out _ _ _ IJ.out hb)), (fun _ => rfl), JZ, (fun _ => rfl), rfl⟩
                · obtain rfl : x11 = false := by simpa using hbi
                  obtain rfl : x5 = true := hdep _ rfl ⟨5, .data⟩ (by simp) rfl
                  obtain rfl : x10 = true := hdep _ rfl ⟨10, .data⟩ (by simp) rfl
                  obtain rfl : x12 = false := Bool.eq_false_iff.2 fun h => by have := JZ.out h; cases this
                  refine wpOpIn_plain (v := Value.int IntKind.i64 (((lx : Int) + 1) * ww + wv)) (w' := w') rfl rfl (sem_bin (vx := Value.int IntKind.i64 (((lx : Int) + 1) * ww)) (vy := Value.int IntKind.i64 (wv)) rfl rfl rfl rfl (EA1.out w')) ?_
                  exact ⟨IC, IJ, JY, (fun _ => rfl), (fun _ => rfl), rfl⟩
                · obtain rfl : x12 = false := by simpa using hbi
                  obtain rfl : x0 = true := hdep _ rfl ⟨0, .data⟩ (by simp) rfl
                  obtain rfl : x11 = true := hdep _ rfl ⟨11, .data⟩ (by simp) rfl
                  have ij : J (QQ ++ upT k ww lx wx d2) w' := IJ.out
                  obtain ⟨fn, tm, as_, bd, hy, hR⟩ := HY.out (QQ ++ upT k ww lx wx d2) (((lx : Int) + 1) * ww + wv) w' ij HLT.out
                  rw [show QQ ++ upT k ww lx wx d2 ++ [((lx : Int) + 1) * ww + wv] = QQ ++ upT k ww lx wx (d2 + 1) from HNX.out.symm] at hR
                  refine wpOpIn_yield rfl rfl (by simp [Oper.semAt, execOp, resolve, invoke, Deferred.ofValue, Act.eval, hy]) hR ?_
                  rintro e V ⟨rfl, h1, hkq⟩
                  exact ⟨_, rfl, (Lib.hid (IC.out.kept hkq)), (Lib.hid h1), (fun _ => JX.out rfl), (fun _ => rfl), JX, rfl⟩
                · obtain rfl : x13 = false := by simpa using hbi
                  obtain rfl : x12 = true := hdep _ rfl ⟨12, .data⟩ (by simp) rfl
                  refine wpOpIn_plain (v := Value.bool false) (w' := w') rfl rfl (by simp [Oper.semAt, execOp, go_sem]) ?_
                  exact ⟨IC, IJ, JY, JZ, JX, rfl⟩
              case fin =>
              intro listed a' Z hs hall ⟨IC, IJ, JY, JZ, JX, ha⟩
              obtain ⟨ls⟩ := listed
              match ls, hs with
              | [x0, x1, x2, x3, x4, x5, x6, x7, x8, x9, x10, x11, x12, x13], _ =>
              obtain rfl : x0 = true := hall 0 (by simp)
              obtain rfl : x1 = true := hall 1 (by simp)
              obtain rfl : x2 = true := hall 2 (by simp)
              obtain rfl : x3 = true := hall 3 (by simp)
              obtain rfl : x4 = true := hall 4 (by simp)
              obtain rfl : x5 = true := hall 5 (by simp)
              obtain rfl : x6 = true := hall 6 (by simp)
              obtain rfl : x7 = true := hall 7 (by simp)
              obtain rfl : x8 = true := hall 8 (by simp)
              obtain rfl : x9 = true := hall 9 (by simp)
              obtain rfl : x10 = true := hall 10 (by simp)
              obtain rfl : x11 = true := hall 11 (by simp)
              obtain rfl : x12 = true := hall 12 (by simp)
              obtain rfl : x13 = true := hall 13 (by simp)
              subst ha
              have HC2 := IC
              have HJ2 := IJ
              clear IC IJ JX JY JZ hall hs
              dsimp only [Exit.then, Exit.inBlock]
              have HWI1 := Lib.hid (wrap_small ((d2 : Int) + 1) (by omega) (by have := HBD.out.1; omega))
              have HCS : Hid (((d2 : Int) + 1) = ((d2 + 1 : Nat) : Int)) := by show _ = _; rw [Int.natCast_add]; rfl
              have HME : Hid (k - (intOf (.int .i64 ((d2 : Int) + 1))).toNat < k - (intOf (.int .i64 (d2 : Int))).toNat) := by show _ < _; simp [intOf]; omega
              have HMO : Hid (k - (intOf (.int .i64 (wrap64 ((d2 : Int) + 1)))).toNat < k - (intOf (.int .i64 (d2 : Int))).toNat) := by show _ < _; rw [HWI1.out]; exact HME.out
              have HK1 : Hid (d2 + 1 ≤ k) := hlt
              clear HW1 ES1 EM1 EA1 HLT HNX
              gi_wp2
              go_roundw
              case rel => exact ⟨d2 + 1, HK1.out, by first | rw [HWI1.out, HCS.out] | rw [HCS.out], HJ2.out, HC2⟩
              case measure => first | exact HMO.out | exact HME.out
            · have hdk : k = d2 := by omega
              subst hdk
              clear HC1 c0 c1 c2
              rw [← HDL2.out] at hJ
              gi_wp2
              go_end0
              exact ⟨⟨_, rfl⟩, hJ⟩
        · have d2 : decide ((lx : Int) < (lv : Int) - 1) = false := decide_eq_false (by have := HBD.out.2.2.1; omega)
          have HDL2 : Hid (DL = QQ) := by show _ = _; rw [HDL.out]; unfold lvT; rw [HQ.out, if_neg hl2, List.append_nil]
          have hlw : wrap64 ((lv : Int) - 1) = (lv : Int) - 1 := wrap_small _ (by omega) (by have := HBD.out.2.1; omega)
          rw [← HDL2.out] at h0
          gi_wp2
          go_end0
          exact ⟨⟨_, rfl⟩, h0⟩
  · have h1e : lx = 0 := by omega
    have d0 : decide ((lx : Int) > 0) = false := decide_eq_false (by omega)
    have d0' : decide (0 < lx) = false := decide_eq_false h1
    obtain ⟨QQ, hQ⟩ : ∃ QQ : List Int, QQ = [] := ⟨_, rfl⟩
    have HQ : Hid ((if 0 < lx then dnT k ww (lx - 1) wx k else []) = QQ) := by show _ = _; rw [if_neg h1, hQ]
    rw [← hQ] at h0
    clear hQ h1e
    have HCK := HC
    have c0 := cellR 0 HC.out.m0 rfl
    have c1 := cellR 1 HC.out.m0 rfl
    have c2 := cellR 2 HC.out.m0 rfl
    by_cases hl2 : lx < lv - 1
    · have d2 : decide ((lx : Int) < (lv : Int) - 1) = true := decide_eq_true (by omega)
      have HDL2 : Hid (DL = QQ ++ upT k ww lx wx k) := by show _ = _; rw [HDL.out]; unfold lvT; rw [HQ.out, if_pos hl2]
      have HL2 := Lib.hid hl2
      have hlw : wrap64 ((lv : Int) - 1) = (lv : Int) - 1 := wrap_small _ (by omega) (by have := HBD.out.2.1; omega)
      gi_wp2
      clear c0 c1 c2 hlw d2
      gi_loopw [46] (fun a wr => ∃ d : Nat, d ≤ k ∧ a = .int .i64 (d : Int) ∧ J (QQ ++ upT k ww lx wx d) wr ∧ Hid (Has [(Bs, .cells #[.int .i64 (k : Int), .int .i64 (lv : Int), .int .i64 ww] 142 (0, 0)), (Bx, .cells #[.int .i64 x] 3 (0, 0))] wr)) (fun a _ => k - (intOf a).toNat)
      case atStart => exact ⟨0, Nat.zero_le _, rfl, by rw [show upT k ww lx wx 0 = [] from rfl, List.append_nil]; exact h0, HC⟩
      case round =>
        clear h0 HC HCK
        obtain ⟨d2, hd, rfl, hJ, HC1⟩ := hrel
        have c0 := cellR 0 HC1.out.m0 rfl
        have c1 := cellR 1 HC1.out.m0 rfl
        have c2 := cellR 2 HC1.out.m0 rfl
        by_cases hlt : d2 < k
        · have d1 : decide ((d2 : Int) < (k : Int)) = true := decide_eq_true (by omega)
          obtain ⟨wv, hwv⟩ : ∃ wv, wv = wthI k lx wx (d2 : Int) := ⟨_, rfl⟩
          have HNX : Hid (QQ ++ upT k ww lx wx (d2 + 1) = QQ ++ upT k ww lx wx d2 ++ [((lx : Int) + 1) * ww + wv]) := by show _ = _; rw [hwv, upT_succ, List.append_assoc]
          have HLT : Hid (QQ ++ upT k ww lx wx d2 ++ [((lx : Int) + 1) * ww + wv] <+: DL) := by
            show _ <+: _
            rw [← HNX.out, HDL2.out]
            obtain ⟨r, hr⟩ := upT_mono _ ww lx wx (show d2 + 1 ≤ k from hlt)
            exact ⟨r, by rw [List.append_assoc, hr]⟩
          have h9 := HBD.out
          have hwb2 := HWI.out lx wx (d2 : Int) HL2.out h9.2.2.2.2.2.1 h9.2.2.2.2.2.2 (by omega) (by omega)
          rw [← hwv] at hwb2
          have HW1 := Lib.hid (fun W => HWT.out lx (by omega) wx (d2 : Int) h9.2.2.2.2.2.1 (by omega) (by omega) (by omega) W)
          rw [← hwv] at HW1
          have hmw : 0 ≤ ((lx : Int) + 1) * ww ∧ ((lx : Int) + 1) * ww ≤ 6 * 1000 := ⟨Int.mul_nonneg (by omega) (by omega), Int.mul_le_mul (by omega) (by omega) (by omega) (by omega)⟩
          have ES1 := Lib.hid (fun W => i64_add (lx : Int) 1 (by omega) (by omega) W)
          have EM1 := Lib.hid (fun W => i64_mul ((lx : Int) + 1) ww (by omega) (by omega) W)
          have EA1 := Lib.hid (fun W => i64_add (((lx : Int) + 1) * ww) wv (by omega) (by omega) W)
          clear h9 hwb2 hmw hwv
          gi_wp2
          have hJ' : J (QQ ++ upT k ww lx wx d2) wr.drew := HG.out _ _ _ hJ ((Below.refl _ _).drew)
          have HC9 : Hid (Has [(Bs, .cells #[.int .i64 (k : Int), .int .i64 (lv : Int), .int .i64 ww] 142 (0, 0)), (Bx, .cells #[.int .i64 x] 3 (0, 0))] wr.drew) := HC1.out
          clear HC1
          have HC1 := HC9
          clear HC9
          refine region_det (by kernel_rfl) (I := fun listed a' w' => Hid (Has [(Bs, .cells #[.int .i64 (k : Int), .int .i64 (lv : Int), .int .i64 ww] 142 (0, 0)), (Bx, .cells #[.int .i64 x] 3 (0, 0))] w') ∧ Hid (J (if listed.getD 12 false = true then QQ ++ upT k ww lx wx (d2 + 1) else QQ ++ upT k ww lx wx d2) w') ∧ Hid (listed.getD 12 false = true → listed.getD 10 false = true) ∧ Hid (listed.getD 12 false = true → listed.getD 11 false = true) ∧ Hid (listed.getD 11 false = true → listed.getD 10 false = true) ∧ a' = ⟨#[Value.func (Fn.yield ll) #[] #[], Value.pointer (some (Addr.mk Bx 0 none)), Value.pointer (some (Addr.mk Bs 0 none)), undef, Value.int IntKind.i64 ↑lx, Value.int IntKind.i64 wx, undef, Value.int IntKind.i64 ↑d2, Value.int IntKind.i64 x, Value.pointer (some (Addr.mk Bs 2 none)), Value.int IntKind.i64 ww, Value.int IntKind.i64 ↑lx, Value.int IntKind.i64 x, Value.pointer (some (Addr.mk Bs 2 none)), Value.int IntKind.i64 ww, Value.int IntKind.i64 wx, Value.int IntKind.i64 ↑lx, Value.bool false, undef, undef, undef, undef, undef, undef, undef, undef, undef, undef, undef, undef, undef, undef, undef, undef, undef, undef, undef, undef, undef, Value.int IntKind.i64 ↑lx, Value.pointer (some (Addr.mk Bs 1 none)), Value.int IntKind.i64 ↑lv, Value.int IntKind.i64 (↑lv - 1), Value.bool true, Value.pointer (some (Addr.mk Bs 0 none)), Value.int IntKind.i64 ↑k, Value.int IntKind.i64 ↑d2, Value.bool true, Value.int IntKind.i64 ↑d2, (if listed.getD 0 false = true then Value.func (Fn.yield ll) #[] #[] else u49), (if listed.getD 1 false = true then Value.int IntKind.i64 ((lx : Int)) else u50), (if listed.getD 2 false = true then Value.int IntKind.i64 ((lx : Int) + 1) else u51), (if listed.getD 3 false = true then Value.pointer (some ⟨Bs, 2, none⟩) else u52), (if listed.getD 4 false = true then Value.int IntKind.i64 (ww) else u53), (if listed.getD 5 false = true then Value.int IntKind.i64 (((lx : Int) + 1) * ww) else u54), (if listed.getD 6 false = true then Value.agg #[Value.int IntKind.i64 (k : Int), Value.int IntKind.i64 (lv : Int), Value.int IntKind.i64 ww] else u55), (if listed.getD 7 false = true then Value.int IntKind.i64 (wx) else u56), (if listed.getD 8 false = true then Value.int IntKind.i64 ((lx : Int)) else u57), (if listed.getD 9 false = true then Value.int IntKind.i64 ((d2 : Int)) else u58), (if listed.getD 10 false = true then Value.int IntKind.i64 (wv) else u59), (if listed.getD 11 false = true then Value.int IntKind.i64 (((lx : Int) + 1) * ww + wv) else u60), (if listed.getD 12 false = true then Value.bool true else u61), (if listed.getD 13 false = true then Value.bool false else u62), u63], []⟩) (hup_check (by kernel_rfl)) ?h0 ?step ?fin
          case h0 => exact ⟨HC1, Lib.hid hJ', (fun h => by simp at h), (fun h => by simp at h), (fun h => by simp at h), rfl⟩
          case step => as_aux_lemma =>
            intro listed a' w' i hs hbi hdep hi ⟨IC, IJ, JY, JZ, JX, ha⟩
            obtain ⟨ls⟩ := listed
            match ls, hs with
            | [x0, x1, x2, x3, x4, x5, x6, x7, x8, x9, x10, x11, x12, x13], _ =>
            subst ha
            have hi' : i = 0 ∨ i = 1 ∨ i = 2 ∨ i = 3 ∨ i = 4 ∨ i = 5 ∨ i = 6 ∨ i = 7 ∨ i = 8 ∨ i = 9 ∨ i = 10 ∨ i = 11 ∨ i = 12 ∨ i = 13 := by simp at hi; omega
            rcases hi' with rfl | rfl | rfl | rfl | rfl | rfl | rfl | rfl | rfl | rfl | rfl | rfl | rfl | rfl
            · obtain rfl : x0 = false := by simpa using hbi
              refine wpOpIn_plain rfl rfl rfl ?_
              exact ⟨IC, IJ, JY, JZ, JX, rfl⟩
            · obtain rfl : x1 = false := by simpa using hbi
              refine wpOpIn_plain rfl rfl rfl ?_
              exact ⟨IC, IJ, JY, JZ, JX, rfl⟩
            · obtain rfl : x2 = false := by simpa using hbi
              obtain rfl : x1 = true := hdep _ rfl ⟨1, .data⟩ (by simp) rfl
              refine wpOpIn_plain (v := Value.int IntKind.i64 ((lx : Int) + 1)) (w' := w') rfl rfl (sem_bin (vx := Value.int IntKind.i64 ((lx : Int))) (vy := Value.int IntKind.i64 (1)) rfl rfl rfl rfl (ES1.out w')) ?_
              exact ⟨IC, IJ, JY, JZ, JX, rfl⟩
            · obtain rfl : x3 = false := by simpa using hbi
              refine wpOpIn_plain rfl rfl rfl ?_
              exact ⟨IC, IJ, JY, JZ, JX, rfl⟩
            · obtain rfl : x4 = false := by simpa using hbi
              obtain rfl : x3 = true := hdep _ rfl ⟨3, .data⟩ (by simp) rfl
              have c9 := cellR 2 IC.out.m0 rfl
              refine wpOpIn_plain (v := Value.int IntKind.i64 (ww)) (w' := w') rfl rfl (by simp [Oper.semAt, execOp, go_sem, c9]) ?_
              exact ⟨IC, IJ, JY, JZ, JX, rfl⟩
            · obtain rfl : x5 = false := by simpa using hbi
              obtain rfl : x2 = true := hdep _ rfl ⟨2, .data⟩ (by simp) rfl
              obtain rfl : x4 = true := hdep _ rfl ⟨4, .data⟩ (by simp) rfl
              refine wpOpIn_plain (v := Value.int IntKind.i64 (((lx : Int) + 1) * ww)) (w' := w') rfl rfl (sem_bin (vx := Value.int IntKind.i64 (((lx : Int) + 1))) (vy := Value.int IntKind.i64 (ww)) rfl rfl rfl rfl (EM1.out w')) ?_
              exact ⟨IC, IJ, JY, JZ, JX, rfl⟩
            · obtain rfl : x6 = false := by simpa using hbi
              refine wpOpIn_load_row rfl rfl 142 _ rfl Bs rfl 142 _ _ _ IC.out.m0 Tryz.underlying142 rfl info109 ?_
              exact ⟨IC, IJ, JY, JZ, JX, rfl⟩
            · obtain rfl : x7 = false := by simpa using hbi
              refine wpOpIn_plain rfl rfl rfl ?_
              exact ⟨IC, IJ, JY, JZ, JX, rfl⟩
            · obtain rfl : x8 = false := by simpa using hbi
              refine wpOpIn_plain rfl rfl rfl ?_
              exact ⟨IC, IJ, JY, JZ, JX, rfl⟩
            · obtain rfl : x9 = false := by simpa using hbi
              refine wpOpIn_plain rfl rfl rfl ?_
              exact ⟨IC, IJ, JY, JZ, JX, rfl⟩
            · obtain rfl : x10 = false := by simpa using hbi
              obtain rfl : x6 = true := hdep _ rfl ⟨6, .data⟩ (by simp) rfl
              obtain rfl : x7 = true := hdep _ rfl ⟨7, .data⟩ (by simp) rfl
              obtain rfl : x8 = true := hdep _ rfl ⟨8, .data⟩ (by simp) rfl
              obtain rfl : x9 = true := hdep _ rfl ⟨9, .data⟩ (by simp) rfl
              obtain rfl : x12 = false := Bool.eq_false_iff.2 fun h => by have := JY.out h; cases this
              refine wpOpIn_call (args := #[Value.agg #[Value.int IntKind.i64 (k : Int), Value.int IntKind.i64 (lv : Int), Value.int IntKind.i64 ww], Value.int IntKind.i64 (wx), Value.int IntKind.i64 ((lx : Int)), Value.int IntKind.i64 ((d2 : Int))]) rfl rfl (sem_call4 rfl rfl rfl rfl rfl (enters_of Tryz.func188 (by kernel_rfl) rfl)) (HW1.out w') ?_
              rintro e V ⟨rfl, hb⟩
              exact ⟨_, rfl, (Lib.hid (IC.out.below hb)), (Lib.hid (HG.out _ _ _ IJ.out hb)), (fun _ => rfl), JZ, (fun _ => rfl), rfl⟩
            · obtain rfl : x11 = false := by simpa using hbi
              obtain rfl : x5 = true := hdep _ rfl ⟨5, .data⟩ (by simp) rfl
              obtain rfl : x10 = true := hdep _ rfl ⟨10, .data⟩ (by simp) rfl
              obtain rfl : x12 = false := Bool.eq_false_iff.2 fun h => by have := JZ.out h; cases this
              refine wpOpIn_plain (v := Value.int IntKind.i64 (((lx : Int) + 1) * ww + wv)) (w' := w') rfl rfl (sem_bin (vx := Value.int IntKind.i64 (((lx : Int) + 1) * ww)) (vy := Value.int IntKind.i64 (wv)) rfl rfl rfl rfl (EA1.out w')) ?_
              exact ⟨IC, IJ, JY, (fun _ => rfl), (fun _ => rfl), rfl⟩
            · obtain rfl : x12 = false := by simpa using hbi
              obtain rfl : x0 = true := hdep _ rfl ⟨0, .data⟩ (by simp) rfl
              obtain rfl : x11 = true := hdep _ rfl ⟨11, .data⟩ (by simp) rfl
              have ij : J (QQ ++ upT k ww lx wx d2) w' := IJ.out
              obtain ⟨fn, tm, as_, bd, hy, hR⟩ := HY.out (QQ ++ upT k ww lx wx d2) (((lx : Int) + 1) * ww + wv) w' ij HLT.out
              rw [show QQ ++ upT k ww lx wx d2 ++ [((lx : Int) + 1) * ww + wv] = QQ ++ upT k ww lx wx (d2 + 1) from HNX.out.symm] at hR
              refine wpOpIn_yield rfl rfl (by simp [Oper.semAt, execOp, resolve, invoke, Deferred.ofValue, Act.eval, hy]) hR ?_
              rintro e V ⟨rfl, h1, hkq⟩
              exact ⟨_, rfl, (Lib.hid (IC.out.kept hkq)), (Lib.hid h1), (fun _ => JX.out rfl), (fun _ => rfl), JX, rfl⟩
            · obtain rfl : x13 = false := by simpa using hbi
              obtain rfl : x12 = true := hdep _ rfl ⟨12, .data⟩ (by simp) rfl
              refine wpOpIn_plain (v := Value.bool false) (w' := w') rfl rfl (by simp [Oper.semAt, execOp, go_sem]) ?_
              exact ⟨IC, IJ, JY, JZ, JX, rfl⟩
          case fin =>
          intro listed a' Z hs hall ⟨IC, IJ, JY, JZ, JX, ha⟩
          obtain ⟨ls⟩ := listed
          match ls, hs with
          | [x0, x1, x2, x3, x4, x5, x6, x7, x8, x9, x10, x11, x12, x13], _ =>
          obtain rfl : x0 = true := hall 0 (by simp)
          obtain rfl : x1 = true := hall 1 (by simp)
          obtain rfl : x2 = true := hall 2 (by simp)
          obtain rfl : x3 = true := hall 3 (by simp)
          obtain rfl : x4 = true := hall 4 (by simp)
          obtain rfl : x5 = true := hall 5 (by simp)
          obtain rfl : x6 = true := hall 6 (by simp)
          obtain rfl : x7 = true := hall 7 (by simp)
          obtain rfl : x8 = true := hall 8 (by simp)
          obtain rfl : x9 = true := hall 9 (by simp)
          obtain rfl : x10 = true := hall 10 (by simp)
          obtain rfl : x11 = true := hall 11 (by simp)
          obtain rfl : x12 = true := hall 12 (by simp)
          obtain rfl : x13 = true := hall 13 (by simp)
          subst ha
          have HC2 := IC
          have HJ2 := IJ
          clear IC IJ JX JY JZ hall hs
          dsimp only [Exit.then, Exit.inBlock]
          have HWI1 := Lib.hid (wrap_small ((d2 : Int) + 1) (by omega) (by have := HBD.out.1; omega))
          have HCS : Hid (((d2 : Int) + 1) = ((d2 + 1 : Nat) : Int)) := by show _ = _; rw [Int.natCast_add]; rfl
          have HME : Hid (k - (intOf (.int .i64 ((d2 : Int) + 1))).toNat < k - (intOf (.int .i64 (d2 : Int))).toNat) := by show _ < _; simp [intOf]; omega
          have HMO : Hid (k - (intOf (.int .i64 (wrap64 ((d2 : Int) + 1)))).toNat < k - (intOf (.int .i64 (d2 : Int))).toNat) := by show _ < _; rw [HWI1.out]; exact HME.out
          have HK1 : Hid (d2 + 1 ≤ k) := hlt
          clear HW1 ES1 EM1 EA1 HLT HNX
          gi_wp2
          go_roundw
          case rel => exact ⟨d2 + 1, HK1.out, by first | rw [HWI1.out, HCS.out] | rw [HCS.out], HJ2.out, HC2⟩
          case measure => first | exact HMO.out | exact HME.out
        · have hdk : k = d2 := by omega
          subst hdk
          clear HC1 c0 c1 c2
          rw [← HDL2.out] at hJ
          gi_wp2
          go_end0
          exact ⟨⟨_, rfl⟩, hJ⟩
    · have d2 : decide ((lx : Int) < (lv : Int) - 1) = false := decide_eq_false (by have := HBD.out.2.2.1; omega)
      have HDL2 : Hid (DL = QQ) := by show _ = _; rw [HDL.out]; unfold lvT; rw [HQ.out, if_neg hl2, List.append_nil]
      have hlw : wrap64 ((lv : Int) - 1) = (lv : Int) - 1 := wrap_small _ (by omega) (by have := HBD.out.2.1; omega)
      rw [← HDL2.out] at h0
      gi_wp2
      go_end0
      exact ⟨⟨_, rfl⟩, h0⟩
end Go.Proofs.YtbhkenphcahifaaGreat
/-
  The library's contracts for the sort, Compact and bits.Mul, at this program's own numbers.
-/
namespace Go.Proofs.YtbhkenphcahifaaGreat
open Go.Shelf
def Tryz.lays189_ren : Go.Shelf.Ren := ⟨fun | 189 => 147 | 125 => 157 | 257 => 156 | 128 => 170 | 129 => 171 | 294 => 161 | 295 => 162 | 296 => 163 | 297 => 164 | 298 => 165 | 299 => 166 | 216 => 167 | 300 => 168 | 301 => 169 | 328 => 174 | 329 => 175 | 330 => 176 | 331 => 177 | 332 => 178 | 215 => 179 | 343 => 180 | n => n, fun | 28 => 22 | 3 => 3 | 46 => 204 | 0 => 0 | 51 => 187 | 53 => 216 | 4 => 4 | 183 => 209 | 182 => 208 | 131 => 212 | 5 => 5 | 9 => 9 | 218 => 221 | 222 => 225 | 228 => 227 | 229 => 73 | n => n, fun | n => n⟩
theorem Tryz.lays189 : Go.Proofs.Lays.n189 Tryz.prog Tryz.lays189_ren := {
  mixed := by kernel_rfl
  f125 := Tryz.func157.trans (congrArg some (by kernel_rfl))
  f128 := Tryz.func170.trans (congrArg some (by kernel_rfl))
  f129 := Tryz.func171.trans (congrArg some (by kernel_rfl))
  f189 := Tryz.func147.trans (congrArg some (by kernel_rfl))
  f215 := Tryz.func179.trans (congrArg some (by kernel_rfl))
  f216 := Tryz.func167.trans (congrArg some (by kernel_rfl))
  f257 := Tryz.func156.trans (congrArg some (by kernel_rfl))
  f294 := Tryz.func161.trans (congrArg some (by kernel_rfl))
  f295 := Tryz.func162.trans (congrArg some (by kernel_rfl))
  f296 := Tryz.func163.trans (congrArg some (by kernel_rfl))
  f297 := Tryz.func164.trans (congrArg some (by kernel_rfl))
  f298 := Tryz.func165.trans (congrArg some (by kernel_rfl))
  f299 := Tryz.func166.trans (congrArg some (by kernel_rfl))
  f300 := Tryz.func168.trans (congrArg some (by kernel_rfl))
  f301 := Tryz.func169.trans (congrArg some (by kernel_rfl))
  f328 := Tryz.func174.trans (congrArg some (by kernel_rfl))
  f329 := Tryz.func175.trans (congrArg some (by kernel_rfl))
  f330 := Tryz.func176.trans (congrArg some (by kernel_rfl))
  f331 := Tryz.func177.trans (congrArg some (by kernel_rfl))
  f332 := Tryz.func178.trans (congrArg some (by kernel_rfl))
  f343 := Tryz.func180.trans (congrArg some (by kernel_rfl))
  t0 := Tryz.underlying0
  a0 := Tryz.isAgg0
  z0 := Tryz.sizeOf0
  v0 := Tryz.zeroValue0
  t3 := Tryz.underlying3
  a3 := Tryz.isAgg3
  z3 := Tryz.sizeOf3
  v3 := Tryz.zeroValue3
  t4 := Tryz.underlying4
  a4 := Tryz.isAgg4
  z4 := Tryz.sizeOf4
  v4 := Tryz.zeroValue4
  t5 := Tryz.underlying5
  a5 := Tryz.isAgg5
  z5 := Tryz.sizeOf5
  v5 := Tryz.zeroValue5
  t9 := Tryz.underlying9
  a9 := Tryz.isAgg9
  z9 := Tryz.sizeOf9
  v9 := Tryz.zeroValue9
  t28 := Tryz.underlying22
  a28 := Tryz.isAgg22
  z28 := Tryz.sizeOf22
  v28 := Tryz.zeroValue22
  t46 := Tryz.underlying204
  a46 := Tryz.isAgg204
  z46 := Tryz.sizeOf204
  v46 := Tryz.zeroValue204
  t51 := Tryz.underlying187
  a51 := Tryz.isAgg187
  z51 := Tryz.sizeOf187
  v51 := Tryz.zeroValue187
  t53 := Tryz.underlying216
  a53 := Tryz.isAgg216
  z53 := Tryz.sizeOf216
  v53 := Tryz.zeroValue216
  t131 := Tryz.underlying212
  a131 := Tryz.isAgg212
  z131 := Tryz.sizeOf212
  v131 := Tryz.zeroValue212
  t182 := Tryz.underlying208
  a182 := Tryz.isAgg208
  z182 := Tryz.sizeOf208
  v182 := Tryz.zeroValue208
  t183 := Tryz.underlying209
  a183 := Tryz.isAgg209
  z183 := Tryz.sizeOf209
  v183 := Tryz.zeroValue209
  t218 := Tryz.underlying221
  a218 := Tryz.isAgg221
  z218 := Tryz.sizeOf221
  v218 := Tryz.zeroValue221
  t222 := Tryz.underlying225
  a222 := Tryz.isAgg225
  z222 := Tryz.sizeOf225
  v222 := Tryz.zeroValue225
  t228 := Tryz.underlying227
  a228 := Tryz.isAgg227
  z228 := Tryz.sizeOf227
  v228 := Tryz.zeroValue227
  t229 := Tryz.underlying73
  a229 := Tryz.isAgg73
  z229 := Tryz.sizeOf73
  v229 := Tryz.zeroValue73 }
open Go.Sort Go.RowKit in
theorem Tryz.slices_Sort_int (blk off cap : Nat) (zs : List Int) (w : World) (hH : Holds (Value.int .i64) w blk off zs.toArray) (hblk : blk < w.heap.size) (hsz : zs.length < 4611686018427387904) :
    Calls Tryz.prog 147 #[.slice (some ⟨blk, off, none⟩) zs.length cap] w fun e w' =>
      e = .returned (.tuple #[]) ∧ ∃ n os, w' = grow (putRow (Value.int .i64) (Sort.ahead w n) blk off (zs.mergeSort fun x y => decide (x ≤ y)).toArray) os := Any.slices_Sort_int Tryz.lays189 blk off cap zs w hH hblk hsz
def Tryz.lays212_ren : Go.Shelf.Ren := ⟨fun | 212 => 160 | 263 => 172 | 264 => 173 | n => n, fun | 46 => 204 | 51 => 187 | 146 => 217 | 53 => 216 | 148 => 219 | n => n, fun | n => n⟩
theorem Tryz.lays212 : Go.Proofs.Lays.n212 Tryz.prog Tryz.lays212_ren := {
  mixed := by kernel_rfl
  f212 := Tryz.func160.trans (congrArg some (by kernel_rfl))
  f263 := Tryz.func172.trans (congrArg some (by kernel_rfl))
  f264 := Tryz.func173.trans (congrArg some (by kernel_rfl))
  t46 := Tryz.underlying204
  a46 := Tryz.isAgg204
  z46 := Tryz.sizeOf204
  v46 := Tryz.zeroValue204
  t51 := Tryz.underlying187
  a51 := Tryz.isAgg187
  z51 := Tryz.sizeOf187
  v51 := Tryz.zeroValue187
  t53 := Tryz.underlying216
  a53 := Tryz.isAgg216
  z53 := Tryz.sizeOf216
  v53 := Tryz.zeroValue216
  t146 := Tryz.underlying217
  a146 := Tryz.isAgg217
  z146 := Tryz.sizeOf217
  v146 := Tryz.zeroValue217
  t148 := Tryz.underlying219
  a148 := Tryz.isAgg219
  z148 := Tryz.sizeOf219
  v148 := Tryz.zeroValue219 }
open Go.RowKit Go.Lib in
theorem Tryz.bits_Mul (x y : Nat) (hx : x < 18446744073709551616) (hy : y < 18446744073709551616) (w : World) :
    Calls Tryz.prog 160 #[.int .u64 x, .int .u64 y] w fun e w' => e = .returned (.tuple #[.int .u64 ((x * y / 18446744073709551616 : Nat) : Int), .int .u64 ((x * y % 18446744073709551616 : Nat) : Int)]) ∧ w' = w := Any.bits_Mul Tryz.lays212 x y hx hy w
def Tryz.laysNm220_ren : Go.Shelf.Ren := ⟨fun | 20 => 149 | n => n, fun | 22 => 22 | 3 => 3 | 4 => 4 | 0 => 0 | n => n, fun | n => n⟩
theorem Tryz.laysNm220 : Go.Proofs.Lays2.n20 Tryz.prog Tryz.laysNm220_ren := {
  mixed := by kernel_rfl
  f20 := Tryz.func149.trans (congrArg some (by kernel_rfl))
  t0 := Tryz.underlying0
  a0 := Tryz.isAgg0
  z0 := Tryz.sizeOf0
  v0 := Tryz.zeroValue0
  t3 := Tryz.underlying3
  a3 := Tryz.isAgg3
  z3 := Tryz.sizeOf3
  v3 := Tryz.zeroValue3
  t4 := Tryz.underlying4
  a4 := Tryz.isAgg4
  z4 := Tryz.sizeOf4
  v4 := Tryz.zeroValue4
  t22 := Tryz.underlying22
  a22 := Tryz.isAgg22
  z22 := Tryz.sizeOf22
  v22 := Tryz.zeroValue22
  i3 := by kernel_rfl }
open Go.RowKit Go.Lib Go.Sort in
theorem Tryz.slices_Compact_int (blk off cap : Nat) (zs : List Int) (w : World) (hH : Holds (Value.int .i64) w blk off zs.toArray) (hsz : zs.length ≤ 9223372036854775807) (hcap : zs.length ≤ cap) :
    Calls Tryz.prog 149 #[.slice (some ⟨blk, off, none⟩) zs.length cap] w fun e w' => e = .returned (.slice (some ⟨blk, off, none⟩) (Lib.compact zs).length cap) ∧ ∃ q, w' = putRow (Value.int .i64) (Sort.ahead w q) blk off (Lib.compact zs ++ List.replicate (zs.length - (Lib.compact zs).length) 0).toArray := Any.slices_Compact_int Tryz.laysNm220 blk off cap zs w hH hsz hcap
open Go.RowKit Go.Lib Go.Sort in
theorem Tryz.slices_Compact_int_empty (a : Option Addr) (cap : Nat) (w : World) :
    Calls Tryz.prog 149 #[.slice a 0 cap] w fun e w' => e = .returned (.slice a 0 cap) ∧ w' = w := Any.slices_Compact_int_empty Tryz.laysNm220 a cap w
open Go.RowKit Go.Sort in
theorem Tryz.slices_Sort_int_none (p : Option Addr) (cap : Nat) (w : World) :
    Calls Tryz.prog 147 #[.slice p 0 cap] w fun e w' => e = .returned (.tuple #[]) ∧ w' = w := Any.slices_Sort_int_none Tryz.lays189 p cap w
end Go.Proofs.YtbhkenphcahifaaGreat
namespace Go.Proofs.YtbhkenphcahifaaGreat
open Go.RowKit Go.Shelf
attribute [local go_sem] Oper.semAt_some
set_option maxRecDepth 100000
set_option maxHeartbeats 4000000
theorem rDigit_any {w : World} {g o : Nat} (k i : Nat) (b : Int) (hk : 1 ≤ k) (hk2 : k ≤ 16) (hi : i ≤ 5) (ht : Two w g o k b) (sc : Nat) (kind hosts x : Int) (hx : 0 ≤ x) (hx2 : x ≤ 1000000) :
    Calls Tryz.prog 124 #[.agg #[.int .i64 kind, .slice (some ⟨g, o, none⟩) 2 sc, .int .i64 hosts], .int .i64 x, .int .i64 i] w fun e w' => e = .returned (.int .i64 (digI k i x)) ∧ Below w.heap.size w w' := by
  have HB := Lib.hid ((Below.refl w.heap.size w).alloc (Nat.le_refl _) (.cells #[.int .i64 kind, .slice (some ⟨g, o, none⟩) 2 sc, .int .i64 hosts] 34))
  have Q0 := Lib.hid (heap_alloc_new w (.cells #[.int .i64 kind, .slice (some ⟨g, o, none⟩) 2 sc, .int .i64 hosts] 34))
  have c0 := cellR 0 Q0.out rfl
  have c1 := cellR 1 Q0.out rfl
  have c2 := cellR 2 Q0.out rfl
  obtain ⟨e0, e1⟩ := ht.keep HB.out
  have W3 := same_of (fun W => rpower_any k i hk2 hi W)
  have hD : digI k i x = x / ((k ^ i : Nat) : Int) % (k : Int) := rfl
  have hp : (1 : Int) ≤ ((k ^ i : Nat) : Int) := by have := pow_pos' (i := i) hk; omega
  have hdiv : wrap64 (x.tdiv ((k ^ i : Nat) : Int)) = x / ((k ^ i : Nat) : Int) := by
    rw [Int.tdiv_eq_ediv_of_nonneg hx]
    have h1 := Int.ediv_nonneg hx (show 0 ≤ ((k ^ i : Nat) : Int) by omega)
    have h2 := Int.ediv_le_self ((k ^ i : Nat) : Int) hx
    unfold wrap64; omega
  have hmod : (x / ((k ^ i : Nat) : Int)).tmod (k : Int) = x / ((k ^ i : Nat) : Int) % (k : Int) := Int.tmod_eq_emod_of_nonneg (Int.ediv_nonneg hx (by omega))
  rw [hD]
  generalize ((k ^ i : Nat) : Int) = P at *
  have hP0 : P ≠ 0 := by omega
  have hk0 : (k : Int) ≠ 0 := by omega
  clear hD hk hk2 hi hp hx hx2 ht Q0
  go_enter Tryz.func124, Tryz.ntmps124
  go_wp2_with fail
  generalize w.alloc (.cells #[.int .i64 kind, .slice (some ⟨g, o, none⟩) 2 sc, .int .i64 hosts] 34) = X at *
  go_quiet (first | (go_at_call 63; refine Calls.quiet_of_same (W3.out _)))
  go_wp2_with fail
  go_ret
  exact ⟨by first | (show Ending.returned (.int .i64 _) = _; rw [hdiv, hmod]) | rfl, below_drewN HB.out _⟩
theorem rPort_any {w : World} {g o : Nat} (a h : Int) (ha : 1 ≤ a) (ha2 : a ≤ 16) (hh : 1 ≤ h) (hh2 : h ≤ 4) (ht : Two w g o a h) (sc : Nat) (kind hosts gr m : Int) (hg0 : 0 ≤ gr) (hg1 : gr ≤ 1000) (hm0 : 0 ≤ m) (hm1 : m ≤ 1000) :
    Calls Tryz.prog 119 #[.agg #[.int .i64 kind, .slice (some ⟨g, o, none⟩) 2 sc, .int .i64 hosts], .int .i64 gr, .int .i64 m] w fun e w' => e = .returned (.int .i64 (gr * a + m / h)) ∧ Below w.heap.size w w' := by
  have HB := Lib.hid ((Below.refl w.heap.size w).alloc (Nat.le_refl _) (.cells #[.int .i64 kind, .slice (some ⟨g, o, none⟩) 2 sc, .int .i64 hosts] 34))
  have Q0 := Lib.hid (heap_alloc_new w (.cells #[.int .i64 kind, .slice (some ⟨g, o, none⟩) 2 sc, .int .i64 hosts] 34))
  have c0 := cellR 0 Q0.out rfl
  have c1 := cellR 1 Q0.out rfl
  have c2 := cellR 2 Q0.out rfl
  obtain ⟨e0, e1⟩ := ht.keep HB.out
  have hdiv : wrap64 (m.tdiv h) = m / h := by
    rw [Int.tdiv_eq_ediv_of_nonneg hm0]
    have h1 := Int.ediv_nonneg hm0 (show 0 ≤ h by omega)
    have h2 := Int.ediv_le_self h hm0
    unfold wrap64; omega
  have hq0 := Int.ediv_nonneg hm0 (show 0 ≤ h by omega)
  have hq1 := Int.ediv_le_self h hm0
  have hga : 0 ≤ gr * a ∧ gr * a ≤ 16000 := by
    have h1 := Int.mul_le_mul hg1 ha2 (by omega) (by decide)
    have h2 := Int.mul_nonneg hg0 (show 0 ≤ a by omega)
    omega
  have hmul : wrap64 (gr * a) = gr * a := by generalize gr * a = z at *; unfold wrap64; omega
  have hadd : wrap64 (gr * a + m / h) = gr * a + m / h := by generalize gr * a = z at *; generalize m / h = y at *; unfold wrap64; omega
  have hh0 : h ≠ 0 := by omega
  clear ha ha2 hh hh2 hg0 hg1 hm0 hm1 hq0 hq1 hga ht Q0
  go_enter Tryz.func119, Tryz.ntmps119
  go_wp2_with fail
  generalize w.alloc (.cells #[.int .i64 kind, .slice (some ⟨g, o, none⟩) 2 sc, .int .i64 hosts] 34) = X at *
  go_quiet (fail)
  go_wp2_with fail
  go_ret
  exact ⟨by first | (show Ending.returned (.int .i64 _) = _; rw [hdiv, hmul, hadd]) | (show Ending.returned (.int .i64 _) = _; rw [hadd]) | rfl, below_drewN HB.out _⟩
theorem rWith_any {w : World} {g o : Nat} (k i : Nat) (b : Int) (hk : 1 ≤ k) (hk2 : k ≤ 16) (hi : i ≤ 5) (ht : Two w g o k b) (sc : Nat) (kind hosts x d : Int) (hx : 0 ≤ x) (hx2 : x ≤ 1000) (hd : 0 ≤ d) (hd2 : d ≤ 16) :
    Calls Tryz.prog 118 #[.agg #[.int .i64 kind, .slice (some ⟨g, o, none⟩) 2 sc, .int .i64 hosts], .int .i64 x, .int .i64 i, .int .i64 d] w fun e w' => e = .returned (.int .i64 (wthI k i x d)) ∧ Below w.heap.size w w' := by
  have HB := Lib.hid ((Below.refl w.heap.size w).alloc (Nat.le_refl _) (.cells #[.int .i64 kind, .slice (some ⟨g, o, none⟩) 2 sc, .int .i64 hosts] 34))
  have Q0 := Lib.hid (heap_alloc_new w (.cells #[.int .i64 kind, .slice (some ⟨g, o, none⟩) 2 sc, .int .i64 hosts] 34))
  have c0 := cellR 0 Q0.out rfl
  have c1 := cellR 1 Q0.out rfl
  have c2 := cellR 2 Q0.out rfl
  obtain ⟨e0, e1⟩ := ht.keep HB.out
  have HT2 : Hid (∀ W, Below w.heap.size w W → Two W g o k b) := fun W hb => ht.keep hb
  have HDG : Hid (∀ W, Below w.heap.size w W → Calls Tryz.prog 124 #[.agg #[.int .i64 kind, .slice (some ⟨g, o, none⟩) 2 sc, .int .i64 hosts], .int .i64 x, .int .i64 i] W fun e w' => e = .returned (.int .i64 (digI k i x)) ∧ Below W.heap.size W w') := fun W hb => rDigit_any k i b hk hk2 hi (ht.keep hb) sc kind hosts x hx (by omega)
  have HP := Lib.hid (fun W => rpower_any k i hk2 hi W)
  obtain ⟨g1, g2⟩ := dig_bound (k := k) (i := i) (x := x) hk
  have hp := pow_small hk2 hi
  have HW : wthI k i x d = x + (d - digI k i x) * ((k ^ i : Nat) : Int) := rfl
  have hm1 : -17000000 ≤ (d - digI k i x) * ((k ^ i : Nat) : Int) := (wth_mul hk hk2 hi hd (by omega)).1
  have hm2 : (d - digI k i x) * ((k ^ i : Nat) : Int) ≤ 17000000 := by
    have h := Int.mul_le_mul_of_nonneg_right (show d - digI k i x ≤ (16 : Int) by omega) (show (0 : Int) ≤ ((k ^ i : Nat) : Int) by omega)
    omega
  have ES := Lib.hid (fun W => i64_sub d (digI k i x) (by omega) (by omega) W)
  have EM := Lib.hid (fun W => i64_mul (d - digI k i x) ((k ^ i : Nat) : Int) (by omega) (by omega) W)
  have EA := Lib.hid (fun W => i64_add x ((d - digI k i x) * ((k ^ i : Nat) : Int)) (by omega) (by omega) W)
  rw [HW]
  generalize ((k ^ i : Nat) : Int) = p at *
  generalize digI k i x = dg at *
  generalize (d - dg) * p = m at *
  clear HW hm1 hm2 hp g1 g2 hk hk2 hi hx hx2 hd hd2
  go_enter Tryz.func118, Tryz.ntmps118
  go_wp2_with fail
  generalize w.alloc (.cells #[.int .i64 kind, .slice (some ⟨g, o, none⟩) 2 sc, .int .i64 hosts] 34) = X at *
  have C1 := Lib.hid c1
  have E0 := Lib.hid e0
  clear c0 c1 c2 e0 e1 ht
  refine (wpIn_wide (n := 0)).1 ?_
  refine region_det (by kernel_rfl) (I := fun listed a' w' => Hid (Below X.heap.size X w') ∧ a' = ⟨#[Value.agg #[.int .i64 kind, .slice (some ⟨g, o, none⟩) 2 sc, .int .i64 hosts], Value.int IntKind.i64 (x), Value.int IntKind.i64 (i), Value.int IntKind.i64 (d), Value.pointer (some ⟨w.heap.size, 0, none⟩), undef, undef, undef, (if listed.getD 15 false = true then Value.int IntKind.i64 (x + m) else Value.int IntKind.i64 (0)), (if listed.getD 0 false = true then Value.int IntKind.i64 (x) else undef), (if listed.getD 1 false = true then Value.int IntKind.i64 (d) else undef), (if listed.getD 2 false = true then Value.agg #[.int .i64 kind, .slice (some ⟨g, o, none⟩) 2 sc, .int .i64 hosts] else undef), (if listed.getD 3 false = true then Value.int IntKind.i64 (x) else undef), (if listed.getD 4 false = true then Value.int IntKind.i64 (i) else undef), (if listed.getD 5 false = true then Value.int IntKind.i64 (dg) else undef), (if listed.getD 6 false = true then Value.int IntKind.i64 (d - dg) else undef), (if listed.getD 7 false = true then Value.pointer (some ⟨w.heap.size, 1, none⟩) else undef), (if listed.getD 8 false = true then Value.slice (some ⟨g, o, none⟩) 2 sc else undef), (if listed.getD 9 false = true then Value.pointer (some ⟨g, o, none⟩) else undef), (if listed.getD 10 false = true then Value.int IntKind.i64 ((k : Int)) else undef), (if listed.getD 11 false = true then Value.int IntKind.i64 (i) else undef), (if listed.getD 12 false = true then Value.int IntKind.i64 (p) else undef), (if listed.getD 13 false = true then Value.int IntKind.i64 (m) else undef), (if listed.getD 14 false = true then Value.int IntKind.i64 (x + m) else undef)], []⟩) (hup_check (by kernel_rfl)) ?h0 ?step ?fin
  case h0 => exact ⟨(Below.refl _ _).drew, rfl⟩
  case step =>
    intro listed a' w' i hs hbi hdep hi ⟨IB, ha⟩
    obtain ⟨ls⟩ := listed
    match ls, hs with
    | [x0, x1, x2, x3, x4, x5, x6, x7, x8, x9, x10, x11, x12, x13, x14, x15], _ =>
    subst ha
    have hi' : i = 0 ∨ i = 1 ∨ i = 2 ∨ i = 3 ∨ i = 4 ∨ i = 5 ∨ i = 6 ∨ i = 7 ∨ i = 8 ∨ i = 9 ∨ i = 10 ∨ i = 11 ∨ i = 12 ∨ i = 13 ∨ i = 14 ∨ i = 15 := by simp at hi; omega
    rcases hi' with rfl | rfl | rfl | rfl | rfl | rfl | rfl | rfl | rfl | rfl | rfl | rfl | rfl | rfl | rfl | rfl
    · obtain rfl : x0 = false := by simpa using hbi
      refine wpOpIn_plain rfl rfl rfl ?_
      exact ⟨IB, rfl⟩
    · obtain rfl : x1 = false := by simpa using hbi
      refine wpOpIn_plain rfl rfl rfl ?_
      exact ⟨IB, rfl⟩
    · obtain rfl : x2 = false := by simpa using hbi
      refine wpOpIn_load_row rfl rfl 34 _ rfl w.heap.size rfl 34 _ _ _ (heapB IB.out Q0.out) Tryz.underlying34 rfl info30 ?_
      exact ⟨IB, rfl⟩
    · obtain rfl : x3 = false := by simpa using hbi
      refine wpOpIn_plain rfl rfl rfl ?_
      exact ⟨IB, rfl⟩
    · obtain rfl : x4 = false := by simpa using hbi
      refine wpOpIn_plain rfl rfl rfl ?_
      exact ⟨IB, rfl⟩
    · obtain rfl : x5 = false := by simpa using hbi
      obtain rfl : x2 = true := hdep _ rfl ⟨2, .data⟩ (by simp) rfl
      obtain rfl : x3 = true := hdep _ rfl ⟨3, .data⟩ (by simp) rfl
      obtain rfl : x4 = true := hdep _ rfl ⟨4, .data⟩ (by simp) rfl
      refine wpOpIn_call (args := #[Value.agg #[.int .i64 kind, .slice (some ⟨g, o, none⟩) 2 sc, .int .i64 hosts], Value.int IntKind.i64 (x), Value.int IntKind.i64 (i)]) rfl rfl (sem_call3 rfl rfl rfl rfl (enters_of Tryz.func124 (by kernel_rfl) rfl)) (HDG.out w' (HB.out.trans (IB.out.mono HB.out.size))) ?_
      rintro e V ⟨rfl, hb⟩
      exact ⟨_, rfl, (IB.out.trans (hb.mono IB.out.size)), rfl⟩
    · obtain rfl : x6 = false := by simpa using hbi
      obtain rfl : x1 = true := hdep _ rfl ⟨1, .data⟩ (by simp) rfl
      obtain rfl : x5 = true := hdep _ rfl ⟨5, .data⟩ (by simp) rfl
      refine wpOpIn_plain (v := Value.int IntKind.i64 (d - dg)) (w' := w') rfl rfl (sem_bin (vx := Value.int IntKind.i64 (d)) (vy := Value.int IntKind.i64 (dg)) rfl rfl rfl rfl (ES.out w')) ?_
      exact ⟨IB, rfl⟩
    · obtain rfl : x7 = false := by simpa using hbi
      refine wpOpIn_plain (v := Value.pointer (some ⟨w.heap.size, 1, none⟩)) (w' := w') rfl rfl (by simp [Oper.semAt, execOp, go_sem]) ?_
      exact ⟨IB, rfl⟩
    · obtain rfl : x8 = false := by simpa using hbi
      obtain rfl : x7 = true := hdep _ rfl ⟨7, .data⟩ (by simp) rfl
      have c9 := kcell IB.out C1.out
      refine wpOpIn_plain (v := Value.slice (some ⟨g, o, none⟩) 2 sc) (w' := w') rfl rfl (by simp [Oper.semAt, execOp, go_sem, c9]) ?_
      exact ⟨IB, rfl⟩
    · obtain rfl : x9 = false := by simpa using hbi
      obtain rfl : x8 = true := hdep _ rfl ⟨8, .data⟩ (by simp) rfl
      refine wpOpIn_plain (v := Value.pointer (some ⟨g, o, none⟩)) (w' := w') rfl rfl (by simp [Oper.semAt, execOp, go_sem]) ?_
      exact ⟨IB, rfl⟩
    · obtain rfl : x10 = false := by simpa using hbi
      obtain rfl : x9 = true := hdep _ rfl ⟨9, .data⟩ (by simp) rfl
      have c9 := kcell IB.out E0.out
      refine wpOpIn_plain (v := Value.int IntKind.i64 ((k : Int))) (w' := w') rfl rfl (by simp [Oper.semAt, execOp, go_sem, c9]) ?_
      exact ⟨IB, rfl⟩
    · obtain rfl : x11 = false := by simpa using hbi
      refine wpOpIn_plain rfl rfl rfl ?_
      exact ⟨IB, rfl⟩
    · obtain rfl : x12 = false := by simpa using hbi
      obtain rfl : x10 = true := hdep _ rfl ⟨10, .data⟩ (by simp) rfl
      obtain rfl : x11 = true := hdep _ rfl ⟨11, .data⟩ (by simp) rfl
      refine wpOpIn_call (args := #[Value.int IntKind.i64 ((k : Int)), Value.int IntKind.i64 (i)]) rfl rfl (sem_call2 rfl rfl rfl (enters_of Tryz.func63 (by kernel_rfl) rfl)) (HP.out w') ?_
      rintro e V ⟨rfl, rfl⟩
      exact ⟨_, rfl, IB, rfl⟩
    · obtain rfl : x13 = false := by simpa using hbi
      obtain rfl : x6 = true := hdep _ rfl ⟨6, .data⟩ (by simp) rfl
      obtain rfl : x12 = true := hdep _ rfl ⟨12, .data⟩ (by simp) rfl
      refine wpOpIn_plain (v := Value.int IntKind.i64 (m)) (w' := w') rfl rfl (sem_bin (vx := Value.int IntKind.i64 (d - dg)) (vy := Value.int IntKind.i64 (p)) rfl rfl rfl rfl (EM.out w')) ?_
      exact ⟨IB, rfl⟩
    · obtain rfl : x14 = false := by simpa using hbi
      obtain rfl : x0 = true := hdep _ rfl ⟨0, .data⟩ (by simp) rfl
      obtain rfl : x13 = true := hdep _ rfl ⟨13, .data⟩ (by simp) rfl
      refine wpOpIn_plain (v := Value.int IntKind.i64 (x + m)) (w' := w') rfl rfl (sem_bin (vx := Value.int IntKind.i64 (x)) (vy := Value.int IntKind.i64 (m)) rfl rfl rfl rfl (EA.out w')) ?_
      exact ⟨IB, rfl⟩
    · obtain rfl : x15 = false := by simpa using hbi
      obtain rfl : x14 = true := hdep _ rfl ⟨14, .data⟩ (by simp) rfl
      refine wpOpIn_plain rfl rfl rfl ?_
      exact ⟨IB, rfl⟩
  case fin =>
  intro listed a' Z hs hall ⟨IB, ha⟩
  obtain ⟨ls⟩ := listed
  match ls, hs with
  | [x0, x1, x2, x3, x4, x5, x6, x7, x8, x9, x10, x11, x12, x13, x14, x15], _ =>
  obtain rfl : x0 = true := hall 0 (by simp)
  obtain rfl : x1 = true := hall 1 (by simp)
  obtain rfl : x2 = true := hall 2 (by simp)
  obtain rfl : x3 = true := hall 3 (by simp)
  obtain rfl : x4 = true := hall 4 (by simp)
  obtain rfl : x5 = true := hall 5 (by simp)
  obtain rfl : x6 = true := hall 6 (by simp)
  obtain rfl : x7 = true := hall 7 (by simp)
  obtain rfl : x8 = true := hall 8 (by simp)
  obtain rfl : x9 = true := hall 9 (by simp)
  obtain rfl : x10 = true := hall 10 (by simp)
  obtain rfl : x11 = true := hall 11 (by simp)
  obtain rfl : x12 = true := hall 12 (by simp)
  obtain rfl : x13 = true := hall 13 (by simp)
  obtain rfl : x14 = true := hall 14 (by simp)
  obtain rfl : x15 = true := hall 15 (by simp)
  subst ha
  have HZ : Hid (Below X.heap.size X Z) := IB
  clear IB hall hs
  dsimp only [Exit.then, Exit.inBlock]
  go_wp2_with fail
  go_ret
  exact ⟨rfl, HB.out.trans (HZ.out.mono HB.out.size)⟩
end Go.Proofs.YtbhkenphcahifaaGreat
namespace Go.Proofs.YtbhkenphcahifaaGreat
open Go.RowKit Go.Shelf
attribute [local go_sem] Oper.semAt_some
set_option maxRecDepth 100000
set_option maxHeartbeats 4000000
theorem rNumber_any {w : World} {sa ta : Option Addr} {l a : List Int} (h : Ints w sa l) (ht : Ints w ta a) (hn : a.length = l.length) (h4 : l.length ≤ 4) (hb : ∀ i, i < l.length → 2 ≤ l.getD i 0 ∧ l.getD i 0 ≤ 16) (ha : ∀ i, i < l.length → 0 ≤ a.getD i 0 ∧ a.getD i 0 < l.getD i 0) (sc tc : Nat) (kind hosts : Int) :
    Calls Tryz.prog 61 #[.agg #[.int .i64 kind, .slice sa l.length sc, .int .i64 hosts], .slice ta l.length tc] w fun e w' => e = .returned (.int .i64 (numI l a)) ∧ Below w.heap.size w w' := by
  have HL := Lib.hid h
  have HA := Lib.hid ht
  obtain ⟨N, hN⟩ : ∃ N, N = l.length := ⟨_, rfl⟩
  have HN := Lib.hid hN
  have HN2 : Hid (N = a.length) := by show _ = _; rw [hN, hn]
  have HBD := Lib.hid (numK_bound hb ha)
  have HBB := Lib.hid hb
  have HAA := Lib.hid ha
  obtain ⟨R, hR⟩ : ∃ R, R = numI l a := ⟨_, rfl⟩
  have HR : Hid (R = numK l a N) := by show _ = _; rw [hR, hN]; rfl
  rw [← hN, ← hR]
  rw [← hN] at h4
  have HB := Lib.hid ((Below.refl w.heap.size w).alloc (Nat.le_refl _) (.cells #[.int .i64 kind, .slice sa N sc, .int .i64 hosts] 34))
  have Q0 := Lib.hid (heap_alloc_new w (.cells #[.int .i64 kind, .slice sa N sc, .int .i64 hosts] 34))
  clear h ht hn hb ha hN hR
  go_enter Tryz.func61, Tryz.ntmps61
  go_wp2_with fail
  generalize w.alloc (.cells #[.int .i64 kind, .slice sa N sc, .int .i64 hosts] 34) = X at *
  go_loopw [5, 6] (fun p i wr => ∃ (k : Nat), k ≤ N ∧ i = .int .i64 k ∧ p = .int .i64 (numK l a k) ∧ Hid (Below X.heap.size X wr)) (fun _ i _ => N - (intOf i).toNat)
  case atStart => exact ⟨0, Nat.zero_le _, rfl, rfl, Below.refl _ _⟩
  case round =>
    obtain ⟨k, hk, rfl, rfl, HW⟩ := hrel
    by_cases hlt : k < N
    · have k1 : k < l.length := by rw [← HN.out]; exact hlt
      have k2 : k < a.length := by rw [← HN2.out]; exact hlt
      have hbw := HB.out.trans (HW.out.mono HB.out.size)
      obtain ⟨g, o, rfl, hc⟩ := (HL.out.keep hbw).at_ (ne_nil_of_lt k1)
      obtain ⟨g2, o2, rfl, hc2⟩ := (HA.out.keep hbw).at_ (ne_nil_of_lt k2)
      have e0 := hc k k1
      have e1 := hc2 k k2
      have q1 := heapB HW.out Q0.out
      have c1 := cellR 1 q1 rfl
      have el : l.getD k 0 = l[k] := by simp [List.getD, k1]
      have ea : a.getD k 0 = a[k] := by simp [List.getD, k2]
      have HS : Hid (numK l a (k + 1) = numK l a k * l[k] + a[k]) := by show _ = _; rw [← el, ← ea]; rfl
      obtain ⟨y, hy⟩ : ∃ y, y = numK l a (k + 1) := ⟨_, rfl⟩
      have HY := Lib.hid hy
      obtain ⟨i1, i2⟩ := HBD.out k (by omega)
      obtain ⟨b1, b2⟩ := HBB.out k k1
      obtain ⟨a1, a2⟩ := HAA.out k k1
      rw [el] at b1 b2 a2
      rw [ea] at a1 a2
      have p1 := lim16 (show k ≤ 4 by omega)
      rw [← hy] at HS
      clear hy
      generalize numK l a k = x at *
      generalize l[k] = s at *
      generalize a[k] = c at *
      have m1 : 0 ≤ x * s := Int.mul_nonneg i1 (by omega)
      have m2 : x * s ≤ 65536 * 16 := Int.mul_le_mul (by omega) b2 (by omega) (by decide)
      have hw1 : wrap64 (x * s) = x * s := by generalize x * s = z at *; unfold wrap64; omega
      have hw2 : wrap64 (x * s + c) = x * s + c := by generalize x * s = z at *; unfold wrap64; omega
      clear hc hc2 k1 k2 el ea m1 m2 p1 i1 i2 b1 b2 a1 a2 hbw q1
      go_wp2_with fail
      go_quiet (fail)
      go_wp2_with fail
      go_roundw
      case rel => exact ⟨k + 1, by omega, by go_num, by rw [← HY.out, HS.out, hw2], below_drewN HW.out _⟩
      case measure => simp [intOf]; omega
    · have hkN : k = N := by omega
      have HE : Hid (numK l a k = R) := by show _ = _; rw [hkN, HR.out]
      rw [HE.out]
      clear HE hkN
      go_wp2_with fail
      go_ret
      exact ⟨rfl, HB.out.trans (HW.out.mono HB.out.size)⟩
/-- one more number in a row of one's own -/
theorem app_one {w : World} {lo : Nat} {v : Value} {R : List Int} (h : NewInts lo w v R) (s : Int) (hl : R.length ≤ 1000000) (hs : lo ≤ w.heap.size) :
    ∃ g cap w2, (Builtin.append_ #[22, 22] 22 #[v, .slice (some ⟨w.heap.size, 0, none⟩) 1 1]).run Tryz.prog (w.alloc (.cells #[.int .i64 s] 3)) = .ok (.slice (some ⟨g, 0, none⟩) (R.length + 1) cap) w2 ∧
      NewInts lo w2 (.slice (some ⟨g, 0, none⟩) (R.length + 1) cap) (R ++ [s]) ∧ (w.alloc (.cells #[.int .i64 s] 3)).grownBy w2 v.ownBlock ∧ (v.ownBlock = some g ∨ w.heap.size < g) ∧ w.heap.size + 1 ≤ w2.heap.size := by
  obtain ⟨i0, hi, hz0, hz1, hz2⟩ := info_parts Tryz.info3
  obtain ⟨g, cap, w2, hr, hown, hgrow, hat, hlt⟩ := run_append_lies (P := Tryz.prog) (w.alloc (.cells #[.int .i64 s] 3)) 22 22 lo 3 i0 (.int .i64 0) 1 8 Tryz.underlying22 hi hz0 hz1 hz2 rfl (by decide) v R.length (R.map (Value.int .i64)) (h.own.alloc _) ⟨w.heap.size, 0, none⟩ 1 1 [.int .i64 s] (by simp)
    (World.news_of_block (cs := #[.int .i64 s]) (heap_alloc_new w (.cells #[.int .i64 s] 3))) (by intro u hu; simp at hu; subst hu; rfl) (by decide) (by unfold maxLen; omega) (by omega) (by simp; omega) _ rfl
  have hsz := hgrow.size
  simp at hsz
  refine ⟨g, cap, w2, hr, ⟨by simpa using hown, by simp; omega⟩, hgrow, ?_, hsz⟩
  rcases hat with e | e
  · exact .inl e
  · simp at e; exact .inr (by omega)
end Go.Proofs.YtbhkenphcahifaaGreat
namespace Go.Proofs.YtbhkenphcahifaaGreat
open Go.RowKit Go.Shelf Go.Lib Go.Sort
attribute [local go_sem] Oper.semAt_some
set_option maxRecDepth 100000
set_option maxHeartbeats 4000000
def sortL (l : List Int) : List Int := l.mergeSort fun x y => decide (x ≤ y)
/-- slices.Sort in memory of the call's own -/
theorem sort_new {B : Nat} {w : World} {v : Value} {l : List Int} (h : NewInts B w v l) (hB : B ≤ w.heap.size) :
    Calls Tryz.prog 147 #[v] w fun e w' => e = .returned (.tuple #[]) ∧ NewInts B w' v (sortL l) ∧ Below B w w' := by
  by_cases hv : v = .slice none 0 0
  · subst hv
    have hl : l = [] := by
      rcases h.own.2 with ⟨_, h0⟩ | ⟨g, cap, cur, e, _⟩
      · exact List.length_eq_zero_iff.1 h0
      · cases e
    subst hl
    refine (Tryz.slices_Sort_int_none none 0 w).mono ?_
    rintro e w' ⟨rfl, rfl⟩
    exact ⟨rfl, by simpa [sortL] using h, Below.refl _ _⟩
  · obtain ⟨g, cap, rfl, hg, hlt, hn, hm, hl, hH⟩ := holds_of_ownsRow (enc := Value.int .i64) h.own hv
    obtain ⟨_, hown⟩ := h.own
    rcases hown with ⟨e0, _⟩ | ⟨g', cap', cur, e0, hb', hgc, hn', hm', hs', ht'⟩
    · cases e0
    cases e0
    refine (Tryz.slices_Sort_int g 0 cap l w hH hlt (by have := h.len; omega)).mono ?_
    rintro e w' ⟨rfl, n, os, rfl⟩
    have hle : (sortL l).length = l.length := by unfold sortL; simp
    refine ⟨rfl, ⟨?_, by rw [hle]; exact h.len⟩, ?_⟩
    · have := ownsRow_sortedI (ss := l) (ts := sortL l) (n := n) (os := os) hle hg hgc hn hm hs'
      rw [hle]
      exact this
    · have := grownBy_sortedI (w := w) (g := g) (n := n) (os := os) (sortL l).toArray
      exact (Below.refl B w).grown this hB (fun k hk => by injection hk with hk; omega)
/-- slices.Compact in memory of the call's own -/
theorem compact_new {B : Nat} {w : World} {v : Value} {l : List Int} (h : NewInts B w v l) (hB : B ≤ w.heap.size) :
    Calls Tryz.prog 149 #[v] w fun e w' => ∃ u, e = .returned u ∧ NewInts B w' u (Lib.compact l) ∧ Below B w w' := by
  have hcl := Lib.compact_length_le l
  by_cases hv : v = .slice none 0 0
  · subst hv
    have hl : l = [] := by
      rcases h.own.2 with ⟨_, h0⟩ | ⟨g, cap, cur, e, _⟩
      · exact List.length_eq_zero_iff.1 h0
      · cases e
    subst hl
    refine (Tryz.slices_Compact_int_empty none 0 w).mono ?_
    rintro e w' ⟨rfl, rfl⟩
    exact ⟨_, rfl, by simpa [show Lib.compact [] = [] from rfl] using h, Below.refl _ _⟩
  · obtain ⟨g, cap, rfl, hg, hlt, hn, hm, hl, hH⟩ := holds_of_ownsRow (enc := Value.int .i64) h.own hv
    have hlen := h.len
    refine (Tryz.slices_Compact_int g 0 cap l w hH (by omega) hn).mono ?_
    rintro e w' ⟨rfl, q, rfl⟩
    refine ⟨_, rfl, ⟨?_, by omega⟩, ?_⟩
    · have := ownsRow_putRow (enc := Value.int .i64) (q := q) (k := (Lib.compact l).length) (ys := Lib.compact l ++ List.replicate (l.length - (Lib.compact l).length) 0) h.own (by simp; omega) hcl
      rw [List.take_append_of_le_length (Nat.le_refl _), List.take_length] at this
      exact this
    · exact below_putRow (Below.refl _ _) hg
theorem mul_one {w : World} (n : Nat) (hn : n ≤ 64) : Calls Tryz.prog 160 #[.int .u64 1, .int .u64 n] w fun e w' => e = .returned (.tuple #[.int .u64 0, .int .u64 n]) ∧ w' = w := by
  have h := Tryz.bits_Mul 1 n (by omega) (by omega) w
  rw [show 1 * n / 18446744073709551616 = 0 by omega, show 1 * n % 18446744073709551616 = n by omega] at h
  exact h
theorem setRow_below (w : World) (g : Nat) (c : Array Value) : Below g w (w.setRow g c) :=
  ⟨rfl, rfl, rfl, by simp [World.setRow], fun k hk => Go.setRow_other w g k c (by omega)⟩
/-- copy into a row -/
theorem copy_ints {w : World} {g : Nat} {L : List Int} (hR : RowAt w g L) (o dLen dCap : Nat) (a : Addr) (sLen sCap : Nat) (ys : List Int) (hn : ys.length = min sLen dLen)
    (hsrc : ∀ j v, (ys.map (Value.int .i64))[j]? = some v → w.cell? (a.add j) = some v) (hfit : o + ys.length ≤ L.length) :
    ∃ w', (Builtin.copy_ #[22, 22] 3 #[.slice (some ⟨g, o, none⟩) dLen dCap, .slice (some a) sLen sCap]).run Tryz.prog w = .ok (goInt ys.length) w' ∧ RowAt w' g (L.take o ++ ys ++ L.drop (o + ys.length)) ∧ Below g w w' := by
  have h := run_copy_row (P := Tryz.prog) w 22 22 3 3 g o dLen dCap a sLen sCap (rowA L) 3 (ys.map (Value.int .i64)) Tryz.underlying22 (by kernel_rfl) hR (by simpa using hn) hsrc (by simpa using hfit)
    (by intro u hu; obtain ⟨y, _, rfl⟩ := List.mem_map.1 hu; rfl)
  rw [List.length_map] at h
  refine ⟨_, h, ?_, setRow_below _ _ _⟩
  unfold RowAt
  rw [setRow_heap w g _ _ 3 _ hR]
  congr 2
  unfold rowA
  simp [List.map_take, List.map_drop]
theorem repeat_one {w : World} (b : Nat) (x : Int) (hc : w.cell? ⟨b, 0, none⟩ = some (.int .i64 x)) (n : Nat) (h1 : 1 ≤ n) (hn : n ≤ 64) :
    Calls Tryz.prog 155 #[.slice (some ⟨b, 0, none⟩) 1 1, .int .i64 n] w fun e w' => ∃ g, e = .returned (.slice (some ⟨g, 0, none⟩) n n) ∧ w.heap.size ≤ g ∧ RowAt w' g (List.replicate n x) ∧ Below w.heap.size w w' := by
  have hm := mul_one (w := w) n hn
  have hmk := make_ints n (by omega) w
  have R0 : RowAt (w.alloc (.cells (rowA (List.replicate n 0)) 3)) w.heap.size (List.replicate n 0) := heap_alloc_new w _
  have b0 : Below w.heap.size w (w.alloc (.cells (rowA (List.replicate n 0)) 3)) := (Below.refl _ _).alloc (Nat.le_refl _) _
  have hc' := (b0.cell (p := ⟨b, 0, none⟩) (block_lt_of_cell hc)).trans hc
  obtain ⟨w1, hr1, hR1, hb1⟩ := copy_ints R0 0 n n ⟨b, 0, none⟩ 1 1 [x] (by simp; omega) (fun j v hj => by match j, hj with | 0, hj => simp at hj; subst hj; simpa [Addr.add] using hc') (by simp; omega)
  have R1 : RowAt w1 w.heap.size (List.replicate 1 x ++ List.replicate (n - 1) 0) := by simpa using hR1
  have b1 : Below w.heap.size w w1 := b0.trans hb1
  have HR := Lib.hid R1
  have HB := Lib.hid b1
  clear R1 b1 hR1 hb1 R0 b0
  go_enter Tryz.func155, Tryz.ntmps155
  go_wp2_with (refine hm.mono ?_; rintro e w' ⟨rfl, rfl⟩)
  have HC := Lib.hid hc
  clear hr1 hmk hm hc hc'
  go_loopw [8] (fun i wr => ∃ k : Nat, 1 ≤ k ∧ k ≤ n ∧ i = .int .i64 k ∧ RowAt wr w'.heap.size (List.replicate k x ++ List.replicate (n - k) 0) ∧ Below w'.heap.size w' wr) (fun i _ => n - (intOf i).toNat)
  case atStart => exact ⟨1, by omega, h1, rfl, HR.out, HB.out⟩
  case round =>
    obtain ⟨k, hk1, hk, rfl, hR, hb⟩ := hrel
    by_cases hkn : k < n
    · obtain ⟨m, hme⟩ : ∃ m, m = min k (n - k) := ⟨_, rfl⟩
      have hm1 : 1 ≤ m := by omega
      have hm2 : m ≤ k := by omega
      have hm3 : m ≤ n - k := by omega
      have hRd : RowAt wr.drew w'.heap.size (List.replicate k x ++ List.replicate (n - k) 0) := hR
      have hI := (hRd.ints (by simp; omega)).news
      obtain ⟨w2, hr2, hR2, hb2⟩ := copy_ints hRd k (n - k) (n - k) ⟨w'.heap.size, 0, none⟩ k n (List.replicate m x) (by simp [hme])
        (fun j v hj => hI j v (by
          have hjm : j < m := by have := (List.getElem?_eq_some_iff.1 hj).1; simpa using this
          rw [List.map_append, List.getElem?_append_left (by simp; omega)]
          rw [← hj]
          simp [hjm, show j < k by omega])) (by simp; omega)
      rw [List.length_replicate] at hr2
      have e1 : (List.replicate k x ++ List.replicate (n - k) 0).take k ++ List.replicate m x ++ (List.replicate k x ++ List.replicate (n - k) 0).drop (k + (List.replicate m x).length) = List.replicate (k + m) x ++ List.replicate (n - (k + m)) 0 := by
        rw [List.take_append_of_le_length (by simp), List.take_of_length_le (by simp), List.length_replicate, List.drop_append, List.drop_of_length_le (by simp)]
        simp only [List.length_replicate, List.drop_replicate, List.nil_append, List.replicate_append_replicate]
        congr 2
        omega
      rw [e1] at hR2
      have HR2 := Lib.hid hR2
      have HB2 : Hid (Below w'.heap.size w' w2) := hb.drew.trans hb2
      have HM := Lib.hid hme
      clear hI hR hRd hR2 hb2 e1 hme
      go_wp2_with fail
      go_region
      go_roundw
      case rel =>
        refine ⟨_, _, _, _, _, _, _, _, _, _, _, _, _, _, ?_, rfl⟩
        exact ⟨k + m, by omega, by omega, by go_num, HR2.out, HB2.out⟩
      case measure => simp [intOf]; omega
    · have hk' : k = n := by omega
      subst hk'
      have HRR : Hid (RowAt wr w'.heap.size (List.replicate k x)) := by show RowAt _ _ _; simpa using hR
      clear hR
      go_wp2_with fail
      go_ret
      exact ⟨w'.heap.size, rfl, Nat.le_refl _, HRR.out, hb⟩
end Go.Proofs.YtbhkenphcahifaaGreat
namespace Go.Proofs.YtbhkenphcahifaaGreat
open Go.RowKit Go.Shelf
attribute [local go_sem] Oper.semAt_some
set_option maxRecDepth 100000
set_option maxHeartbeats 1000000
theorem make_cap (c : Nat) (hc : c ≤ 1000000) (w : World) : (Instr.makeSlice 22 (.int .i64 0) (.int .i64 c)).run Tryz.prog w = .ok (.slice (some ⟨w.heap.size, 0, none⟩) 0 c) (w.alloc (.cells (rowA (List.replicate c 0)) 3)) := by
  obtain ⟨i0, hi, hz0, hz1, hz2⟩ := info_parts Tryz.info3
  have := run_make (P := Tryz.prog) w 22 3 i0 (.int .i64 0) Tryz.underlying22 hi hz0 .i64 .i64 0 c (by omega) (by omega) (by rw [hz2]; omega) (by omega)
  rw [this, hz1]
  simp only [Int.toNat_natCast, Nat.mul_one]
  congr 3
  unfold rowA madeCells
  apply Array.ext
  · simp
  · intro i h1 h2
    simp [Value.cells, Nat.mod_one]
theorem new_cap (c B : Nat) (hc : c ≤ 1000000) (w : World) (hB : B ≤ w.heap.size) : NewInts B (w.alloc (.cells (rowA (List.replicate c 0)) 3)) (.slice (some ⟨w.heap.size, 0, none⟩) 0 c) [] :=
  ⟨⟨rfl, .inr ⟨w.heap.size, c, _, rfl, hB, heap_alloc_new w _, Nat.zero_le _, by unfold maxLen; omega, by simp, by simp⟩⟩, by simp⟩
theorem appTwo {w : World} {lo : Nat} {v : Value} {R : List Int} (h : NewInts lo w v R) (s t : Int) (hl : R.length ≤ 1000000) (hs : lo ≤ w.heap.size) :
    ∃ v' w2, (Builtin.append_ #[22, 22] 22 #[v, .slice (some ⟨w.heap.size, 0, none⟩) 2 2]).run Tryz.prog (w.alloc (.cells #[.int .i64 s, .int .i64 t] 3)) = .ok v' w2 ∧
      NewInts lo w2 v' (R ++ [s, t]) ∧ Below lo w w2 := by
  obtain ⟨i0, hi, hz0, hz1, hz2⟩ := info_parts Tryz.info3
  obtain ⟨g, cap, w2, hr, hown, hgrow, hat, hlt⟩ := run_append_lies (P := Tryz.prog) (w.alloc (.cells #[.int .i64 s, .int .i64 t] 3)) 22 22 lo 3 i0 (.int .i64 0) 1 8 Tryz.underlying22 hi hz0 hz1 hz2 rfl (by decide) v R.length (R.map (Value.int .i64)) (h.own.alloc _) ⟨w.heap.size, 0, none⟩ 2 2 [.int .i64 s, .int .i64 t] (by simp)
    (World.news_of_block (cs := #[.int .i64 s, .int .i64 t]) (heap_alloc_new w (.cells #[.int .i64 s, .int .i64 t] 3))) (by intro u hu; simp at hu; rcases hu with rfl | rfl <;> rfl) (by decide) (by unfold maxLen; omega) (by omega) (by simp; omega) _ rfl
  refine ⟨_, w2, hr, ⟨by simpa using hown, by simp; omega⟩, ((Below.refl lo w).alloc hs _).trans ⟨hgrow.os, hgrow.tape, hgrow.output, hgrow.size, fun k hk => hgrow.block k (by simp; omega) (fun e => by have := (h.own.lt k e.symm).1; omega)⟩⟩
theorem NewInts.keep2 {w w' : World} {lo : Nat} {v : Value} {R : List Int} (h : NewInts lo w v R) (hb : Below w.heap.size w w') : NewInts lo w' v R := ⟨ownsRow_bl h.own hb, h.len⟩
theorem compactUpTo_mem (d : Array Int) : ∀ (m : Nat) (j : Nat), j < m → d[j]! ∈ Lib.compactUpTo d m
  | 0, j, h => by omega
  | m + 1, j, h => by
    rw [Lib.compactUpTo_succ]
    by_cases hj : j < m
    · exact List.mem_append.2 (.inl (compactUpTo_mem d m j hj))
    · obtain rfl : j = m := by omega
      by_cases hk : Lib.keeps d j = true
      · rw [if_pos hk]; simp
      · have hk2 := hk
        unfold Lib.keeps at hk2
        simp only [decide_eq_true_eq, not_or, ne_eq, Decidable.not_not] at hk2
        rw [hk2.2]
        exact List.mem_append.2 (.inl (compactUpTo_mem d j (j - 1) (by omega)))
theorem compact_mem (l : List Int) (x : Int) (h : x ∈ l) : x ∈ Lib.compact l := by
  obtain ⟨j, hj, rfl⟩ := List.getElem_of_mem h
  have := compactUpTo_mem l.toArray l.length j hj
  unfold Lib.compact
  simpa [getElem!_pos, hj] using this
theorem sort_mem (l : List Int) (x : Int) (h : x ∈ l) : x ∈ sortL l := (List.mergeSort_perm l _).mem_iff.2 h
theorem sort_len (l : List Int) : (sortL l).length = l.length := (List.mergeSort_perm l _).length_eq
/-- the neighbors as they are handed out -/
def nbL (l : List Int) (x : Int) : List Int := Lib.compact (sortL (nbK l x l.length))
theorem nbL_mem {l : List Int} {x y : Int} (h : y ∈ nbK l x l.length) : y ∈ nbL l x := compact_mem _ _ (sort_mem _ _ h)
theorem neighbors_any {w : World} {sa : Option Addr} {l : List Int} (h : Ints w sa l) (hl1 : 1 ≤ l.length) (hl4 : l.length ≤ 4) (hb : ∀ i, i < l.length → 2 ≤ l.getD i 0 ∧ l.getD i 0 ≤ 16) (hp : prodI l ≤ 256) (sc : Nat) (x : Int) (hx : 0 ≤ x) (hx2 : x < prodI l) :
    VMake 140 #[.agg #[.slice sa l.length sc, .int .i64 (prodI l)], .int .i64 x] (nbL l x) w.heap.size w := by
  obtain ⟨N, hN⟩ : ∃ N, N = l.length := ⟨_, rfl⟩
  have HN := Lib.hid hN
  have HL := Lib.hid h
  have HBB := Lib.hid hb
  have HPR : Hid (∀ i, i < N → prodI (l.drop i) = l.getD i 0 * strI l i ∧ 1 ≤ strI l i ∧ strI l i ≤ 256 ∧ prodI (l.drop i) ≤ 256) := by
    have key : ∀ i, i ≤ l.length → prodI (l.drop i) ≤ 256 := by
      intro i
      induction i with
      | zero => intro _; simpa using hp
      | succ i ih =>
        intro hi
        have h1 := ih (by omega)
        have h2 := str_step (l := l) (i := i) (by omega)
        obtain ⟨b1, b2⟩ := hb i (by omega)
        have h3 := drop_pos hb (i + 1) hi
        unfold strI at h2
        have : 1 * prodI (l.drop (i + 1)) ≤ l.getD i 0 * prodI (l.drop (i + 1)) := Int.mul_le_mul_of_nonneg_right (by omega) (by omega)
        omega
    intro i hi
    exact ⟨str_step (by omega), drop_pos hb (i + 1) (by omega), key (i + 1) (by omega), key i (by omega)⟩
  obtain ⟨P, hP⟩ : ∃ P, P = prodI l := ⟨_, rfl⟩
  have HP0 : Hid (P = prodI (l.drop 0)) := by show _ = _; rw [hP]; rfl
  have HNB : Hid (∀ u w2, w.heap.size ≤ w2.heap.size → NewInts w.heap.size w2 u (nbL l x) → VMake 148 #[u] (nbL l x) w.heap.size w2) := by
    intro u w2 hs hu
    refine values_new hu hs ?_ ?_
    · have h1 := Lib.compact_length_le (sortL (nbK l x l.length))
      have h2 := sort_len (nbK l x l.length)
      unfold nbL
      rw [h2, nbK_len] at h1
      omega
    · have := nbL_mem (l := l) (x := x) (nb_mem (i := 0) (.inl rfl) l.length (by omega))
      intro e; rw [e] at this; cases this
  have hwm : wrap64 (2 * (N : Int)) = ((2 * N : Nat) : Int) := by rw [wrap_small _ (by omega) (by omega)]; simp
  have hmk := make_cap (2 * N) (by omega)
  rw [← hwm] at hmk
  have hz : (w.alloc (.cells #[.slice sa N sc, .int .i64 P] 138)).heap.size = w.heap.size + 1 := by simp
  have hnew := new_cap (2 * N) w.heap.size (by omega) (w.alloc (.cells #[.slice sa N sc, .int .i64 P] 138)) (by omega)
  have hb0 : Below w.heap.size w (w.alloc (.cells #[.slice sa N sc, .int .i64 P] 138)) := (Below.refl w.heap.size w).alloc (Nat.le_refl _) _
  have q0 := heap_alloc_new w (.cells #[.slice sa N sc, .int .i64 P] 138)
  have hb1 : Below w.heap.size w ((w.alloc (.cells #[.slice sa N sc, .int .i64 P] 138)).alloc (.cells (rowA (List.replicate (2 * N) 0)) 3)) := hb0.alloc (by omega) _
  rw [hz] at hnew
  have HN0 := Lib.hid hnew
  have HB1 := Lib.hid hb1
  have c0 := cellR 0 q0 rfl
  have c1 := cellR 1 q0 rfl
  have k0 := kcell ((Below.refl _ (w.alloc (.cells #[.slice sa N sc, .int .i64 P] 138))).alloc (Nat.le_refl _) (.cells (rowA (List.replicate (2 * N) 0)) 3)) c0
  have k1 := kcell ((Below.refl _ (w.alloc (.cells #[.slice sa N sc, .int .i64 P] 138))).alloc (Nat.le_refl _) (.cells (rowA (List.replicate (2 * N) 0)) 3)) c1
  rw [← hN, ← hP]
  rw [← hP] at hx2 hp
  clear h hb q0 hP hN hwm hnew hb0 hb1 hz
  unfold VMake
  go_enter Tryz.func140, Tryz.ntmps140
  go_wp2_with fail
  clear c0 c1 hmk
  generalize (w.alloc (.cells #[.slice sa N sc, .int .i64 P] 138)).alloc (.cells (rowA (List.replicate (2 * N) 0)) 3) = Y at *
  go_loopw [5, 6, 20] (fun v st iv wr => ∃ (i : Nat), i ≤ N ∧ Hid (NewInts w.heap.size wr v (nbK l x i) ∧ Below w.heap.size w wr) ∧ st = .int .i64 (prodI (l.drop i)) ∧ iv = .int .i64 (i : Int)) (fun _ _ iv _ => N - (intOf iv).toNat)
  case atStart => exact ⟨0, Nat.zero_le _, ⟨HN0.out, HB1.out⟩, by rw [← HP0.out], rfl⟩
  case round =>
    clear HN0 HB1 k0 k1
    obtain ⟨i, hi, HI, rfl, rfl⟩ := hrel
    by_cases hlt : i < N
    · have hil : i < l.length := by rw [← HN.out]; exact hlt
      obtain ⟨g, o, rfl, hc⟩ := (HL.out.keep HI.out.2).at_ (ne_nil_of_lt hil)
      have e0 := hc i hil
      rw [show l[i] = l.getD i 0 by simp [List.getD, hil]] at e0
      obtain ⟨p1, p2, p3, p4⟩ := HPR.out i hlt
      obtain ⟨b1, b2⟩ := HBB.out i hil
      have HNX : Hid (nbK l x (i + 1) = nbK l x i ++ [x + strI l i * ((x / strI l i % l.getD i 0 + 1) % l.getD i 0 - x / strI l i % l.getD i 0), x + strI l i * ((x / strI l i % l.getD i 0 - 1) % l.getD i 0 - x / strI l i % l.getD i 0)]) := rfl
      have HST : Hid (strI l i = prodI (l.drop (i + 1))) := rfl
      generalize l.getD i 0 = s at *
      generalize strI l i = T at *
      generalize prodI (l.drop i) = D at *
      have hDT : wrap64 (D.tdiv s) = T := by
        have := Int.mul_nonneg (show 0 ≤ s by omega) (show 0 ≤ T by omega)
        rw [Int.tdiv_eq_ediv_of_nonneg (by omega), p1, Int.mul_comm, Int.mul_ediv_cancel _ (by omega)]
        exact wrap_small _ (by omega) (by omega)
      have hq0 : 0 ≤ x / T := Int.ediv_nonneg hx (by omega)
      have hq1 : x / T ≤ x := Int.ediv_le_self _ hx
      have hxT : wrap64 (x.tdiv T) = x / T := by
        rw [Int.tdiv_eq_ediv_of_nonneg hx]
        exact wrap_small _ (by omega) (by omega)
      have hqs : (x / T).tmod s = x / T % s := Int.tmod_eq_emod_of_nonneg hq0
      have hc0 : 0 ≤ x / T % s := Int.emod_nonneg _ (by omega)
      have hc1 : x / T % s < s := Int.emod_lt_of_pos _ (by omega)
      obtain ⟨c, hcq⟩ : ∃ c, c = x / T % s := ⟨_, rfl⟩
      rw [← hcq] at hqs hc0 hc1 HNX
      clear hcq
      have HM1 := Lib.hid (fun W => modulo_any (c + 1) s (by omega) (by omega) W)
      have HM2 := Lib.hid (fun W => modulo_any (c - 1) s (by omega) (by omega) W)
      have a0 : 0 ≤ (c + 1) % s := Int.emod_nonneg _ (by omega)
      have a1 : (c + 1) % s < s := Int.emod_lt_of_pos _ (by omega)
      have a2 : 0 ≤ (c - 1) % s := Int.emod_nonneg _ (by omega)
      have a3 : (c - 1) % s < s := Int.emod_lt_of_pos _ (by omega)
      have hw1 : wrap64 (c + 1) = c + 1 := wrap_small _ (by omega) (by omega)
      have hw2 : wrap64 (c - 1) = c - 1 := wrap_small _ (by omega) (by omega)
      generalize (c + 1) % s = m1 at *
      generalize (c - 1) % s = m2 at *
      have hw3 : wrap64 (m1 - c) = m1 - c := wrap_small _ (by omega) (by omega)
      have hw4 : wrap64 (m2 - c) = m2 - c := wrap_small _ (by omega) (by omega)
      have t1 : -256 * 16 ≤ T * (m1 - c) ∧ T * (m1 - c) ≤ 256 * 16 := by
        refine ⟨?_, Int.le_trans (Int.mul_le_mul_of_nonneg_left (show m1 - c ≤ 16 by omega) (by omega)) (by omega)⟩
        have := Int.mul_le_mul_of_nonneg_left (show -16 ≤ m1 - c by omega) (show 0 ≤ T by omega)
        omega
      have t2 : -256 * 16 ≤ T * (m2 - c) ∧ T * (m2 - c) ≤ 256 * 16 := by
        refine ⟨?_, Int.le_trans (Int.mul_le_mul_of_nonneg_left (show m2 - c ≤ 16 by omega) (by omega)) (by omega)⟩
        have := Int.mul_le_mul_of_nonneg_left (show -16 ≤ m2 - c by omega) (show 0 ≤ T by omega)
        omega
      have hw5 : wrap64 (T * (m1 - c)) = T * (m1 - c) := wrap_small _ (by omega) (by omega)
      have hw6 : wrap64 (T * (m2 - c)) = T * (m2 - c) := wrap_small _ (by omega) (by omega)
      have hw7 : wrap64 (x + T * (m1 - c)) = x + T * (m1 - c) := wrap_small _ (by omega) (by omega)
      have hw8 : wrap64 (x + T * (m2 - c)) = x + T * (m2 - c) := wrap_small _ (by omega) (by omega)
      obtain ⟨v', w2, hr, hn2, hb2⟩ := appTwo HI.out.1 (x + T * (m1 - c)) (x + T * (m2 - c)) (by rw [nbK_len]; omega) HI.out.2.size
      have HR := Lib.hid hr
      have HI2 : Hid (NewInts w.heap.size w2 v' (nbK l x (i + 1)) ∧ Below w.heap.size w w2) := ⟨by rw [HNX.out]; exact hn2, HI.out.2.trans hb2⟩
      have HWI := Lib.hid (wrap_small ((i : Int) + 1) (by omega) (by have := HN.out; omega))
      have HCS : Hid (((i : Int) + 1) = ((i + 1 : Nat) : Int)) := by show _ = _; rw [Int.natCast_add]; rfl
      have HME : Hid (N - (intOf (.int .i64 ((i : Int) + 1))).toNat < N - (intOf (.int .i64 (i : Int))).toNat) := by show _ < _; simp [intOf]; omega
      have HMO : Hid (N - (intOf (.int .i64 (wrap64 ((i : Int) + 1)))).toNat < N - (intOf (.int .i64 (i : Int))).toNat) := by show _ < _; rw [HWI.out]; exact HME.out
      have hs0 : s ≠ 0 := by omega
      have hT0 : T ≠ 0 := by omega
      clear hc p1 a0 a1 a2 a3 t1 t2 hr hn2 hb2 hq0 hq1 hc0 hc1 HNX hil HI
      go_wp2_with fail
      refine (HM1.out _).mono ?_
      rintro e wq ⟨rfl, rfl⟩
      go_wp2_with fail
      refine (HM2.out _).mono ?_
      rintro e wq ⟨rfl, rfl⟩
      go_wp2_with (at_builtin; refine Lib.wpList_append_run _ rfl (.tmp 32) (.tmp 53) 22 22 rfl _ _ rfl rfl _ _ HR.out ?_)
      go_roundw
      case rel => exact ⟨i + 1, by omega, HI2, by rw [← HST.out], by rw [HWI.out, HCS.out]⟩
      case measure => exact HMO.out
    · have hin : i = N := by omega
      subst hin
      have HSO := Lib.hid (sort_new HI.out.1 HI.out.2.size)
      have HB2 := Lib.hid HI.out.2
      clear HI
      go_wp2_with fail
      refine HSO.out.mono ?_
      rintro e w3 ⟨rfl, h3, hb3⟩
      have HB3 := Lib.hid (HB2.out.trans hb3)
      have HCO := Lib.hid (compact_new h3 HB3.out.size)
      clear HSO h3 hb3 HB2
      go_wp2_with fail
      refine HCO.out.mono ?_
      rintro e w4 ⟨u, rfl, h4, hb4⟩
      have HB4 := Lib.hid (HB3.out.trans hb4)
      have HV : Hid (VMake 148 #[u] (nbL l x) w.heap.size w4) := HNB.out u w4 HB4.out.size (by unfold nbL; rw [← HN.out]; exact h4)
      clear HCO h4 hb4 HB3 HNB
      unfold VMake at HV
      go_wp2_with fail
      refine HV.out.mono ?_
      rintro e w5 ⟨gf, lb, rfl, h5, hb5⟩
      have HR5 : Hid (VIter gf lb (nbL l x) w.heap.size w5 ∧ Below w.heap.size w w5) := ⟨h5, HB4.out.trans hb5⟩
      clear HV h5 hb5 HB4
      go_wp2_with fail
      go_ret
      exact ⟨gf, lb, rfl, HR5.out.1, HR5.out.2⟩
end Go.Proofs.YtbhkenphcahifaaGreat
