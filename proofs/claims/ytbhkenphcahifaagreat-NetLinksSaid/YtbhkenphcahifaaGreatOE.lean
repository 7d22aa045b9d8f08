import Derived.Test.YtbhkenphcahifaaGreatOD
namespace Go.Proofs.YtbhkenphcahifaaGreat
open Go.RowKit Go.Shelf
attribute [local go_sem] Oper.semAt_some
set_option maxRecDepth 100000
set_option maxHeartbeats 4000000

/-- the sides of a torus lie in memory -/
def LowL (g off : Nat) (l : List Int) (W : World) : Prop := ∀ j (hj : j < l.length), W.cell? ⟨g, off + j, none⟩ = some (.int .i64 l[j])
theorem LowL.below {g off : Nat} {l : List Int} {W W' : World} {B : Nat} (h : LowL g off l W) (hg : g < B) (hb : Below B W W') : LowL g off l W' := fun j hj => (hb.cell (p := ⟨g, off + j, none⟩) hg).trans (h j hj)
theorem LowL.ints {g off : Nat} {l : List Int} {W : World} (h : LowL g off l W) (hl : l.length ≤ 1000) : Ints W (some ⟨g, off, none⟩) l := ⟨by omega, fun _ => ⟨g, off, rfl, h⟩⟩
/-- what the iterator holds between two steps -/
def TS (n0 o ga ge g off : Nat) (cs : List (Nat × Obj)) (l cy c : List Int) (W : World) : Prop := Cap n0 o cs W ∧ Cap n0 o [(ge, .cells (rowA cy) 3 (0, 0))] W ∧ LowL g off l W ∧ RowAt W ga c ∧ Fq n0 o ga W
theorem TS.below {J : World → Prop} {n0 o ga ge g off : Nat} {cs : List (Nat × Obj)} {l cy c : List Int} {W W' : World} (h : TS n0 o ga ge g off cs l cy c W) (P : Priv J (Fq n0 o)) (hJ : J W) (hb : Below W.heap.size W W') : TS n0 o ga ge g off cs l cy c W' :=
  ⟨h.1.below P hJ hb, h.2.1.below P hJ hb, fun j hj => kcell hb (h.2.2.1 j hj), h.2.2.2.1.keep hb, P.grow _ _ _ hJ h.2.2.2.2 hb⟩
theorem TS.kq {n0 o ga ge g off : Nat} {cs : List (Nat × Obj)} {l cy c : List Int} {W W' : World} (h : TS n0 o ga ge g off cs l cy c W) (hg : g < n0) (k : Kq n0 o W W') : TS n0 o ga ge g off cs l cy c W' :=
  ⟨h.1.kq k, h.2.1.kq k, h.2.2.1.below hg k.1, ((k.2 _ h.2.2.2.2).1).trans h.2.2.2.1, (k.2 _ h.2.2.2.2).2⟩
theorem TS.store {J : World → Prop} {n0 o ga ge g off : Nat} {cs : List (Nat × Obj)} {l cy c : List Int} {W : World} (h : TS n0 o ga ge g off cs l cy c W) (P : Priv J (Fq n0 o)) (hJ : J W) (h1 : ∀ p ∈ cs, p.1 ≠ ga) (h2 : ge ≠ ga) (h3 : g ≠ ga) (i : Nat) (v : Int) : TS n0 o ga ge g off cs l cy (c.set i v) (W.setCell ⟨ga, i, none⟩ (.int .i64 v)) :=
  ⟨h.1.store P hJ h.2.2.2.2 h1, h.2.1.store P hJ h.2.2.2.2 (fun p hp => by simp at hp; subst hp; exact h2), fun j hj => by
    rw [← h.2.2.1 j hj]
    exact World.cell?_of_block (w := W) (heap_setCell_other _ _ _ _ h3), h.2.2.2.1.set i v, P.store _ _ _ _ _ hJ h.2.2.2.2 h.2.2.2.2⟩
theorem TS.cur {n0 o ga ge g off : Nat} {cs : List (Nat × Obj)} {l cy c : List Int} {W : World} (h : TS n0 o ga ge g off cs l cy c W) (i : Nat) (hi : i < c.length) : W.cell? ⟨ga, i, none⟩ = some (.int .i64 (c.getD i 0)) := by
  rw [h.2.2.2.1.cell i hi]; simp [List.getD, hi]
theorem TS.fin {n0 o ga ge g off : Nat} {cs : List (Nat × Obj)} {l cy c : List Int} {W : World} (h : TS n0 o ga ge g off cs l cy c W) (i : Nat) (hi : i < cy.length) : W.cell? ⟨ge, i, none⟩ = some (.int .i64 (cy.getD i 0)) := by
  have hr : RowAt W ge cy := h.2.1.m0
  rw [hr.cell i hi]; simp [List.getD, hi]
theorem TS.low {n0 o ga ge g off : Nat} {cs : List (Nat × Obj)} {l cy c : List Int} {W : World} (h : TS n0 o ga ge g off cs l cy c W) (i : Nat) (hi : i < l.length) : W.cell? ⟨g, off + i, none⟩ = some (.int .i64 (l.getD i 0)) := by
  rw [h.2.2.1 i hi]; simp [List.getD, hi]
theorem info105' : (Tryz.prog.info? 138).map (·.size) = some 2 := info105
theorem torusIter (n0 o Bs Bx By g off sc : Nat) (l : List Int) (mm x y : Int) (hg : g < n0) (hl1 : 1 ≤ l.length) (hl4 : l.length ≤ 4) (hb : ∀ i, i < l.length → 2 ≤ l.getD i 0 ∧ l.getD i 0 ≤ 16) (hx : 0 ≤ x) (hx2 : x ≤ 1000) (hy : 0 ≤ y) (hy2 : y ≤ 1000) {w : World}
    (q0 : w.heap[Bs]? = some (.cells #[.slice (some ⟨g, off, none⟩) l.length sc, .int .i64 mm] 138 (0, 0))) (q1 : w.heap[Bx]? = some (.cells #[.int .i64 x] 3 (0, 0))) (q2 : w.heap[By]? = some (.cells #[.int .i64 y] 3 (0, 0))) (hlow : LowL g off l w) (n : Nat) :
    SeqW n 151 #[.pointer (some ⟨Bs, 0, none⟩), .pointer (some ⟨Bx, 0, none⟩), .pointer (some ⟨By, 0, none⟩)] encP (Kq n0 o) (Fq n0 o) (fun b => b = Bs ∨ b = Bx ∨ b = By) (torusL l x y) w := by
  intro ll J W hW hnd hP hY h0
  obtain ⟨N, hN⟩ : ∃ N, N = l.length := ⟨_, rfl⟩
  have HN := Lib.hid hN
  rw [← hN] at q0 hl1 hl4
  have HC : Hid (Cap n0 o [(Bs, .cells #[.slice (some ⟨g, off, none⟩) N sc, .int .i64 mm] 138 (0, 0)), (Bx, .cells #[.int .i64 x] 3 (0, 0)), (By, .cells #[.int .i64 y] 3 (0, 0))] W) := by
    intro p hp
    simp only [List.mem_cons, List.not_mem_nil, or_false] at hp
    rcases hp with rfl | rfl | rfl
    · exact ⟨hnd _ (.inl rfl), heapB hW q0⟩
    · exact ⟨hnd _ (.inr (.inl rfl)), heapB hW q1⟩
    · exact ⟨hnd _ (.inr (.inr rfl)), heapB hW q2⟩
  have hgw : g < w.heap.size := block_lt_of_cell (hlow 0 (by omega))
  have HLW := Lib.hid (hlow.below hgw hW)
  have hsW := hW.size
  have hBlt : Bs < W.heap.size ∧ Bx < W.heap.size ∧ By < W.heap.size := ⟨(Array.getElem?_eq_some_iff.1 HC.out.m0).1, (Array.getElem?_eq_some_iff.1 HC.out.m1).1, (Array.getElem?_eq_some_iff.1 HC.out.m2).1⟩
  have HBL := Lib.hid hBlt
  have HGN := Lib.hid hg
  have HGW : Hid (g < W.heap.size) := Nat.lt_of_lt_of_le hgw hsW
  have HBB := Lib.hid hb
  have HY := Lib.hid hY
  have HP := Lib.hid hP
  have hgW : g < W.heap.size := by omega
  have hpos : ∀ s ∈ l, 1 ≤ s ∧ s ≤ 64 := fun s hs => by
    obtain ⟨j, hj, rfl⟩ := List.getElem_of_mem hs
    have := hb j hj
    rw [show l.getD j 0 = l[j] by simp [List.getD, hj]] at this
    omega
  have HPX := Lib.hid (fun W' (hw : Below W.heap.size W W') => coords_any ((HLW.out.below hgW hw).ints (by omega)) hpos sc mm x hx hx2)
  have HPY := Lib.hid (fun W' (hw : Below W.heap.size W W') => coords_any ((HLW.out.below hgW hw).ints (by omega)) hpos sc mm y hy hy2)
  rw [← hN] at HPX HPY
  have HIX := Lib.hid (coords_in hb x)
  have HIY := Lib.hid (coords_in hb y)
  have HDL : Hid (torusL l x y = dimK l (coordsL l y) N (coordsL l x)) := by show _ = _; rw [hN]; rfl
  generalize torusL l x y = DL at *
  generalize coordsL l x = cx at *
  generalize coordsL l y = cy at *
  clear hY hnd hW q0 q1 q2 hP hb hlow hN hg hBlt hgw hsW hgW hpos
  have hl1' := Lib.hid hl1
  have hl4' := Lib.hid hl4
  refine callsIn_of_wp Tryz.func151 rfl trivial ?_ rfl
  simp only [Tryz.ntmps151, List.size_toArray, List.length_cons, List.length_nil, Nat.reduceAdd, Nat.reduceSub, Array.replicate_succ, Array.replicate_zero, List.push_toArray, List.append_toArray, List.nil_append, List.cons_append]
  gi_wp2
  refine region_det (by kernel_rfl) (I := fun listed a' w' => ∃ ga ge : Nat, Hid (Below W.heap.size W w') ∧ Hid (listed.getD 2 false = true → W.heap.size ≤ ga ∧ RowAt w' ga cx) ∧ Hid (listed.getD 5 false = true → W.heap.size ≤ ge ∧ RowAt w' ge cy ∧ ga ≠ ge) ∧ Hid (listed.getD 5 false = true → listed.getD 2 false = true) ∧ Hid (listed.getD 6 false = true → listed.getD 2 false = true) ∧ Hid (listed.getD 7 false = true → listed.getD 5 false = true) ∧ a' = ⟨#[Value.func (Fn.yield ll) #[] #[], Value.pointer (some ⟨Bs, 0, none⟩), Value.pointer (some ⟨Bx, 0, none⟩), Value.pointer (some ⟨By, 0, none⟩), undef, (if listed.getD 6 false = true then Value.slice (some ⟨ga, 0, none⟩) N N else undef), (if listed.getD 7 false = true then Value.slice (some ⟨ge, 0, none⟩) N N else undef), undef, undef, undef, undef, (if listed.getD 0 false = true then Value.agg #[.slice (some ⟨g, off, none⟩) N sc, .int .i64 mm] else undef), (if listed.getD 1 false = true then Value.int IntKind.i64 (x) else undef), (if listed.getD 2 false = true then Value.slice (some ⟨ga, 0, none⟩) N N else undef), (if listed.getD 3 false = true then Value.agg #[.slice (some ⟨g, off, none⟩) N sc, .int .i64 mm] else undef), (if listed.getD 4 false = true then Value.int IntKind.i64 (y) else undef), (if listed.getD 5 false = true then Value.slice (some ⟨ge, 0, none⟩) N N else undef), undef, undef, undef, undef, undef, undef, undef, undef, undef, undef, undef, undef, undef, undef, undef, undef, undef, undef, undef, undef, undef, undef, undef, undef, undef, undef, undef, undef, undef, undef, undef, undef, undef, undef, undef, undef, undef, undef, undef, undef, undef, undef, undef, undef, undef, undef, undef, undef, undef, undef, undef, undef, undef, undef, undef, undef, undef, undef, undef, undef, undef, undef, undef], []⟩) (hup_check (by kernel_rfl)) ?h0 ?step ?fin
  case h0 => exact ⟨0, 0, (Below.refl _ _).drew, (fun h => by simp at h), (fun h => by simp at h), (fun h => by simp at h), (fun h => by simp at h), (fun h => by simp at h), rfl⟩
  case step => as_aux_lemma =>
    intro listed a' w' i hs hbi hdep hi ⟨ga, ge, IB, IX, IE, J5, J6, J7, ha⟩
    obtain ⟨ls⟩ := listed
    match ls, hs with
    | [x0, x1, x2, x3, x4, x5, x6, x7], _ =>
    subst ha
    have hi' : i = 0 ∨ i = 1 ∨ i = 2 ∨ i = 3 ∨ i = 4 ∨ i = 5 ∨ i = 6 ∨ i = 7 := by simp at hi; omega
    rcases hi' with rfl | rfl | rfl | rfl | rfl | rfl | rfl | rfl
    · obtain rfl : x0 = false := by simpa using hbi
      refine wpOpIn_load_row rfl rfl 138 _ rfl Bs rfl 138 _ _ _ (heapB IB.out HC.out.m0) Tryz.underlying138 rfl info105' ?_
      exact ⟨ga, ge, IB, IX, IE, J5, J6, J7, rfl⟩
    · obtain rfl : x1 = false := by simpa using hbi
      have c9 := kcell IB.out (cellR 0 HC.out.m1 rfl)
      refine wpOpIn_plain (v := Value.int IntKind.i64 (x)) (w' := w') rfl rfl (by simp [Oper.semAt, execOp, go_sem, c9]) ?_
      exact ⟨ga, ge, IB, IX, IE, J5, J6, J7, rfl⟩
    · obtain rfl : x2 = false := by simpa using hbi
      obtain rfl : x0 = true := hdep _ rfl ⟨0, .data⟩ (by simp) rfl
      obtain rfl : x1 = true := hdep _ rfl ⟨1, .data⟩ (by simp) rfl
      obtain rfl : x5 = false := Bool.eq_false_iff.2 fun h => by have := J5.out h; cases this
      obtain rfl : x6 = false := Bool.eq_false_iff.2 fun h => by have := J6.out h; cases this
      refine wpOpIn_call (args := #[Value.agg #[.slice (some ⟨g, off, none⟩) N sc, .int .i64 mm], Value.int IntKind.i64 (x)]) rfl rfl (sem_call2 rfl rfl rfl (enters_of Tryz.func141 (by kernel_rfl) rfl)) (HPX.out w' IB.out) ?_
      rintro e V ⟨gb, rfl, hgb, hRb, hb⟩
      exact ⟨_, rfl, gb, ge, (IB.out.trans (hb.mono IB.out.size)), (fun _ => ⟨Nat.le_trans IB.out.size hgb, hRb⟩), (fun h => by simp at h), (fun _ => rfl), (fun _ => rfl), J7, rfl⟩
    · obtain rfl : x3 = false := by simpa using hbi
      refine wpOpIn_load_row rfl rfl 138 _ rfl Bs rfl 138 _ _ _ (heapB IB.out HC.out.m0) Tryz.underlying138 rfl info105' ?_
      exact ⟨ga, ge, IB, IX, IE, J5, J6, J7, rfl⟩
    · obtain rfl : x4 = false := by simpa using hbi
      have c9 := kcell IB.out (cellR 0 HC.out.m2 rfl)
      refine wpOpIn_plain (v := Value.int IntKind.i64 (y)) (w' := w') rfl rfl (by simp [Oper.semAt, execOp, go_sem, c9]) ?_
      exact ⟨ga, ge, IB, IX, IE, J5, J6, J7, rfl⟩
    · obtain rfl : x5 = false := by simpa using hbi
      obtain rfl : x3 = true := hdep _ rfl ⟨3, .data⟩ (by simp) rfl
      obtain rfl : x4 = true := hdep _ rfl ⟨4, .data⟩ (by simp) rfl
      obtain rfl : x2 = true := hdep _ rfl ⟨2, .chain⟩ (by simp) rfl
      obtain rfl : x7 = false := Bool.eq_false_iff.2 fun h => by have := J7.out h; cases this
      refine wpOpIn_call (args := #[Value.agg #[.slice (some ⟨g, off, none⟩) N sc, .int .i64 mm], Value.int IntKind.i64 (y)]) rfl rfl (sem_call2 rfl rfl rfl (enters_of Tryz.func141 (by kernel_rfl) rfl)) (HPY.out w' IB.out) ?_
      rintro e V ⟨gb, rfl, hgb, hRb, hb⟩
      exact ⟨_, rfl, ga, gb, (IB.out.trans (hb.mono IB.out.size)), (fun _ => ⟨(IX.out rfl).1, (IX.out rfl).2.keep hb⟩), (fun _ => ⟨Nat.le_trans IB.out.size hgb, hRb, by have := (IX.out rfl).2.lt; omega⟩), (fun _ => rfl), J6, (fun _ => rfl), rfl⟩
    · obtain rfl : x6 = false := by simpa using hbi
      obtain rfl : x2 = true := hdep _ rfl ⟨2, .data⟩ (by simp) rfl
      refine wpOpIn_plain rfl rfl rfl ?_
      exact ⟨ga, ge, IB, IX, IE, J5, (fun _ => rfl), J7, rfl⟩
    · obtain rfl : x7 = false := by simpa using hbi
      obtain rfl : x5 = true := hdep _ rfl ⟨5, .data⟩ (by simp) rfl
      refine wpOpIn_plain rfl rfl rfl ?_
      exact ⟨ga, ge, IB, IX, IE, J5, J6, (fun _ => rfl), rfl⟩
  case fin =>
  intro listed a' Z hs hall ⟨ga, ge, IB, IX, IE, J5, J6, J7, ha⟩
  obtain ⟨ls⟩ := listed
  match ls, hs with
  | [x0, x1, x2, x3, x4, x5, x6, x7], _ =>
  obtain rfl : x0 = true := hall 0 (by simp)
  obtain rfl : x1 = true := hall 1 (by simp)
  obtain rfl : x2 = true := hall 2 (by simp)
  obtain rfl : x3 = true := hall 3 (by simp)
  obtain rfl : x4 = true := hall 4 (by simp)
  obtain rfl : x5 = true := hall 5 (by simp)
  obtain rfl : x6 = true := hall 6 (by simp)
  obtain rfl : x7 = true := hall 7 (by simp)
  subst ha
  have HZ : Hid (Below W.heap.size W Z) := IB
  have HX := Lib.hid (IX.out rfl)
  have HE := Lib.hid (IE.out rfl)
  clear IB IX IE J5 J6 J7 hall hs HPX HPY
  dsimp only [Exit.then, Exit.inBlock]
  have hfa : Fq n0 o ga Z := (HP.out []).new W Z ga h0 HZ.out HX.out.1 ⟨_, HX.out.2, rfl⟩
  have hfe : Fq n0 o ge Z := (HP.out []).new W Z ge h0 HZ.out HE.out.1 ⟨_, HE.out.2.1, rfl⟩
  have HC1 : Cap n0 o [(ge, .cells (rowA cy) 3 (0, 0))] Z := by
    intro p hp
    simp only [List.mem_cons, List.not_mem_nil, or_false] at hp
    subst hp
    exact ⟨hfe, HE.out.2.1⟩
  have HS : Hid (TS n0 o ga ge g off [(Bs, .cells #[.slice (some ⟨g, off, none⟩) N sc, .int .i64 mm] 138 (0, 0)), (Bx, .cells #[.int .i64 x] 3 (0, 0)), (By, .cells #[.int .i64 y] 3 (0, 0))] l cy cx Z) := ⟨HC.out.below (HP.out []) h0 HZ.out, HC1, fun j hj => kcell HZ.out (HLW.out j hj), HX.out.2, hfa⟩
  have h1 := (HP.out []).jgrow _ _ h0 HZ.out
  have HNE : Hid ((∀ p ∈ ([(Bs, .cells #[.slice (some ⟨g, off, none⟩) N sc, .int .i64 mm] 138 (0, 0)), (Bx, .cells #[.int .i64 x] 3 (0, 0)), (By, .cells #[.int .i64 y] 3 (0, 0))] : List (Nat × Obj)), p.1 ≠ ga) ∧ ge ≠ ga ∧ g ≠ ga) := by
    have h5 := HX.out.1
    obtain ⟨h6, h7, h8⟩ := HBL.out
    have h9 := HGW.out
    refine ⟨fun p hp => ?_, fun e => HE.out.2.2 e.symm, by omega⟩
    simp only [List.mem_cons, List.not_mem_nil, or_false] at hp
    rcases hp with rfl | rfl | rfl
    · show Bs ≠ ga; omega
    · show Bx ≠ ga; omega
    · show By ≠ ga; omega
  have HLC : Hid (cx.length = N ∧ cy.length = N) := ⟨by rw [HIX.out.1, HN.out], by rw [HIY.out.1, HN.out]⟩
  clear h0 hfe hfa HX HE HZ HC HC1 HLW
  have c0 := cellR 0 HS.out.1.m0 rfl
  gi_wp2
  clear c0
  gi_loopw [20] (fun a wr => ∃ (i : Nat) (c : List Int) (pre : List (Int × Int)), i ≤ N ∧ a = .int .i64 (i : Int) ∧ Hid (InT l c) ∧ Hid (pre ++ dimK l cy (N - i) c = DL) ∧ J pre wr ∧ Hid (TS n0 o ga ge g off [(Bs, .cells #[.slice (some ⟨g, off, none⟩) N sc, .int .i64 mm] 138 (0, 0)), (Bx, .cells #[.int .i64 x] 3 (0, 0)), (By, .cells #[.int .i64 y] 3 (0, 0))] l cy c wr)) (fun a _ => N - (intOf a).toNat)
  case atStart => exact ⟨0, cx, [], Nat.zero_le _, rfl, HIX, HDL.out.symm, h1, HS⟩
  case round =>
    obtain ⟨i, c, pre, hi, rfl, HIN, HU, hJ, HT⟩ := hrel
    clear h1 HS
    by_cases hlt : i < N
    case neg =>
      have hiN : i = N := by omega
      subst hiN
      have HU2 : Hid (pre = DL) := by show _ = _; rw [← HU.out, Nat.sub_self]; simp [dimK]
      clear HU
      gi_wp2
      go_end0
      exact ⟨⟨_, rfl⟩, by rw [← HU2.out]; exact hJ⟩
    have HIL : Hid (i < l.length) := by rw [Hid, ← HN.out]; exact hlt
    have HIC : Hid (i < c.length) := by rw [Hid, HIN.out.1]; exact HIL.out
    have HIE : Hid (i < cy.length) := by rw [Hid, HLC.out.2]; exact hlt
    obtain ⟨b1, b2⟩ := HBB.out i HIL.out
    obtain ⟨a1, a2⟩ := HIN.out.2 i HIL.out
    obtain ⟨t1, t2⟩ := HIY.out.2 i HIL.out
    have e0 := HT.out.low i HIL.out
    have ca := HT.out.cur i HIC.out
    have ce := HT.out.fin i HIE.out
    have HUS : Hid (dimK l cy (N - i) c = mvK l i (l.getD i 0) (byI (l.getD i 0) (c.getD i 0) (cy.getD i 0)) (cy.getD i 0) (dimK l cy (N - (i + 1))) (l.getD i 0).toNat c 0) := by
      show _ = _
      obtain ⟨r, hr⟩ : ∃ r, N - i = r + 1 := ⟨N - i - 1, by omega⟩
      have hr2 : N - (i + 1) = r := by omega
      rw [hr, hr2, dimK, ← HN.out, show N - (r + 1) = i by omega]
    have HD0 := Lib.hid (dst_in (b := byI (l.getD i 0) (c.getD i 0) (cy.getD i 0)) a1 a2 t1 t2)
    have HBO := Lib.hid (by_or (l.getD i 0) (c.getD i 0) (cy.getD i 0))
    have HBY : Hid (byI (l.getD i 0) (c.getD i 0) (cy.getD i 0) = if l.getD i 0 / 2 < (cy.getD i 0 - c.getD i 0) % l.getD i 0 then -1 else 1) := rfl
    have HM := same_of (fun W => modulo_any (cy.getD i 0 - c.getD i 0) (l.getD i 0) (by omega) (by omega) W)
    have hws : wrap64 (cy.getD i 0 - c.getD i 0) = cy.getD i 0 - c.getD i 0 := by generalize cy.getD i 0 = p at *; generalize c.getD i 0 = q at *; unfold wrap64; omega
    have hwq : wrap64 ((l.getD i 0).tdiv 2) = l.getD i 0 / 2 := by rw [Int.tdiv_eq_ediv_of_nonneg (by omega)]; generalize l.getD i 0 = q at *; unfold wrap64; omega
    generalize hs : l.getD i 0 = s at *
    have HSL := Lib.hid hs
    generalize ht : cy.getD i 0 = t at *
    have HTL := Lib.hid ht
    generalize hci : c.getD i 0 = ci at *
    have HCL := Lib.hid hci
    generalize byI s ci t = b at *
    clear hs ht hci
    gi_wp2
    refine wpIn_wide.2 ?_
    go_quiet (first | (go_at_call 146; refine Calls.quiet_of_same (HM.out _)))
    have hdr := below_drewN (Below.refl wr.heap.size wr) nq
    replace HT := Lib.hid (HT.out.below (HP.out pre) hJ hdr)
    replace hJ := (HP.out pre).jgrow _ _ hJ hdr
    generalize wr.drewN nq = w5 at *
    clear hdr e0 ca ce hws hwq HM
    by_cases hq : s / 2 < (t - ci) % s
    case pos =>
      have hbX : b = (-1) := by rw [HBY.out, if_pos hq]
      have hdq : decide (s / 2 < (t - ci) % s) = true := decide_eq_true hq
      subst hbX
      have HU2 : Hid (pre ++ mvK l i s (-1) t (dimK l cy (N - (i + 1))) s.toNat c 0 = DL) := by show _ = _; rw [← HU.out, HUS.out]
      have HDS : Hid (dstI s (-1) (c.getD i 0) t ≤ s.toNat) := by have := HD0.out; rw [Hid, HCL.out]; omega
      have hi1 : i + 1 ≤ N := by omega
      have HB12 := Lib.hid (And.intro b1 b2)
      have HT12 := Lib.hid (And.intro t1 t2)
      clear HU HUS HBY HD0 HBO HCL a1 a2 b1 b2 t1 t2 hlt hi
      have hq2 := hq
      gi_wp2
      rw [show decide (s / 2 < (t - ci) % s) = true from decide_eq_true hq]
      clear hdq hq hq2
      gi_loopw [10] (fun a wq => ∃ (f : Nat) (c : List Int) (cl : Int) (pre : List (Int × Int)), a = .int .i64 cl ∧ Hid (InT l c) ∧ Hid (dstI s (-1) (c.getD i 0) t ≤ f) ∧ Hid (pre ++ mvK l i s (-1) t (dimK l cy (N - (i + 1))) f c cl = DL) ∧ J pre wq ∧ Hid (TS n0 o ga ge g off [(Bs, .cells #[.slice (some ⟨g, off, none⟩) N sc, .int .i64 mm] 138 (0, 0)), (Bx, .cells #[.int .i64 x] 3 (0, 0)), (By, .cells #[.int .i64 y] 3 (0, 0))] l cy  c wq)) (fun _ wq => (dstI s (-1) (intOf ((wq.cell? ⟨ga, i, none⟩).getD undef)) t).toNat)
      case atStart => exact ⟨s.toNat, c, 0, pre, rfl, HIN, HDS, HU2, hJ, HT⟩
      case round =>
        clear HU2 HDS hJ HT HIN HIC pre c
        obtain ⟨f, c, cl, pre, rfl, HIN, HDF, HU, hJ, HT⟩ := hrel
        have HIC : Hid (i < c.length) := by rw [Hid, HIN.out.1]; exact HIL.out
        obtain ⟨a1, a2⟩ := HIN.out.2 i HIL.out
        rw [HSL.out] at a2
        have ca := HT.out.cur i HIC.out
        have ce := HT.out.fin i HIE.out
        rw [HTL.out] at ce
        have HMS : Hid ((dstI s (-1) (intOf ((wr.cell? ⟨ga, i, none⟩).getD undef)) t).toNat = (dstI s (-1) (c.getD i 0) t).toNat) := by show _ = _; rw [ca]; rfl
        obtain ⟨d1, d2, d3⟩ := dst_in (b := (-1)) a1 a2 HT12.out.1 HT12.out.2
        have HST := Lib.hid (fun hne => dst_step (b := (-1)) (by decide) a1 a2 HT12.out.1 HT12.out.2 hne)
        have HNX := Lib.hid (nx_in (b := (-1)) (by decide) a1 a2)
        have HDF2 := Lib.hid (fun (h : f = 0) (hne : c.getD i 0 ≠ t) => show False by have := HDF.out; have := d3 hne; omega)
        have HDF3 := Lib.hid (show dstI s (-1) (c.getD i 0) t ≤ f from HDF.out)
        have HMP : Hid (c.getD i 0 ≠ t → 1 ≤ dstI s (-1) (c.getD i 0) t) := d3
        have hwv := Lib.hid (wrap_small (c.getD i 0 + (-1)) (by have := HB12.out; omega) (by have := HB12.out; omega))
        have hws := Lib.hid (wrap_small (s - 1) (by have := HB12.out; omega) (by have := HB12.out; omega))
        clear d1 d2 d3 HDF
        generalize hci : c.getD i 0 = ci at *
        have HCI := Lib.hid hci
        clear hci
        by_cases hne : ci = t
        case pos =>
          have hnb : (ci != t) = false := by simp [hne]
          have HU2 : Hid (pre ++ dimK l cy (N - (i + 1)) c = DL) := by
            show _ = _
            rw [← HU.out]
            cases f with
            | zero => rfl
            | succ f => rw [mvK, if_neg (by rw [HCI.out, hne]; simp)]
          have HWI := Lib.hid (wrap_small ((i : Int) + 1) (by omega) (by have := hl4'.out; omega))
          have HMO1 : Hid (N - (intOf (.int .i64 ((i : Int) + 1))).toNat < N - (intOf (.int .i64 (i : Int))).toNat) := by show _ < _; simp [intOf]; omega
          have HCAST0 : Hid (Value.int .i64 ((i : Int) + 1) = .int .i64 ((i + 1 : Nat) : Int)) := by show _ = _; rw [Int.natCast_add]; rfl
          have HCAST : Hid (Value.int .i64 (wrap64 ((i : Int) + 1)) = .int .i64 ((i + 1 : Nat) : Int)) := by show _ = _; rw [HWI.out, Int.natCast_add]; rfl
          have HMO : Hid (N - (intOf (.int .i64 (wrap64 ((i : Int) + 1)))).toNat < N - (intOf (.int .i64 (i : Int))).toNat) := by show _ < _; rw [HWI.out]; exact HMO1.out
          clear HU HST HNX HDF2 HDF3 HMP hwv hws HMS hne
          gi_wp2
          refine wpIn_wide.2 ?_
          go_quiet (fail)
          have hdr := below_drewN (Below.refl wr.heap.size wr) nq
          replace HT := Lib.hid (HT.out.below (HP.out pre) hJ hdr)
          replace hJ := (HP.out pre).jgrow _ _ hJ hdr
          generalize wr.drewN nq = w8 at *
          clear hdr ca ce
          clear HWI
          gi_wp2
          go_roundw
          case rel => exact ⟨i + 1, c, pre, hi1, by first | with_reducible exact HCAST.out | with_reducible exact HCAST0.out, HIN, HU2, hJ, HT⟩
          case measure => first | with_reducible exact HMO.out | with_reducible exact HMO1.out | exact HMO1.out
        case neg =>
          cases f with
          | zero => exact (HDF2.out rfl hne).elim
          | succ f =>
          have hnb : (ci != t) = true := bne_iff_ne.2 hne
          have HST2 := Lib.hid (HST.out hne)
          have HMP2 := Lib.hid (HMP.out hne)
          have HU2 : Hid (pre ++ ((numI l (c.set i (nxI s (ci + (-1)))), clI s (ci + (-1)) cl) :: mvK l i s (-1) t (dimK l cy (N - (i + 1))) f (c.set i (nxI s (ci + (-1)))) (clI s (ci + (-1)) cl)) = DL) := by
            show _ = _
            rw [← HU.out, mvK, HCI.out, if_pos hne]
          clear HU HST HMP HDF2 hne
          gi_wp2
          refine wpIn_wide.2 ?_
          go_quiet (fail)
          have hdr := below_drewN (Below.refl wr.heap.size wr) nq
          replace HT := Lib.hid (HT.out.below (HP.out pre) hJ hdr)
          replace hJ := (HP.out pre).jgrow _ _ hJ hdr
          generalize hw8 : wr.drewN nq = w8 at *
          clear hdr ca ce hw8
          have ca := HT.out.cur i HIC.out
          rw [HCI.out] at ca
          have fa := HT.out.2.2.2.1.open_ i
          have la := HT.out.2.2.2.1.lt
          have hv1 := hwv.out
          have hv2 := hws.out
          gi_wp2
          clear hv1 hv2
          refine ⟨trivial, fun h => (by cases h), callsIn_wide.2 ((within_any (ci + (-1)) 0 (s - 1) _).mono ?_)⟩
          rintro e w9 ⟨rfl, rfl⟩
          have HT9 := Lib.hid (HT.out.store (HP.out pre) hJ HNE.out.1 HNE.out.2.1 HNE.out.2.2 i (ci + (-1)))
          have hJ9 := (HP.out pre).jstore _ ga i (.int .i64 (ci + (-1))) hJ HT.out.2.2.2.2
          clear ca fa la hJ HT
          generalize w8.setCell ⟨ga, i, none⟩ (.int .i64 (ci + (-1))) = w9 at *
          by_cases hin : 0 ≤ ci + (-1) ∧ ci + (-1) ≤ s - 1
          case pos =>
            rw [show decide (0 ≤ ci + (-1) ∧ ci + (-1) ≤ s - 1) = true from decide_eq_true hin]
            have hnx : nxI s (ci + (-1)) = ci + (-1) := if_pos hin
            have hcl : clI s (ci + (-1)) cl = cl := if_pos hin
            rw [hnx, hcl] at HU2
            rw [hnx] at HST2
            have HNX2 : Hid (0 ≤ ci + (-1) ∧ ci + (-1) < s) := by have := HNX.out; rw [hnx] at this; exact this
            clear hnx hcl hin HNX
            have HIN2 : Hid (InT l (c.set i (ci + (-1)))) := HIN.out.set HIL.out HNX2.out.1 (by rw [HSL.out]; exact HNX2.out.2)
            have HU3 : Hid ((pre ++ [(numI l (c.set i (ci + (-1))), cl)]) ++ mvK l i s (-1) t (dimK l cy (N - (i + 1))) f (c.set i (ci + (-1))) (cl) = DL) := by show _ = _; rw [List.append_assoc]; exact HU2.out
            have HGC : Hid ((c.set i (ci + (-1))).getD i 0 = ci + (-1)) := by show _ = _; simp [List.getD, HIC.out]
            have HDF4 : Hid (dstI s (-1) ((c.set i (ci + (-1))).getD i 0) t ≤ f) := by
              show _ ≤ _
              rw [HGC.out, HST2.out]
              have := HDF3.out
              omega
            have HLEN : Hid ((c.set i (ci + (-1))).length = N) := by show _ = _; rw [HIN2.out.1, HN.out]
            have HN9 := Lib.hid (number_any (HT9.out.2.2.1.ints (by rw [← HN.out]; have := hl4'.out; omega)) (HT9.out.2.2.2.1.ints (by rw [HLEN.out]; have := hl4'.out; omega)) (by rw [HLEN.out, HN.out]) (by rw [← HN.out]; exact hl4'.out) HBB.out HIN2.out.2 sc N mm)
            rw [HLEN.out, ← HN.out] at HN9
            have HMT : Hid ((dstI s (-1) (ci + (-1)) t).toNat < (dstI s (-1) ci t).toNat) := by
              show _ < _
              rw [HST2.out]
              have := HMP2.out
              omega
            have c0 := cellR 0 HT9.out.1.m0 rfl
            have c1 := cellR 1 HT9.out.1.m0 rfl
            gi_wp2
            refine ⟨trivial, fun h => (by cases h), callsIn_wide.2 (HN9.out.mono ?_)⟩
            rintro e w10 ⟨rfl, hb10⟩
            replace HT9 := Lib.hid (HT9.out.below (HP.out pre) hJ9 hb10)
            replace hJ9 := (HP.out pre).jgrow _ _ hJ9 hb10
            clear HN9 hb10 c0 c1
            obtain ⟨fn, tm, as_, bd, hy, hR⟩ := HY.out pre (numI l (c.set i (ci + (-1))), cl) _ hJ9 (by rw [← HU2.out]; simp)
            gi_wp2
            refine ⟨fun h => (by cases h), ?_⟩
            refine hR.mono ?_
            rintro e w11 ⟨rfl, hJ11, hkq⟩
            replace HT9 := Lib.hid (HT9.out.kq HGN.out hkq)
            clear hy hR hkq hJ9
            gi_wp2
            go_roundw
            case rel => exact ⟨f, c.set i (ci + (-1)), cl, _, rfl, HIN2, HDF4, HU3, hJ11, HT9⟩
            case measure =>
              have e1 : (dstI s (-1) (intOf ((w11.cell? ⟨ga, i, none⟩).getD undef)) t).toNat = (dstI s (-1) (ci + (-1)) t).toNat := by
                rw [HT9.out.cur i (by rw [List.length_set]; exact HIC.out), HGC.out]; rfl
              exact e1 ▸ HMS.out ▸ HMT.out
          case neg =>
            rw [show decide (0 ≤ ci + (-1) ∧ ci + (-1) ≤ s - 1) = false from decide_eq_false hin]
            have hnx : nxI s (ci + (-1)) = (ci + (-1)) % s := if_neg hin
            have hcl : clI s (ci + (-1)) cl = 1 := if_neg hin
            rw [hnx, hcl] at HU2
            rw [hnx] at HST2
            have HNX2 : Hid (0 ≤ (ci + (-1)) % s ∧ (ci + (-1)) % s < s) := by have := HNX.out; rw [hnx] at this; exact this
            have HMM := Lib.hid (modulo_any (ci + (-1)) s (by have := HB12.out; omega) (by have := HB12.out; omega))
            have ca := HT9.out.cur i (by rw [List.length_set]; exact HIC.out)
            rw [show (c.set i (ci + (-1))).getD i 0 = ci + (-1) by simp [List.getD, HIC.out]] at ca
            have fa := HT9.out.2.2.2.1.open_ i
            have la := HT9.out.2.2.2.1.lt
            clear hnx hcl hin HNX
            gi_wp2
            refine ⟨trivial, fun h => (by cases h), callsIn_wide.2 ((HMM.out _).mono ?_)⟩
            rintro e w9' ⟨rfl, rfl⟩
            clear HMM
            generalize (ci + (-1)) % s = q at *
            have HT8 := Lib.hid (HT9.out.store (HP.out pre) hJ9 HNE.out.1 HNE.out.2.1 HNE.out.2.2 i q)
            rw [List.set_set] at HT8
            have hJ8 := (HP.out pre).jstore _ ga i (.int .i64 q) hJ9 HT9.out.2.2.2.2
            clear HT9 hJ9
            have HT9 := HT8
            have hJ9 := hJ8
            clear HT8 hJ8
            have HIN2 : Hid (InT l (c.set i q)) := HIN.out.set HIL.out HNX2.out.1 (by rw [HSL.out]; exact HNX2.out.2)
            have HU3 : Hid ((pre ++ [(numI l (c.set i q), 1)]) ++ mvK l i s (-1) t (dimK l cy (N - (i + 1))) f (c.set i q) (1) = DL) := by show _ = _; rw [List.append_assoc]; exact HU2.out
            have HGC : Hid ((c.set i q).getD i 0 = q) := by show _ = _; simp [List.getD, HIC.out]
            have HDF4 : Hid (dstI s (-1) ((c.set i q).getD i 0) t ≤ f) := by
              show _ ≤ _
              rw [HGC.out, HST2.out]
              have := HDF3.out
              omega
            have HLEN : Hid ((c.set i q).length = N) := by show _ = _; rw [HIN2.out.1, HN.out]
            have HN9 := Lib.hid (number_any (HT9.out.2.2.1.ints (by rw [← HN.out]; have := hl4'.out; omega)) (HT9.out.2.2.2.1.ints (by rw [HLEN.out]; have := hl4'.out; omega)) (by rw [HLEN.out, HN.out]) (by rw [← HN.out]; exact hl4'.out) HBB.out HIN2.out.2 sc N mm)
            rw [HLEN.out, ← HN.out] at HN9
            have HMT : Hid ((dstI s (-1) (q) t).toNat < (dstI s (-1) ci t).toNat) := by
              show _ < _
              rw [HST2.out]
              have := HMP2.out
              omega
            have c0 := cellR 0 HT9.out.1.m0 rfl
            have c1 := cellR 1 HT9.out.1.m0 rfl
            gi_wp2
            refine ⟨trivial, fun h => (by cases h), callsIn_wide.2 (HN9.out.mono ?_)⟩
            rintro e w10 ⟨rfl, hb10⟩
            replace HT9 := Lib.hid (HT9.out.below (HP.out pre) hJ9 hb10)
            replace hJ9 := (HP.out pre).jgrow _ _ hJ9 hb10
            clear HN9 hb10 c0 c1
            obtain ⟨fn, tm, as_, bd, hy, hR⟩ := HY.out pre (numI l (c.set i q), 1) _ hJ9 (by rw [← HU2.out]; simp)
            gi_wp2
            refine ⟨fun h => (by cases h), ?_⟩
            refine hR.mono ?_
            rintro e w11 ⟨rfl, hJ11, hkq⟩
            replace HT9 := Lib.hid (HT9.out.kq HGN.out hkq)
            clear hy hR hkq hJ9
            gi_wp2
            go_roundw
            case rel => exact ⟨f, c.set i q, 1, _, rfl, HIN2, HDF4, HU3, hJ11, HT9⟩
            case measure =>
              have e1 : (dstI s (-1) (intOf ((w11.cell? ⟨ga, i, none⟩).getD undef)) t).toNat = (dstI s (-1) (q) t).toNat := by
                rw [HT9.out.cur i (by rw [List.length_set]; exact HIC.out), HGC.out]; rfl
              exact e1 ▸ HMS.out ▸ HMT.out
    case neg =>
      have hbX : b = 1 := by rw [HBY.out, if_neg hq]
      have hdq : decide (s / 2 < (t - ci) % s) = false := decide_eq_false hq
      subst hbX
      have HU2 : Hid (pre ++ mvK l i s 1 t (dimK l cy (N - (i + 1))) s.toNat c 0 = DL) := by show _ = _; rw [← HU.out, HUS.out]
      have HDS : Hid (dstI s 1 (c.getD i 0) t ≤ s.toNat) := by have := HD0.out; rw [Hid, HCL.out]; omega
      have hi1 : i + 1 ≤ N := by omega
      have HB12 := Lib.hid (And.intro b1 b2)
      have HT12 := Lib.hid (And.intro t1 t2)
      clear HU HUS HBY HD0 HBO HCL a1 a2 b1 b2 t1 t2 hlt hi
      have hq2 := Int.not_lt.1 hq
      gi_wp2
      
      clear hdq hq hq2
      gi_loopw [10] (fun a wq => ∃ (f : Nat) (c : List Int) (cl : Int) (pre : List (Int × Int)), a = .int .i64 cl ∧ Hid (InT l c) ∧ Hid (dstI s 1 (c.getD i 0) t ≤ f) ∧ Hid (pre ++ mvK l i s 1 t (dimK l cy (N - (i + 1))) f c cl = DL) ∧ J pre wq ∧ Hid (TS n0 o ga ge g off [(Bs, .cells #[.slice (some ⟨g, off, none⟩) N sc, .int .i64 mm] 138 (0, 0)), (Bx, .cells #[.int .i64 x] 3 (0, 0)), (By, .cells #[.int .i64 y] 3 (0, 0))] l cy  c wq)) (fun _ wq => (dstI s 1 (intOf ((wq.cell? ⟨ga, i, none⟩).getD undef)) t).toNat)
      case atStart => exact ⟨s.toNat, c, 0, pre, rfl, HIN, HDS, HU2, hJ, HT⟩
      case round =>
        clear HU2 HDS hJ HT HIN HIC pre c
        obtain ⟨f, c, cl, pre, rfl, HIN, HDF, HU, hJ, HT⟩ := hrel
        have HIC : Hid (i < c.length) := by rw [Hid, HIN.out.1]; exact HIL.out
        obtain ⟨a1, a2⟩ := HIN.out.2 i HIL.out
        rw [HSL.out] at a2
        have ca := HT.out.cur i HIC.out
        have ce := HT.out.fin i HIE.out
        rw [HTL.out] at ce
        have HMS : Hid ((dstI s 1 (intOf ((wr.cell? ⟨ga, i, none⟩).getD undef)) t).toNat = (dstI s 1 (c.getD i 0) t).toNat) := by show _ = _; rw [ca]; rfl
        obtain ⟨d1, d2, d3⟩ := dst_in (b := 1) a1 a2 HT12.out.1 HT12.out.2
        have HST := Lib.hid (fun hne => dst_step (b := 1) (by decide) a1 a2 HT12.out.1 HT12.out.2 hne)
        have HNX := Lib.hid (nx_in (b := 1) (by decide) a1 a2)
        have HDF2 := Lib.hid (fun (h : f = 0) (hne : c.getD i 0 ≠ t) => show False by have := HDF.out; have := d3 hne; omega)
        have HDF3 := Lib.hid (show dstI s 1 (c.getD i 0) t ≤ f from HDF.out)
        have HMP : Hid (c.getD i 0 ≠ t → 1 ≤ dstI s 1 (c.getD i 0) t) := d3
        have hwv := Lib.hid (wrap_small (c.getD i 0 + 1) (by have := HB12.out; omega) (by have := HB12.out; omega))
        have hws := Lib.hid (wrap_small (s - 1) (by have := HB12.out; omega) (by have := HB12.out; omega))
        clear d1 d2 d3 HDF
        generalize hci : c.getD i 0 = ci at *
        have HCI := Lib.hid hci
        clear hci
        by_cases hne : ci = t
        case pos =>
          have hnb : (ci != t) = false := by simp [hne]
          have HU2 : Hid (pre ++ dimK l cy (N - (i + 1)) c = DL) := by
            show _ = _
            rw [← HU.out]
            cases f with
            | zero => rfl
            | succ f => rw [mvK, if_neg (by rw [HCI.out, hne]; simp)]
          have HWI := Lib.hid (wrap_small ((i : Int) + 1) (by omega) (by have := hl4'.out; omega))
          have HMO1 : Hid (N - (intOf (.int .i64 ((i : Int) + 1))).toNat < N - (intOf (.int .i64 (i : Int))).toNat) := by show _ < _; simp [intOf]; omega
          have HCAST0 : Hid (Value.int .i64 ((i : Int) + 1) = .int .i64 ((i + 1 : Nat) : Int)) := by show _ = _; rw [Int.natCast_add]; rfl
          have HCAST : Hid (Value.int .i64 (wrap64 ((i : Int) + 1)) = .int .i64 ((i + 1 : Nat) : Int)) := by show _ = _; rw [HWI.out, Int.natCast_add]; rfl
          have HMO : Hid (N - (intOf (.int .i64 (wrap64 ((i : Int) + 1)))).toNat < N - (intOf (.int .i64 (i : Int))).toNat) := by show _ < _; rw [HWI.out]; exact HMO1.out
          clear HU HST HNX HDF2 HDF3 HMP hwv hws HMS hne
          gi_wp2
          refine wpIn_wide.2 ?_
          go_quiet (fail)
          have hdr := below_drewN (Below.refl wr.heap.size wr) nq
          replace HT := Lib.hid (HT.out.below (HP.out pre) hJ hdr)
          replace hJ := (HP.out pre).jgrow _ _ hJ hdr
          generalize wr.drewN nq = w8 at *
          clear hdr ca ce
          clear HWI
          gi_wp2
          go_roundw
          case rel => exact ⟨i + 1, c, pre, hi1, by first | with_reducible exact HCAST.out | with_reducible exact HCAST0.out, HIN, HU2, hJ, HT⟩
          case measure => first | with_reducible exact HMO.out | with_reducible exact HMO1.out | exact HMO1.out
        case neg =>
          cases f with
          | zero => exact (HDF2.out rfl hne).elim
          | succ f =>
          have hnb : (ci != t) = true := bne_iff_ne.2 hne
          have HST2 := Lib.hid (HST.out hne)
          have HMP2 := Lib.hid (HMP.out hne)
          have HU2 : Hid (pre ++ ((numI l (c.set i (nxI s (ci + 1))), clI s (ci + 1) cl) :: mvK l i s 1 t (dimK l cy (N - (i + 1))) f (c.set i (nxI s (ci + 1))) (clI s (ci + 1) cl)) = DL) := by
            show _ = _
            rw [← HU.out, mvK, HCI.out, if_pos hne]
          clear HU HST HMP HDF2 hne
          gi_wp2
          refine wpIn_wide.2 ?_
          go_quiet (fail)
          have hdr := below_drewN (Below.refl wr.heap.size wr) nq
          replace HT := Lib.hid (HT.out.below (HP.out pre) hJ hdr)
          replace hJ := (HP.out pre).jgrow _ _ hJ hdr
          generalize hw8 : wr.drewN nq = w8 at *
          clear hdr ca ce hw8
          have ca := HT.out.cur i HIC.out
          rw [HCI.out] at ca
          have fa := HT.out.2.2.2.1.open_ i
          have la := HT.out.2.2.2.1.lt
          have hv1 := hwv.out
          have hv2 := hws.out
          gi_wp2
          clear hv1 hv2
          refine ⟨trivial, fun h => (by cases h), callsIn_wide.2 ((within_any (ci + 1) 0 (s - 1) _).mono ?_)⟩
          rintro e w9 ⟨rfl, rfl⟩
          have HT9 := Lib.hid (HT.out.store (HP.out pre) hJ HNE.out.1 HNE.out.2.1 HNE.out.2.2 i (ci + 1))
          have hJ9 := (HP.out pre).jstore _ ga i (.int .i64 (ci + 1)) hJ HT.out.2.2.2.2
          clear ca fa la hJ HT
          generalize w8.setCell ⟨ga, i, none⟩ (.int .i64 (ci + 1)) = w9 at *
          by_cases hin : 0 ≤ ci + 1 ∧ ci + 1 ≤ s - 1
          case pos =>
            rw [show decide (0 ≤ ci + 1 ∧ ci + 1 ≤ s - 1) = true from decide_eq_true hin]
            have hnx : nxI s (ci + 1) = ci + 1 := if_pos hin
            have hcl : clI s (ci + 1) cl = cl := if_pos hin
            rw [hnx, hcl] at HU2
            rw [hnx] at HST2
            have HNX2 : Hid (0 ≤ ci + 1 ∧ ci + 1 < s) := by have := HNX.out; rw [hnx] at this; exact this
            clear hnx hcl hin HNX
            have HIN2 : Hid (InT l (c.set i (ci + 1))) := HIN.out.set HIL.out HNX2.out.1 (by rw [HSL.out]; exact HNX2.out.2)
            have HU3 : Hid ((pre ++ [(numI l (c.set i (ci + 1)), cl)]) ++ mvK l i s 1 t (dimK l cy (N - (i + 1))) f (c.set i (ci + 1)) (cl) = DL) := by show _ = _; rw [List.append_assoc]; exact HU2.out
            have HGC : Hid ((c.set i (ci + 1)).getD i 0 = ci + 1) := by show _ = _; simp [List.getD, HIC.out]
            have HDF4 : Hid (dstI s 1 ((c.set i (ci + 1)).getD i 0) t ≤ f) := by
              show _ ≤ _
              rw [HGC.out, HST2.out]
              have := HDF3.out
              omega
            have HLEN : Hid ((c.set i (ci + 1)).length = N) := by show _ = _; rw [HIN2.out.1, HN.out]
            have HN9 := Lib.hid (number_any (HT9.out.2.2.1.ints (by rw [← HN.out]; have := hl4'.out; omega)) (HT9.out.2.2.2.1.ints (by rw [HLEN.out]; have := hl4'.out; omega)) (by rw [HLEN.out, HN.out]) (by rw [← HN.out]; exact hl4'.out) HBB.out HIN2.out.2 sc N mm)
            rw [HLEN.out, ← HN.out] at HN9
            have HMT : Hid ((dstI s 1 (ci + 1) t).toNat < (dstI s 1 ci t).toNat) := by
              show _ < _
              rw [HST2.out]
              have := HMP2.out
              omega
            have c0 := cellR 0 HT9.out.1.m0 rfl
            have c1 := cellR 1 HT9.out.1.m0 rfl
            gi_wp2
            refine ⟨trivial, fun h => (by cases h), callsIn_wide.2 (HN9.out.mono ?_)⟩
            rintro e w10 ⟨rfl, hb10⟩
            replace HT9 := Lib.hid (HT9.out.below (HP.out pre) hJ9 hb10)
            replace hJ9 := (HP.out pre).jgrow _ _ hJ9 hb10
            clear HN9 hb10 c0 c1
            obtain ⟨fn, tm, as_, bd, hy, hR⟩ := HY.out pre (numI l (c.set i (ci + 1)), cl) _ hJ9 (by rw [← HU2.out]; simp)
            gi_wp2
            refine ⟨fun h => (by cases h), ?_⟩
            refine hR.mono ?_
            rintro e w11 ⟨rfl, hJ11, hkq⟩
            replace HT9 := Lib.hid (HT9.out.kq HGN.out hkq)
            clear hy hR hkq hJ9
            gi_wp2
            go_roundw
            case rel => exact ⟨f, c.set i (ci + 1), cl, _, rfl, HIN2, HDF4, HU3, hJ11, HT9⟩
            case measure =>
              have e1 : (dstI s 1 (intOf ((w11.cell? ⟨ga, i, none⟩).getD undef)) t).toNat = (dstI s 1 (ci + 1) t).toNat := by
                rw [HT9.out.cur i (by rw [List.length_set]; exact HIC.out), HGC.out]; rfl
              exact e1 ▸ HMS.out ▸ HMT.out
          case neg =>
            rw [show decide (0 ≤ ci + 1 ∧ ci + 1 ≤ s - 1) = false from decide_eq_false hin]
            have hnx : nxI s (ci + 1) = (ci + 1) % s := if_neg hin
            have hcl : clI s (ci + 1) cl = 1 := if_neg hin
            rw [hnx, hcl] at HU2
            rw [hnx] at HST2
            have HNX2 : Hid (0 ≤ (ci + 1) % s ∧ (ci + 1) % s < s) := by have := HNX.out; rw [hnx] at this; exact this
            have HMM := Lib.hid (modulo_any (ci + 1) s (by have := HB12.out; omega) (by have := HB12.out; omega))
            have ca := HT9.out.cur i (by rw [List.length_set]; exact HIC.out)
            rw [show (c.set i (ci + 1)).getD i 0 = ci + 1 by simp [List.getD, HIC.out]] at ca
            have fa := HT9.out.2.2.2.1.open_ i
            have la := HT9.out.2.2.2.1.lt
            clear hnx hcl hin HNX
            gi_wp2
            refine ⟨trivial, fun h => (by cases h), callsIn_wide.2 ((HMM.out _).mono ?_)⟩
            rintro e w9' ⟨rfl, rfl⟩
            clear HMM
            generalize (ci + 1) % s = q at *
            have HT8 := Lib.hid (HT9.out.store (HP.out pre) hJ9 HNE.out.1 HNE.out.2.1 HNE.out.2.2 i q)
            rw [List.set_set] at HT8
            have hJ8 := (HP.out pre).jstore _ ga i (.int .i64 q) hJ9 HT9.out.2.2.2.2
            clear HT9 hJ9
            have HT9 := HT8
            have hJ9 := hJ8
            clear HT8 hJ8
            have HIN2 : Hid (InT l (c.set i q)) := HIN.out.set HIL.out HNX2.out.1 (by rw [HSL.out]; exact HNX2.out.2)
            have HU3 : Hid ((pre ++ [(numI l (c.set i q), 1)]) ++ mvK l i s 1 t (dimK l cy (N - (i + 1))) f (c.set i q) (1) = DL) := by show _ = _; rw [List.append_assoc]; exact HU2.out
            have HGC : Hid ((c.set i q).getD i 0 = q) := by show _ = _; simp [List.getD, HIC.out]
            have HDF4 : Hid (dstI s 1 ((c.set i q).getD i 0) t ≤ f) := by
              show _ ≤ _
              rw [HGC.out, HST2.out]
              have := HDF3.out
              omega
            have HLEN : Hid ((c.set i q).length = N) := by show _ = _; rw [HIN2.out.1, HN.out]
            have HN9 := Lib.hid (number_any (HT9.out.2.2.1.ints (by rw [← HN.out]; have := hl4'.out; omega)) (HT9.out.2.2.2.1.ints (by rw [HLEN.out]; have := hl4'.out; omega)) (by rw [HLEN.out, HN.out]) (by rw [← HN.out]; exact hl4'.out) HBB.out HIN2.out.2 sc N mm)
            rw [HLEN.out, ← HN.out] at HN9
            have HMT : Hid ((dstI s 1 (q) t).toNat < (dstI s 1 ci t).toNat) := by
              show _ < _
              rw [HST2.out]
              have := HMP2.out
              omega
            have c0 := cellR 0 HT9.out.1.m0 rfl
            have c1 := cellR 1 HT9.out.1.m0 rfl
            gi_wp2
            refine ⟨trivial, fun h => (by cases h), callsIn_wide.2 (HN9.out.mono ?_)⟩
            rintro e w10 ⟨rfl, hb10⟩
            replace HT9 := Lib.hid (HT9.out.below (HP.out pre) hJ9 hb10)
            replace hJ9 := (HP.out pre).jgrow _ _ hJ9 hb10
            clear HN9 hb10 c0 c1
            obtain ⟨fn, tm, as_, bd, hy, hR⟩ := HY.out pre (numI l (c.set i q), 1) _ hJ9 (by rw [← HU2.out]; simp)
            gi_wp2
            refine ⟨fun h => (by cases h), ?_⟩
            refine hR.mono ?_
            rintro e w11 ⟨rfl, hJ11, hkq⟩
            replace HT9 := Lib.hid (HT9.out.kq HGN.out hkq)
            clear hy hR hkq hJ9
            gi_wp2
            go_roundw
            case rel => exact ⟨f, c.set i q, 1, _, rfl, HIN2, HDF4, HU3, hJ11, HT9⟩
            case measure =>
              have e1 : (dstI s 1 (intOf ((w11.cell? ⟨ga, i, none⟩).getD undef)) t).toNat = (dstI s 1 (q) t).toNat := by
                rw [HT9.out.cur i (by rw [List.length_set]; exact HIC.out), HGC.out]; rfl
              exact e1 ▸ HMS.out ▸ HMT.out
end Go.Proofs.YtbhkenphcahifaaGreat
