import Derived.Test.YtbhkenphcahifaaGreatPD
import Derived.Test.YtbhkenphcahifaaGreatNX
import Derived.Test.YtbhkenphcahifaaGreatQNB
import Derived.Test.YtbhkenphcahifaaGreatQNA
import Derived.Test.YtbhkenphcahifaaGreatPH
import Derived.Test.YtbhkenphcahifaaGreatPC
namespace Go.Proofs.YtbhkenphcahifaaGreat
open Go.RowKit Go.Shelf
attribute [local go_sem] Oper.semAt_some
set_option maxRecDepth 100000
set_option maxHeartbeats 4000000

theorem Tryz.info158 : (Tryz.prog.info? 158).map (fun i => (i.zero, i.size, i.bytes)) = some (some (.pointer none), 1, 8) := by kernel_rfl
def ptrV (p : Nat) : Value := .pointer (some ⟨p, 0, none⟩)
/-- the queue, its array (v: the slice) and the trails in it, the marks of what was seen -/
structure SQ (n0 q : Nat) (L : List (Int × Nat)) (t : Nat) (v : Value) (ps : List Nat) (W : World) : Prop where
  qb : W.heap[q]? = some (.cells #[v, .int .i64 (t : Int)] 176 (0, 0))
  own : W.ownsRow n0 158 1 v L.length (ps.map ptrV)
  nn : v = .slice none 0 0 → L = []
  len : ps.length = L.length
  tr : ∀ i (h : i < L.length), ∃ bv, W.heap[ps.getD i 0]? = some (.cells #[.int .i64 L[i].1, .int .i64 (L[i].2 : Int), bv] 160 (0, 0)) ∧ n0 ≤ ps.getD i 0
  hq : n0 ≤ q
/-- the blocks beside these -/
def Ot (q b : Nat) (W : World) : Prop := (∃ ob, W.heap[b]? = some ob ∧ ob.isCells = true) ∧ b ≠ q ∧ ∀ v, W.cell? ⟨q, 0, none⟩ = some v → v.ownBlock ≠ some b
/-- what a step of the search keeps -/
structure Ko (n0 q : Nat) (W W' : World) : Prop where
  bl : Below n0 W W'
  ot : ∀ b, Ot q b W → W'.heap[b]? = W.heap[b]? ∧ Ot q b W'
  rc : ∀ (b : Nat) (o : Obj), W.heap[b]? = some o → o.isCells = false → W'.heap[b]? = some o
theorem Ko.trans {n0 q : Nat} {A B C : World} (h : Ko n0 q A B) (k : Ko n0 q B C) : Ko n0 q A C :=
  ⟨h.1.trans k.1, fun b hb => ⟨((k.2 b (h.2 b hb).2).1).trans (h.2 b hb).1, (k.2 b (h.2 b hb).2).2⟩, fun b o h1 h2 => k.3 b o (h.3 b o h1 h2) h2⟩
theorem SQ.lt {n0 q : Nat} {L : List (Int × Nat)} {t : Nat} {v : Value} {ps : List Nat} {W : World} (h : SQ n0 q L t v ps W) : q < W.heap.size := (Array.getElem?_eq_some_iff.1 h.qb).1
theorem SQ.c0 {n0 q : Nat} {L : List (Int × Nat)} {t : Nat} {v : Value} {ps : List Nat} {W : World} (h : SQ n0 q L t v ps W) : W.cell? ⟨q, 0, none⟩ = some v := cellR 0 h.qb rfl
theorem SQ.c1 {n0 q : Nat} {L : List (Int × Nat)} {t : Nat} {v : Value} {ps : List Nat} {W : World} (h : SQ n0 q L t v ps W) : W.cell? ⟨q, 1, none⟩ = some (.int .i64 (t : Int)) := cellR 1 h.qb rfl
/-- blocks of the search are kept apart by their types -/
theorem SQ.kept {n0 q : Nat} {L : List (Int × Nat)} {t : Nat} {v : Value} {ps : List Nat} {W W' : World} (h : SQ n0 q L t v ps W) (hk : ∀ b o, n0 ≤ b → W.heap[b]? = some o → o.isCells = true → W'.heap[b]? = some o) : SQ n0 q L t v ps W' where
  qb := hk _ _ h.hq h.qb rfl
  own := by
    refine ⟨h.own.1, ?_⟩
    rcases h.own.2 with e | ⟨g, cap, cur, e1, e2, e3, e4⟩
    · exact .inl e
    · exact .inr ⟨g, cap, cur, e1, e2, hk _ _ e2 e3 rfl, e4⟩
  nn := h.nn
  len := h.len
  tr := fun i hi => by
    obtain ⟨bv, h1, h2⟩ := h.tr i hi
    exact ⟨bv, hk _ _ h2 h1 rfl, h2⟩
  hq := h.hq
theorem SQ.below {n0 q : Nat} {L : List (Int × Nat)} {t : Nat} {v : Value} {ps : List Nat} {W W' : World} (h : SQ n0 q L t v ps W) (hb : Below W.heap.size W W') : SQ n0 q L t v ps W' := h.kept fun b o _ ho _ => heapB hb ho
theorem SQ.drew {n0 q : Nat} {L : List (Int × Nat)} {t : Nat} {v : Value} {ps : List Nat} {W : World} (h : SQ n0 q L t v ps W) (k : Nat) : SQ n0 q L t v ps (W.drewN k) := ⟨h.qb, h.own, h.nn, h.len, h.tr, h.hq⟩
theorem Ot.below {q b : Nat} {W W' : World} (h : Ot q b W) (hq : q < W.heap.size) (hb : Below W.heap.size W W') : Ot q b W' := by
  obtain ⟨⟨ob, h1, h2⟩, h3, h5⟩ := h
  exact ⟨⟨ob, heapB hb h1, h2⟩, h3, fun v hv => h5 v (by rw [← hv]; exact (hb.cell (p := ⟨q, 0, none⟩) hq).symm)⟩
theorem Ko.of_below {n0 q : Nat} {W W' : World} (hn : n0 ≤ W.heap.size) (hq : q < W.heap.size) (hb : Below W.heap.size W W') : Ko n0 q W W' :=
  ⟨hb.mono hn, fun b h => ⟨hb.block _ (Array.getElem?_eq_some_iff.1 h.1.choose_spec.1).1, h.below hq hb⟩, fun b o ho _ => heapB hb ho⟩
/-- a block that is not yet there, or no part of the search, becomes one beside it -/
theorem Ot.new {n0 q b : Nat} {L : List (Int × Nat)} {t : Nat} {v : Value} {ps : List Nat} {W W' : World} (h : SQ n0 q L t v ps W) (hb : Below W.heap.size W W') (hs : W.heap.size ≤ b) (ho : ∃ ob, W'.heap[b]? = some ob ∧ ob.isCells = true) : Ot q b W' := by
  refine ⟨ho, by have := h.lt; omega, fun u hu => ?_⟩
  rw [(h.below hb).c0] at hu
  cases hu
  intro e
  have := (h.own.lt b e).2
  omega
theorem SQ.cellT {n0 q : Nat} {L : List (Int × Nat)} {t : Nat} {v : Value} {ps : List Nat} {W : World} (h : SQ n0 q L t v ps W) {i : Nat} (hi : i < L.length) : W.cell? ⟨ps.getD i 0, 0, none⟩ = some (.int .i64 L[i].1) ∧ W.cell? ⟨ps.getD i 0, 1, none⟩ = some (.int .i64 (L[i].2 : Int)) := by
  obtain ⟨bv, h1, _⟩ := h.tr i hi
  exact ⟨cellR 0 h1 rfl, cellR 1 h1 rfl⟩
theorem SQ.put {n0 q : Nat} {L : List (Int × Nat)} {t : Nat} {v : Value} {ps : List Nat} {W : World} (h : SQ n0 q L t v ps W) (hl : L.length ≤ 100000) (hn : n0 ≤ W.heap.size) {p : Nat} {a : Int} {s : Nat} {bv : Value} (hp : W.heap[p]? = some (.cells #[.int .i64 a, .int .i64 (s : Int), bv] 160 (0, 0))) (hp0 : n0 ≤ p) :
    ∃ g cap wA, (Builtin.append_ #[174, 174] 174 #[v, .slice (some ⟨W.heap.size, 0, none⟩) 1 1]).run Tryz.prog (W.alloc (.cells #[ptrV p] 158)) = .ok (.slice (some ⟨g, 0, none⟩) (L.length + 1) cap) wA ∧
      wA.cell? ⟨q, 0, none⟩ = some v ∧ wA.frozen? ⟨q, 0, none⟩ = false ∧ q < wA.heap.size ∧
      SQ n0 q (L ++ [(a, s)]) t (.slice (some ⟨g, 0, none⟩) (L.length + 1) cap) (ps ++ [p]) (wA.setCell ⟨q, 0, none⟩ (.slice (some ⟨g, 0, none⟩) (L.length + 1) cap)) ∧ Ko n0 q W (wA.setCell ⟨q, 0, none⟩ (.slice (some ⟨g, 0, none⟩) (L.length + 1) cap)) := by
  obtain ⟨i0, hi, hz0, hz1, hz2⟩ := info_parts Tryz.info158
  obtain ⟨g, cap, wA, hr, hown, hgrow, hat, hlt⟩ := run_append_lies (P := Tryz.prog) (W.alloc (.cells #[ptrV p] 158)) 174 174 n0 158 i0 (.pointer none) 1 8 (by kernel_rfl) hi hz0 hz1 hz2 rfl (by decide) v L.length (ps.map ptrV) (h.own.alloc _) ⟨W.heap.size, 0, none⟩ 1 1 [ptrV p] (by simp)
    (World.news_of_block (cs := #[ptrV p]) (heap_alloc_new W (.cells #[ptrV p] 158))) (by intro u hu; simp at hu; subst hu; rfl) (by decide) (by unfold maxLen; omega) (by omega) (by simp; omega) _ rfl
  have hsz := hgrow.size
  simp at hsz
  have hnb : ∀ b o, W.heap[b]? = some o → v.ownBlock ≠ some b → wA.heap[b]? = some o := fun b o ho hne => by
    have hbl := (Array.getElem?_eq_some_iff.1 ho).1
    rw [hgrow.block b (by simp; omega) (fun e => hne e.symm), Below.heap_alloc _ _ _ hbl]; exact ho
  have hty : ∀ b cs T, W.heap[b]? = some (.cells cs T (0, 0)) → T ≠ 158 → v.ownBlock ≠ some b := fun b cs T ho hT e => by
    rcases h.own.2 with ⟨e1, _⟩ | ⟨g', cap', cur, e1, e2, e3, e4⟩
    · rw [e1] at e; cases e
    · rw [e1] at e
      obtain rfl : g' = b := by simpa [Value.ownBlock] using e
      rw [ho] at e3; cases e3; exact hT rfl
  have hqA := hnb q _ h.qb (hty q _ _ h.qb (by decide))
  have hgq : g ≠ q := by
    rintro rfl
    rcases hat with e | e
    · exact hty _ _ _ h.qb (by decide) e
    · have := h.lt; simp at e; omega
  have hset : ∀ b, b ≠ q → (wA.setCell ⟨q, 0, none⟩ (.slice (some ⟨g, 0, none⟩) (L.length + 1) cap)).heap[b]? = wA.heap[b]? := fun b hb => heap_setCell_other _ _ _ _ hb
  have hsq : (wA.setCell ⟨q, 0, none⟩ (.slice (some ⟨g, 0, none⟩) (L.length + 1) cap)).heap[q]? = some (.cells #[.slice (some ⟨g, 0, none⟩) (L.length + 1) cap, .int .i64 (t : Int)] 176 (0, 0)) := by
    rw [setCell_eq_setRow wA q 0 _ _ _ _ hqA, setRow_heap wA q _ _ _ _ hqA]; rfl
  have hbel : Below n0 W (wA.setCell ⟨q, 0, none⟩ (.slice (some ⟨g, 0, none⟩) (L.length + 1) cap)) := by
    refine (((Below.refl n0 W).alloc hn _).trans ⟨hgrow.os, hgrow.tape, hgrow.output, by simpa using hgrow.size, fun k hk => hgrow.block k (by simp; omega) (fun e => by have := (h.own.lt k e.symm).1; omega)⟩).setCell (p := ⟨q, 0, none⟩) h.hq _
  have hpq : p ≠ q := by rintro rfl; have e := h.qb; rw [hp] at e; cases e
  refine ⟨g, cap, wA, hr, cellR 0 hqA rfl, frozen_of_row wA q 0 _ _ hqA, (Array.getElem?_eq_some_iff.1 hqA).1, ⟨hsq, ?_, (fun e => by cases e), by simp [h.len], fun i hi => ?_, h.hq⟩, hbel, ?_, ?_⟩
  · have := ownsRow_setCell_other hown (a := ⟨q, 0, none⟩) (by simpa [Value.ownBlock] using hgq) (.slice (some ⟨g, 0, none⟩) (L.length + 1) cap)
    simpa using this
  · by_cases hil : i < L.length
    · obtain ⟨bv', t1, t2⟩ := h.tr i hil
      have e1 : (ps ++ [p]).getD i 0 = ps.getD i 0 := by simp [List.getD, List.getElem?_append_left (show i < ps.length by rw [h.len]; exact hil)]
      have hne : ps.getD i 0 ≠ q := by intro e; rw [e] at t1; have e2 := h.qb; rw [t1] at e2; cases e2
      refine ⟨bv', ?_, by rw [e1]; exact t2⟩
      rw [e1, hset _ hne, hnb _ _ t1 (hty _ _ _ t1 (by decide)), List.getElem_append_left hil]
    · have hie : i = L.length := by simp at hi; omega
      subst hie
      have e1 : (ps ++ [p]).getD L.length 0 = p := by rw [← h.len]; simp [List.getD]
      refine ⟨bv, ?_, by rw [e1]; exact hp0⟩
      rw [e1, hset _ hpq, hnb _ _ hp (hty _ _ _ hp (by decide))]
      simp
  · rintro b ⟨⟨ob, m1, m2⟩, m3, m5⟩
    have hbl := (Array.getElem?_eq_some_iff.1 m1).1
    have hne := m5 v h.c0
    have e1 : (wA.setCell ⟨q, 0, none⟩ (.slice (some ⟨g, 0, none⟩) (L.length + 1) cap)).heap[b]? = W.heap[b]? := by rw [hset b m3, hnb b ob m1 hne, m1]
    refine ⟨e1, ⟨ob, e1.trans m1, m2⟩, m3, fun u hu => ?_⟩
    rw [cellR 0 hsq rfl] at hu
    cases hu
    intro e
    obtain rfl : g = b := by simpa [Value.ownBlock] using e
    rcases hat with e | e
    · exact hne e
    · simp at e; omega
  · intro b o ho hc
    have h1 : b ≠ q := by rintro rfl; rw [h.qb] at ho; cases ho; cases hc
    rw [hset b h1]
    refine hnb b o ho fun e => ?_
    rcases h.own.2 with ⟨e1, _⟩ | ⟨g', cap', cur, e1, e2, e3, e4⟩
    · rw [e1] at e; cases e
    · rw [e1] at e
      obtain rfl : g' = b := by simpa [Value.ownBlock] using e
      rw [ho] at e3; cases e3; cases hc
theorem put_any {n0 q : Nat} {L : List (Int × Nat)} {t : Nat} {v : Value} {ps : List Nat} {w : World} (h : SQ n0 q L t v ps w) (hl : L.length ≤ 100000) (hn : n0 ≤ w.heap.size) {p : Nat} {a : Int} {s : Nat} {bv : Value} (hp : w.heap[p]? = some (.cells #[.int .i64 a, .int .i64 (s : Int), bv] 160 (0, 0))) (hp0 : n0 ≤ p) :
    Calls Tryz.prog 121 #[ptrV q, ptrV p] w fun e w' => e = .returned (.tuple #[]) ∧ ∃ v', SQ n0 q (L ++ [(a, s)]) t v' (ps ++ [p]) w' ∧ Ko n0 q w w' := by
  obtain ⟨g, cap, wA, hrun, cA, fA, lA, hS, hK⟩ := h.put hl hn hp hp0
  have HR : Hid (SQ n0 q (L ++ [(a, s)]) t (.slice (some ⟨g, 0, none⟩) (L.length + 1) cap) (ps ++ [p]) (wA.setCell ⟨q, 0, none⟩ (.slice (some ⟨g, 0, none⟩) (L.length + 1) cap)) ∧ Ko n0 q w (wA.setCell ⟨q, 0, none⟩ (.slice (some ⟨g, 0, none⟩) (L.length + 1) cap))) := ⟨hS, hK⟩
  have c0 := h.c0
  clear h hS hK hp hl hp0 hn
  have HRUN := Lib.hid hrun
  clear hrun
  generalize (L.length + 1) = N1 at *
  unfold ptrV at *
  go_enter Tryz.func121, Tryz.ntmps121
  go_wp2_with (at_builtin; refine Lib.wpList_append_run _ rfl (.tmp 8) (.tmp 10) 174 174 rfl _ _ rfl rfl _ _ HRUN.out ?_)
  go_end0
  exact ⟨rfl, _, HR.out.1, HR.out.2⟩
theorem empty_any {n0 q : Nat} {L : List (Int × Nat)} {t : Nat} {v : Value} {ps : List Nat} {w : World} (h : SQ n0 q L t v ps w) :
    Calls Tryz.prog 122 #[ptrV q] w fun e w' => e = .returned (.bool (((t : Int) == (L.length : Int)))) ∧ Below w.heap.size w w' := by
  have c0 := h.c0
  have c1 := h.c1
  obtain ⟨x, cap, rfl⟩ : ∃ x cap, v = .slice x L.length cap := by
    rcases h.own.2 with ⟨e1, e2⟩ | ⟨g', cap', cur, e1, _⟩
    · exact ⟨none, 0, by rw [e1, e2]⟩
    · exact ⟨_, _, e1⟩
  clear h
  generalize (L.length) = N1 at *
  unfold ptrV
  go_enter Tryz.func122, Tryz.ntmps122
  go_wp2_with fail
  go_quiet (fail)
  go_wp2_with fail
  go_ret
  exact ⟨rfl, below_drewN (Below.refl _ _) _⟩
theorem SQ.took {n0 q : Nat} {L : List (Int × Nat)} {t : Nat} {v : Value} {ps : List Nat} {w : World} (h : SQ n0 q L t v ps w) :
    SQ n0 q L (t + 1) v ps (w.setCell ⟨q, 1, none⟩ (.int .i64 ((t + 1 : Nat) : Int))) ∧ Ko n0 q w (w.setCell ⟨q, 1, none⟩ (.int .i64 ((t + 1 : Nat) : Int))) := by
  have hset : (w.setCell ⟨q, 1, none⟩ (.int .i64 ((t + 1 : Nat) : Int))).heap[q]? = some (.cells #[v, .int .i64 ((t + 1 : Nat) : Int)] 176 (0, 0)) := by
    rw [setCell_eq_setRow w q 1 _ _ _ _ h.qb, setRow_heap w q _ _ _ _ h.qb]; rfl
  have hso : ∀ b, b ≠ q → (w.setCell ⟨q, 1, none⟩ (.int .i64 ((t + 1 : Nat) : Int))).heap[b]? = w.heap[b]? := fun b hb => heap_setCell_other _ _ _ _ hb
  have hne : ∀ b cs T, w.heap[b]? = some (.cells cs T (0, 0)) → T ≠ 176 → b ≠ q := fun b cs T ho hT e => by
    subst e; rw [h.qb] at ho; simp at ho; exact hT ho.2.symm
  refine ⟨⟨hset, ?_, h.nn, h.len, fun i hi => ?_, h.hq⟩, (Below.refl n0 w).setCell (p := ⟨q, 1, none⟩) h.hq _, ?_, fun b o ho hc => (hso b (by rintro rfl; rw [h.qb] at ho; cases ho; cases hc)).trans ho⟩
  · refine ownsRow_setCell_other h.own ?_ _
    intro e
    rcases h.own.2 with ⟨e1, _⟩ | ⟨g', cap', cur, e1, e2, e3, _⟩
    · rw [e1] at e; cases e
    · rw [e1] at e
      obtain rfl : g' = q := by simpa [Value.ownBlock] using e
      rw [h.qb] at e3; simp at e3
  · obtain ⟨bv, t1, t2⟩ := h.tr i hi
    exact ⟨bv, (hso _ (hne _ _ _ t1 (by decide))).trans t1, t2⟩
  · rintro b ⟨⟨ob, m1, m2⟩, m3, m5⟩
    refine ⟨hso b m3, ⟨ob, (hso b m3).trans m1, m2⟩, m3, fun u hu => ?_⟩
    rw [cellR 0 hset rfl] at hu
    cases hu
    exact m5 _ h.c0
theorem take_any {n0 q : Nat} {L : List (Int × Nat)} {t : Nat} {v : Value} {ps : List Nat} {w : World} (h : SQ n0 q L t v ps w) (ht : t < L.length) (hl : L.length ≤ 100000) (hn : n0 ≤ w.heap.size) :
    Calls Tryz.prog 123 #[ptrV q] w fun e w' => e = .returned (ptrV (ps.getD t 0)) ∧ SQ n0 q L (t + 1) v ps w' ∧ Ko n0 q w w' := by
  have c0 := h.c0
  have c1 := h.c1
  have f1 : w.frozen? ⟨q, 1, none⟩ = false := frozen_of_row w q 1 _ _ h.qb
  have l1 := h.lt
  have hpl : t < ps.length := by rw [h.len]; exact ht
  obtain ⟨p0, hp0⟩ : ∃ p0, p0 = ps.getD t 0 := ⟨_, rfl⟩
  rw [← hp0]
  obtain ⟨g, cap, rfl, hcg⟩ : ∃ g cap, v = .slice (some ⟨g, 0, none⟩) L.length cap ∧ w.cell? ⟨g, t, none⟩ = some (ptrV p0) := by
    rcases h.own.2 with ⟨e1, e2⟩ | ⟨g', cap', cur, e1, _⟩
    · omega
    · refine ⟨_, _, e1, ?_⟩
      have h1 := h.own
      rw [e1] at h1
      exact own_cell h1 (show (Value.slice (some ⟨g', 0, none⟩) L.length cap').ownBlock = some g' from rfl) t (ptrV p0) (by rw [hp0]; simp [List.getD, hpl])
  have HR : Hid (∀ k, SQ n0 q L (t + 1) (.slice (some ⟨g, 0, none⟩) L.length cap) ps ((w.drewN k).setCell ⟨q, 1, none⟩ (.int .i64 ((t : Int) + 1))) ∧ Ko n0 q w ((w.drewN k).setCell ⟨q, 1, none⟩ (.int .i64 ((t : Int) + 1)))) := fun k => by
    obtain ⟨a, b⟩ := (h.drew k).took
    rw [Int.natCast_add] at a b
    exact ⟨a, (Ko.of_below hn h.lt (below_drewN (Below.refl _ _) k)).trans b⟩
  clear h hpl hn hp0
  generalize (L.length) = N1 at *
  unfold ptrV at *
  go_enter Tryz.func123, Tryz.ntmps123
  go_wp2_with fail
  go_quiet (fail)
  have HR2 := Lib.hid (HR.out nq)
  have c1' : (w.drewN nq).cell? ⟨q, 1, none⟩ = some (.int .i64 (t : Int)) := c1
  have f1' : (w.drewN nq).frozen? ⟨q, 1, none⟩ = false := f1
  have l1' : q < (w.drewN nq).heap.size := l1
  clear HR c0 c1 f1 l1 hcg
  generalize w.drewN nq = X at *
  go_wp2_with fail
  go_ret
  exact ⟨rfl, HR2.out.1, HR2.out.2⟩
end Go.Proofs.YtbhkenphcahifaaGreat

namespace Go.Proofs.YtbhkenphcahifaaGreat
open Go.RowKit Go.Shelf
attribute [local go_sem] Oper.semAt_some
set_option maxRecDepth 100000
set_option maxHeartbeats 4000000

/-- what is marked as seen -/
def seenL (N : Nat) (L : List (Int × Nat)) : List Bool := (List.range N).map fun (x : Nat) => decide ((x : Int) ∈ L.map (·.1))
theorem seen_len (N : Nat) (L : List (Int × Nat)) : (seenL N L).length = N := by simp [seenL]
theorem seen_at {N : Nat} {L : List (Int × Nat)} {x : Nat} (hx : x < N) : (seenL N L).getD x true = decide ((x : Int) ∈ L.map (·.1)) := by
  unfold seenL; simp [List.getD, hx]
theorem seen_nil (N : Nat) : seenL N [] = List.replicate N false := by
  refine List.ext_getElem (by simp [seenL]) fun j h1 h2 => ?_
  simp [seenL]
theorem seen_set {N : Nat} {L : List (Int × Nat)} (x s : Nat) : (seenL N L).set x true = seenL N (L ++ [((x : Int), s)]) := by
  refine List.ext_getElem (by simp [seenL]) fun j h1 h2 => ?_
  rw [List.getElem_set]
  by_cases h : x = j
  · subst h; simp [seenL]
  · rw [if_neg h]
    simp only [seenL, List.getElem_map, List.getElem_range, List.map_append, List.mem_append, List.map_cons, List.map_nil, List.mem_singleton]
    congr 1
    refine propext ⟨.inl, ?_⟩
    rintro (h1 | h1)
    · exact h1
    · omega
theorem SQ.mark {n0 q sb : Nat} {S : List Bool} {L : List (Int × Nat)} {t : Nat} {v : Value} {ps : List Nat} {W : World} (h : SQ n0 q L t v ps W) (hsn : BAt W sb S) (x : Nat) : SQ n0 q L t v ps (W.setCell ⟨sb, x, none⟩ (.bool true)) ∧ ∀ b, b ≠ sb → Ot q b W → Ot q b (W.setCell ⟨sb, x, none⟩ (.bool true)) := by
  have hso : ∀ b, b ≠ sb → (W.setCell ⟨sb, x, none⟩ (.bool true)).heap[b]? = W.heap[b]? := fun b hb => heap_setCell_other _ _ _ _ hb
  unfold BAt at hsn
  have hne : ∀ b cs T, W.heap[b]? = some (.cells cs T (0, 0)) → T ≠ 4 → b ≠ sb := fun b cs T ho hT e => by
    subst e; rw [hsn] at ho; simp at ho; exact hT ho.2.symm
  have hqs := hne q _ _ h.qb (by decide)
  refine ⟨⟨(hso q hqs).trans h.qb, ?_, h.nn, h.len, fun i hi => ?_, h.hq⟩, ?_⟩
  · refine ownsRow_setCell_other h.own ?_ _
    intro e
    rcases h.own.2 with ⟨e1, _⟩ | ⟨g', cap', cur, e1, e2, e3, _⟩
    · rw [e1] at e; cases e
    · rw [e1] at e
      obtain rfl : g' = sb := by simpa [Value.ownBlock] using e
      rw [hsn] at e3; simp at e3
  · obtain ⟨bv, t1, t2⟩ := h.tr i hi
    exact ⟨bv, (hso _ (hne _ _ _ t1 (by decide))).trans t1, t2⟩
  · rintro b hbs ⟨⟨ob, m1, m2⟩, m3, m5⟩
    refine ⟨⟨ob, (hso b hbs).trans m1, m2⟩, m3, fun u hu => m5 u ?_⟩
    rw [← hu]
    exact (World.cell?_of_block (w := W) (hso q hqs)).symm
/-- what a search keeps in memory: the queue, the marks of what was seen, and what it has captured -/
structure St (n0 q sb lo : Nat) (w : World) (cs : List (Nat × Obj)) (S : List Bool) (L : List (Int × Nat)) (t : Nat) (v : Value) (ps : List Nat) (W : World) : Prop where
  sq : SQ n0 q L t v ps W
  sn : BAt W sb S
  hs : n0 ≤ sb
  os : Ot q sb W
  ks : ∀ p ∈ cs, W.heap[p.1]? = some p.2 ∧ p.2.isCells = true ∧ Ot q p.1 W ∧ p.1 ≠ sb
  bl : Below lo w W
  nz : n0 ≤ W.heap.size
section
variable {n0 q sb lo : Nat} {w : World} {cs : List (Nat × Obj)} {S : List Bool} {L : List (Int × Nat)} {t : Nat} {v : Value} {ps : List Nat} {W W' : World}
theorem St.below (h : St n0 q sb lo w cs S L t v ps W) (hlo : lo ≤ n0) (hb : Below W.heap.size W W') : St n0 q sb lo w cs S L t v ps W' :=
  ⟨h.sq.below hb, heapB hb h.sn, h.hs, h.os.below h.sq.lt hb, fun p hp => ⟨heapB hb (h.ks p hp).1, (h.ks p hp).2.1, (h.ks p hp).2.2.1.below h.sq.lt hb, (h.ks p hp).2.2.2⟩, h.bl.trans (hb.mono (Nat.le_trans hlo h.nz)), Nat.le_trans h.nz hb.size⟩
theorem St.ko (h : St n0 q sb lo w cs S L t v ps W) (hlo : lo ≤ n0) {L' : List (Int × Nat)} {t' : Nat} {v' : Value} {ps' : List Nat} (hq : SQ n0 q L' t' v' ps' W') (k : Ko n0 q W W') : St n0 q sb lo w cs S L' t' v' ps' W' :=
  ⟨hq, ((k.ot _ h.os).1).trans h.sn, h.hs, (k.ot _ h.os).2, fun p hp => ⟨((k.ot _ (h.ks p hp).2.2.1).1).trans (h.ks p hp).1, (h.ks p hp).2.1, (k.ot _ (h.ks p hp).2.2.1).2, (h.ks p hp).2.2.2⟩, h.bl.trans (k.bl.mono hlo), Nat.le_trans h.nz k.bl.size⟩
theorem St.mark (h : St n0 q sb lo w cs S L t v ps W) (hlo : lo ≤ n0) (x : Nat) : St n0 q sb lo w cs (S.set x true) L t v ps (W.setCell ⟨sb, x, none⟩ (.bool true)) := by
  obtain ⟨h1, h2⟩ := h.sq.mark h.sn x
  have hso : ∀ b, b ≠ sb → (W.setCell ⟨sb, x, none⟩ (.bool true)).heap[b]? = W.heap[b]? := fun b hb => heap_setCell_other _ _ _ _ hb
  refine ⟨h1, h.sn.set x true, h.hs, ?_, fun p hp => ?_, h.bl.setCell (p := ⟨sb, x, none⟩) (Nat.le_trans hlo h.hs) _, by simpa using h.nz⟩
  · obtain ⟨⟨ob, m1, m2⟩, m3, m5⟩ := h.os
    refine ⟨⟨_, h.sn.set x true, rfl⟩, m3, fun u hu => m5 u ?_⟩
    rw [← hu]
    exact (World.cell?_of_block (w := W) (hso q m3.symm)).symm
  · obtain ⟨a1, a2, a3, a4⟩ := h.ks p hp
    exact ⟨(hso _ a4).trans a1, a2, h2 _ a4 a3, a4⟩
theorem St.kept (h : St n0 q sb lo w cs S L t v ps W) (hk : ∀ b o, b ∈ cs.map (·.1) ∨ n0 ≤ b → W.heap[b]? = some o → o.isCells = true → W'.heap[b]? = some o) (hb : Below lo w W') (hz : W.heap.size ≤ W'.heap.size) : St n0 q sb lo w cs S L t v ps W' := by
  have hq : SQ n0 q L t v ps W' := h.sq.kept fun b o hn ho hc => hk b o (.inr hn) ho hc
  have hqe : ∀ u, W'.cell? ⟨q, 0, none⟩ = some u → W.cell? ⟨q, 0, none⟩ = some u := fun u hu => by rw [hq.c0] at hu; rw [← hu]; exact h.sq.c0
  refine ⟨hq, hk _ _ (.inr h.hs) h.sn rfl, h.hs, ?_, fun p hp => ?_, hb, Nat.le_trans h.nz hz⟩
  · obtain ⟨⟨ob, m1, m2⟩, m3, m5⟩ := h.os
    exact ⟨⟨ob, hk _ _ (.inr h.hs) m1 m2, m2⟩, m3, fun u hu => m5 u (hqe u hu)⟩
  · obtain ⟨a1, a2, ⟨⟨ob, m1, m2⟩, m3, m5⟩, a4⟩ := h.ks p hp
    have hm : p.1 ∈ cs.map (·.1) := List.mem_map.2 ⟨p, hp, rfl⟩
    exact ⟨hk _ _ (.inl hm) a1 a2, a2, ⟨⟨ob, hk _ _ (.inl hm) m1 m2, m2⟩, m3, fun u hu => m5 u (hqe u hu)⟩, a4⟩
theorem St.putObj (h : St n0 q sb lo w cs S L t v ps W) (hlo : lo ≤ n0) {b : Nat} {o : Obj} (o' : Obj) (hb : n0 ≤ b) (ho : W.heap[b]? = some o) (hc : o.isCells = false) : St n0 q sb lo w cs S L t v ps (W.putObj b o') :=
  h.kept (fun c o2 _ h2 h3 => (World.putObj_heap_other (by rintro rfl; rw [ho] at h2; cases h2; rw [hc] at h3; cases h3)).trans h2) (h.bl.trans ⟨rfl, rfl, rfl, by simp [World.putObj], fun k hk => World.putObj_heap_other (by omega)⟩) (by simp [World.putObj])
theorem St.add (h : St n0 q sb lo w cs S L t v ps W) (hlo : lo ≤ n0) (hb : Below W.heap.size W W') {b : Nat} {o : Obj} (hs : W.heap.size ≤ b) (ho : W'.heap[b]? = some o) (hc : o.isCells = true) : St n0 q sb lo w ((b, o) :: cs) S L t v ps W' := by
  have g := h.below hlo hb
  refine ⟨g.sq, g.sn, g.hs, g.os, fun p hp => ?_, g.bl, g.nz⟩
  rcases List.mem_cons.1 hp with rfl | hp
  · exact ⟨ho, hc, Ot.new h.sq hb hs ⟨o, ho, hc⟩, by have := h.sn.lt; show b ≠ sb; omega⟩
  · exact g.ks p hp
theorem St.drop {p : Nat × Obj} (h : St n0 q sb lo w (p :: cs) S L t v ps W) : St n0 q sb lo w cs S L t v ps W := ⟨h.sq, h.sn, h.hs, h.os, fun x hx => h.ks x (List.mem_cons_of_mem _ hx), h.bl, h.nz⟩
theorem St.has (h : St n0 q sb lo w cs S L t v ps W) : Has cs W := fun p hp => (h.ks p hp).1
end
/-- what a round of a search's consumer keeps: all but one block -/
def Kt (lo ob : Nat) (W W' : World) : Prop := Below lo W W' ∧ ∀ b o, b ≠ ob → W.heap[b]? = some o → o.isCells = true → W'.heap[b]? = some o
/-- a search that yields all places that can be reached, with their distances -/
def SeqT (n gf : Nat) (lb : Array Value) (nb : Int → List Int) (N : Nat) (y : Int) (lo ob : Nat) (w : World) : Prop :=
  ∀ (l : Nat) (J : List (Int × Nat) → World → Prop) (W : World), Below w.heap.size w W → (∀ pre V V2, J pre V → Below W.heap.size V V2 → J pre V2) →
    (∀ pre x p bv W1, J pre W1 → 0 ≤ x.1 → x.1 < (N : Int) → x.2 < N → x.1 ∉ pre.map (·.1) → W1.heap[p]? = some (.cells #[.int .i64 x.1, .int .i64 (x.2 : Int), bv] 160 (0, 0)) → p ≠ ob → YieldAt Fence.wide (n - 1) Tryz.prog l #[ptrV p] W1 fun e W' => e = .returned (.bool true) ∧ J (pre ++ [x]) W' ∧ Kt lo ob W1 W' ∧ KeepsFrom W.heap.size W1 W') →
    J [] W → CallsIn Fence.wide n Tryz.prog gf (#[.func (.yield l) #[] #[]] ++ lb) W fun e W' => (∃ v, e = .returned v) ∧ ∃ L, BInv nb N y L L.length ∧ J L W'
def fnV (rcv : Value) (ty : Nat) : Value := .func (.method "armada/net.neighbors") #[.iface ty rcv] #[]

section
variable {n l : Nat} {P : Program} {ops : Array Oper} {Q : Exit → Act → World → Prop}
theorem semR {o : Oper} {ρ : Operand → Value} (hd : ∀ c, o.op ≠ .defer c) : o.semAt (some l) ρ = o.semAt none ρ := by
  rw [Oper.semAt_some _ _ _ hd]; exact (Oper.semAt_plain Fence.wide ρ o hd).symm
/-- operations of a region that draws, inside a round -/
theorem wpOpR_plain {i : Nat} {o : Oper} {K : Act → World → Prop} {a : Act} {w w' : World} {v : Value} (ho : ops[i]? = some o) (hgd : o.guard = none) (hd : ∀ c, o.op ≠ .defer c)
    (h : (o.semAt none a.eval).run P w = .ok (.value v) w') (hk : K (a.put o.dst v) w') : wpOpIn (Fence.wide.inRound l) n P ops Q i K a w := by
  refine wpOpIn_step ho (fun K' hK => ?_)
  rw [if_pos (by simp [Region.wanted, hgd])]
  refine wpInF_plain (fun _ _ => trivial) ?_ (hK _ _ hk)
  rw [Fence.inRound_round, semR hd]; exact h
theorem wpOpR_guard {i j : Nat} {want : Bool} {o : Oper} {K : Act → World → Prop} {a : Act} {w w' : World} {v : Value} (ho : ops[i]? = some o) (hgd : o.guard = some (j, want)) (hy : yielded ops a.tmps j = some want) (hd : ∀ c, o.op ≠ .defer c)
    (h : (o.semAt none a.eval).run P w = .ok (.value v) w') (hk : K (a.put o.dst v) w') : wpOpIn (Fence.wide.inRound l) n P ops Q i K a w := by
  refine wpOpIn_step ho (fun K' hK => ?_)
  rw [if_pos (by simp [Region.wanted, hgd, hy])]
  refine wpInF_plain (fun _ _ => trivial) ?_ (hK _ _ hk)
  rw [Fence.inRound_round, semR hd]; exact h
theorem wpOpR_off {i j : Nat} {want : Bool} {o : Oper} {K : Act → World → Prop} {a : Act} {w : World} (ho : ops[i]? = some o) (hgd : o.guard = some (j, want)) (hy : yielded ops a.tmps j = some (!want))
    (hk : K (a.put o.dst undef) w) : wpOpIn (Fence.wide.inRound l) n P ops Q i K a w := by
  refine wpOpIn_step ho (fun K' hK => ?_)
  rw [if_neg (by cases want <;> simp [Region.wanted, hgd, hy])]
  exact ⟨fun f _ => trivial, hK _ _ hk⟩
theorem wpInR_call {o : Oper} {a : Act} {w : World} {f : FuncId} {args : Array Value} {R : Ending → World → Prop} {K : Act → World → Prop} (hd : ∀ c, o.op ≠ .defer c)
    (h : (o.semAt none a.eval).run P w = .ok (.enter f args) w) (hc : Calls P f args w R) (hk : ∀ e w', R e w' → ∃ v, e = .returned v ∧ K (a.put o.dst v) w') : Oper.wpIn (Fence.wide.inRound l) n P o a w K Q := by
  refine ⟨fun f _ => trivial, ?_⟩
  rw [Fence.inRound_round, semR hd, h, Oper.uponIn_enter]
  refine ⟨(fun hd => by cases hd), CallsIn.inRound l (callsIn_wide.2 (hc.mono ?_))⟩
  intro e w' hr
  obtain ⟨v, rfl, hv⟩ := hk e w' hr
  exact hv
theorem wpOpR_call {i : Nat} {o : Oper} {K : Act → World → Prop} {a : Act} {w : World} {f : FuncId} {args : Array Value} {R : Ending → World → Prop} (ho : ops[i]? = some o) (hgd : o.guard = none) (hd : ∀ c, o.op ≠ .defer c)
    (h : (o.semAt none a.eval).run P w = .ok (.enter f args) w) (hc : Calls P f args w R) (hk : ∀ e w', R e w' → ∃ v, e = .returned v ∧ K (a.put o.dst v) w') : wpOpIn (Fence.wide.inRound l) n P ops Q i K a w := by
  refine wpOpIn_step ho (fun K' hK => ?_)
  rw [if_pos (by simp [Region.wanted, hgd])]
  refine wpInR_call hd h hc fun e w' hr => ?_
  obtain ⟨v, e1, hv⟩ := hk e w' hr
  exact ⟨v, e1, hK _ _ hv⟩
theorem wpOpR_callg {i j : Nat} {want : Bool} {o : Oper} {K : Act → World → Prop} {a : Act} {w : World} {f : FuncId} {args : Array Value} {R : Ending → World → Prop} (ho : ops[i]? = some o) (hgd : o.guard = some (j, want)) (hy : yielded ops a.tmps j = some want) (hd : ∀ c, o.op ≠ .defer c)
    (h : (o.semAt none a.eval).run P w = .ok (.enter f args) w) (hc : Calls P f args w R) (hk : ∀ e w', R e w' → ∃ v, e = .returned v ∧ K (a.put o.dst v) w') : wpOpIn (Fence.wide.inRound l) n P ops Q i K a w := by
  refine wpOpIn_step ho (fun K' hK => ?_)
  rw [if_pos (by simp [Region.wanted, hgd, hy])]
  refine wpInR_call hd h hc fun e w' hr => ?_
  obtain ⟨v, e1, hv⟩ := hk e w' hr
  exact ⟨v, e1, hK _ _ hv⟩
end
theorem sem_callV {P : Program} {o : Oper} {a : Act} {w : World} {g : FuncId} {c x y : Operand} {ts : Array TypeId} {vx vy : Value} (hop : o.op = .call { callee := .value c, args := #[x, y], argTypes := ts }) (hc : a.eval c = .func (.func g) #[] #[]) (hx : a.eval x = vx) (hy : a.eval y = vy)
    (eg : ∀ args w, (callFunc g args).run P w = .ok (.enter g args) w) : (o.semAt none a.eval).run P w = .ok (.enter g #[vx, vy]) w := by
  simp [Oper.semAt, hop, execOp, resolve, invoke, Deferred.ofValue, hc, hx, hy, eg]
theorem anyStep_any (a b : Int) (w : World) : Calls Tryz.prog 57 #[.int .i64 a, .int .i64 b] w fun e w' => e = .returned (.bool true) ∧ w = w' := by
  go_enter Tryz.func57, Tryz.ntmps57
  go_wp2_with fail
  go_ret
  exact ⟨rfl, rfl⟩
theorem Ot.keep {q b : Nat} {W W' : World} (h : Ot q b W) (hq : W'.heap[q]? = W.heap[q]?) (hb : W'.heap[b]? = W.heap[b]?) : Ot q b W' := by
  obtain ⟨⟨ob, h1, h2⟩, h3, h5⟩ := h
  exact ⟨⟨ob, hb.trans h1, h2⟩, h3, fun v hv => h5 v (by rw [← hv]; exact (World.cell?_of_block hq).symm)⟩
/-- a call of a value that is a method -/
theorem sem_callM {o : Oper} {a : Act} {w : World} {g x : Operand} {ts : Array TypeId} {vx rcv : Value} {ty fn : Nat} (hop : o.op = .call { callee := .value g, args := #[x], argTypes := ts }) (hg : a.eval g = fnV rcv ty) (hx : a.eval x = vx) (hm : (method 330 ty rcv "armada/net.neighbors").run Tryz.prog w = .ok (fn, rcv) w) (he : ∀ args W, (callFunc fn args).run Tryz.prog W = .ok (.enter fn args) W) : (o.semAt none a.eval).run Tryz.prog w = .ok (.enter fn #[rcv, vx]) w := by
  simp [Oper.semAt, hop, execOp, resolve, invoke, Deferred.ofValue, hg, fnV, hx]
  simp [callMethod, go_sem, hm, he]
/-- how many were taken -/
def cellN (W : World) (q : Nat) : Nat := match W.cell? ⟨q, 1, none⟩ with
  | some (.int _ n) => n.toNat
  | _ => 0
theorem cellN_at {n0 q : Nat} {L : List (Int × Nat)} {t : Nat} {v : Value} {ps : List Nat} {W : World} (h : SQ n0 q L t v ps W) : cellN W q = t := by
  unfold cellN
  rw [h.c1]
  simp
theorem searchIter (Bs Bc Bn Ba : Nat) (rcv : Value) (ty fn N y : Nat) (NB : Int → List Int) (lo ob : Nat) {w : World} (hlo : lo ≤ w.heap.size) (hN : N ≤ 1000) (hob : ob < w.heap.size) (hy : y < N)
    (hmn : ∀ W, (method 330 ty rcv "armada/net.neighbors").run Tryz.prog W = .ok (fn, rcv) W) (hen : ∀ args W, (callFunc fn args).run Tryz.prog W = .ok (.enter fn args) W)
    (hnb : ∀ (x : Nat), x < N → ∀ W, Below lo w W → VMake fn #[rcv, .int .i64 (x : Int)] (NB (x : Int)) W.heap.size W) (hin : ∀ (x : Nat), x < N → ∀ z ∈ NB (x : Int), 0 ≤ z ∧ z < (N : Int))
    (q0 : w.heap[Bs]? = some (.cells #[.int .i64 (y : Int)] 3 (0, 0))) (q1 : w.heap[Bc]? = some (.cells #[.int .i64 (N : Int)] 3 (0, 0))) (q2 : w.heap[Bn]? = some (.cells #[fnV rcv ty] 110 (0, 0))) (q3 : w.heap[Ba]? = some (.cells #[.func (.func 57) #[] #[]] 113 (0, 0)))
    (n0 : Bs ≠ ob) (n1 : Bc ≠ ob) (n2 : Bn ≠ ob) (n3 : Ba ≠ ob) (n : Nat) :
    SeqT n 120 #[.pointer (some ⟨Bs, 0, none⟩), .pointer (some ⟨Bc, 0, none⟩), .pointer (some ⟨Bn, 0, none⟩), .pointer (some ⟨Ba, 0, none⟩)] NB N (y : Int) lo ob w := by
  intro ll J W hW hG hY h0
  have HNB := Lib.hid hnb
  have HIN := Lib.hid hin
  have HLO : Hid (lo ≤ W.heap.size) := Nat.le_trans hlo hW.size
  have HOB : Hid (ob < W.heap.size) := Nat.lt_of_lt_of_le hob hW.size
  have HG := Lib.hid hG
  have HY := Lib.hid hY
  have HJ := Lib.hid h0
  have HW : Hid (Below lo w W) := hW.mono hlo
  have HNE := Lib.hid (And.intro n0 (And.intro n1 (And.intro n2 n3)))
  have HC : Hid (Has [(Bs, .cells #[.int .i64 (y : Int)] 3 (0, 0)), (Bc, .cells #[.int .i64 (N : Int)] 3 (0, 0)), (Bn, .cells #[fnV rcv ty] 110 (0, 0)), (Ba, .cells #[.func (.func 57) #[] #[]] 113 (0, 0))] W) := by
    intro p hp
    simp only [List.mem_cons, List.not_mem_nil, or_false] at hp
    rcases hp with rfl | rfl | rfl | rfl
    · exact heapB hW q0
    · exact heapB hW q1
    · exact heapB hW q2
    · exact heapB hW q3
  have HHY := Lib.hid hy
  have HHN := Lib.hid hN
  clear hnb hin hlo hob hG hY h0 hW q0 q1 q2 q3 n0 n1 n2 n3 hy hN
  refine callsIn_wide.2 ((callsIn_wide (n := 4)).1 ?_)
  refine callsIn_of_wp_marks Tryz.func120 rfl trivial ?_ rfl
  simp only [Tryz.ntmps120, List.size_toArray, List.length_cons, List.length_nil, Nat.reduceAdd, Nat.reduceSub, Array.replicate_succ, Array.replicate_zero, List.push_toArray, List.append_toArray, List.nil_append, List.cons_append]
  have hb1 : Below W.heap.size W (W.alloc (.cells #[.slice none 0 0, .int .i64 0] 176)) := (Below.refl _ _).alloc (Nat.le_refl _) _
  have HB1 := Lib.hid hb1
  have HC1 := Lib.hid (HC.out.below hb1)
  have HQ1 : Hid ((W.alloc (.cells #[.slice none 0 0, .int .i64 0] 176)).heap[W.heap.size]? = some (.cells #[.slice none 0 0, .int .i64 0] 176 (0, 0))) := heap_alloc_new W _
  have HJ1 := Lib.hid (HG.out _ _ _ HJ.out hb1)
  have cBs : (W.alloc (.cells #[.slice none 0 0, .int .i64 0] 176)).cell? ⟨Bs, 0, none⟩ = some (.int .i64 (y : Int)) := cellR 0 HC1.out.m0 rfl
  have HC0 := HC
  clear hb1 HC HJ
  obtain ⟨q, hq⟩ : ∃ q, q = W.heap.size := ⟨_, rfl⟩
  have HQE := Lib.hid hq
  obtain ⟨X, hX⟩ : ∃ X, X = (W.alloc (.cells #[.slice none 0 0, .int .i64 0] 176)).alloc (.cells #[.int .i64 (y : Int), .int .i64 0, .pointer none] 160) := ⟨_, rfl⟩
  have hb2 : Below (W.alloc (.cells #[.slice none 0 0, .int .i64 0] 176)).heap.size (W.alloc (.cells #[.slice none 0 0, .int .i64 0] 176)) X := by rw [hX]; exact (Below.refl _ _).alloc (Nat.le_refl _) _
  have HP : Hid (Calls Tryz.prog 121 #[ptrV q, ptrV (q + 1)] X fun e w' => e = .returned (.tuple #[]) ∧ ∃ v', SQ q q ([] ++ [((y : Int), 0)]) 0 v' ([] ++ [q + 1]) w' ∧ Ko q q X w') := by
    have hqb : X.heap[q]? = some (.cells #[.slice none 0 0, .int .i64 0] 176 (0, 0)) := by rw [hq]; exact heapB hb2 HQ1.out
    have hp : X.heap[q + 1]? = some (.cells #[.int .i64 (y : Int), .int .i64 0, .pointer none] 160 (0, 0)) := by
      rw [hX, hq, show W.heap.size + 1 = (W.alloc (.cells #[.slice none 0 0, .int .i64 0] 176)).heap.size by simp]
      exact heap_alloc_new _ _
    refine put_any ⟨hqb, ⟨rfl, .inl ⟨rfl, rfl⟩⟩, fun _ => rfl, rfl, fun i hi => by simp at hi, by omega⟩ (by simp) (by rw [hX]; simp; omega) hp (by omega)
  have HX : Hid (Has [(Bs, .cells #[.int .i64 (y : Int)] 3 (0, 0)), (Bc, .cells #[.int .i64 (N : Int)] 3 (0, 0)), (Bn, .cells #[fnV rcv ty] 110 (0, 0)), (Ba, .cells #[.func (.func 57) #[] #[]] 113 (0, 0))] X ∧ (∀ b ∈ [Bs, Bc, Bn, Ba], b < q) ∧ J [] X ∧ Below lo w X ∧ lo ≤ q ∧ q ≤ X.heap.size) := by
    refine ⟨HC1.out.below hb2, fun b hb => ?_, HG.out _ _ _ HJ1.out (hb2.mono (by simp)), HW.out.trans ((HB1.out.mono HLO.out).trans (hb2.mono (by have := HLO.out; simp; omega))), by rw [hq]; exact HLO.out, by rw [hX, hq]; simp; omega⟩
    simp only [List.mem_cons, List.not_mem_nil, or_false] at hb
    rw [hq]
    rcases hb with rfl | rfl | rfl | rfl
    · exact (Array.getElem?_eq_some_iff.1 HC0.out.m0).1
    · exact (Array.getElem?_eq_some_iff.1 HC0.out.m1).1
    · exact (Array.getElem?_eq_some_iff.1 (HC0.out _ (.tail _ (.tail _ (.head _))))).1
    · exact (Array.getElem?_eq_some_iff.1 (HC0.out _ (.tail _ (.tail _ (.tail _ (.head _)))))).1
  gi_wp2
  rw [← hX, ← hq]
  clear cBs hb2 hX HB1 HC1 HQ1 HJ1
  refine ⟨trivial, callsIn_wide.2 (HP.out.mono ?_)⟩
  rintro e w1 ⟨rfl, v1, hs1, hk1⟩
  have HS1 : Hid (SQ q q [((y : Int), 0)] 0 v1 [q + 1] w1 ∧ Ko q q X w1) := ⟨hs1, hk1⟩
  have H1 : Hid ((∀ p ∈ [(Bs, Obj.cells #[.int .i64 (y : Int)] 3 (0, 0)), (Bc, .cells #[.int .i64 (N : Int)] 3 (0, 0)), (Bn, .cells #[fnV rcv ty] 110 (0, 0)), (Ba, .cells #[.func (.func 57) #[] #[]] 113 (0, 0))], w1.heap[p.1]? = some p.2 ∧ p.2.isCells = true ∧ Ot q p.1 w1 ∧ p.1 < q) ∧ J [] w1 ∧ Below lo w w1) := by
    obtain ⟨x1, x2, x3, x4, x5, x6⟩ := HX.out
    refine ⟨fun p hp => ?_, HG.out _ _ _ x3 (by rw [← HQE.out]; exact hk1.bl), x4.trans (hk1.bl.mono x5)⟩
    have hlt : p.1 < q := x2 _ (by simp only [List.mem_cons, List.not_mem_nil, or_false] at hp ⊢; rcases hp with rfl | rfl | rfl | rfl <;> simp)
    have hh : w1.heap[p.1]? = some p.2 := (hk1.bl.block _ hlt).trans (x1 p hp)
    have hcl : p.2.isCells = true := by simp only [List.mem_cons, List.not_mem_nil, or_false] at hp; rcases hp with rfl | rfl | rfl | rfl <;> rfl
    refine ⟨hh, hcl, ⟨⟨_, hh, hcl⟩, by omega, fun u hu e => ?_⟩, hlt⟩
    rw [hs1.c0] at hu
    cases hu
    have := (hs1.own.lt _ e).1
    omega
  have hnb : ((X.heap.size : Nat) : Nat) = X.heap.size := rfl
  clear HX HP hs1 hk1 hnb
  have cBc : w1.cell? ⟨Bc, 0, none⟩ = some (.int .i64 (N : Int)) := cellR 0 (H1.out.1 _ (.tail _ (.head _))).1 rfl
  have hmk := make_bools N (by have := HHN.out; omega) w1
  obtain ⟨sb, hsb⟩ : ∃ sb, sb = w1.heap.size := ⟨_, rfl⟩
  have HSB := Lib.hid hsb
  have hbA : Below w1.heap.size w1 (w1.alloc (.cells (boolA (List.replicate N false)) 4)) := (Below.refl _ _).alloc (Nat.le_refl _) _
  have hset : (boolA (List.replicate N false)).setIfInBounds y (.bool true) = boolA (seenL N [((y : Int), 0)]) := by
    have hgen : ∀ l : List Bool, (boolA l).setIfInBounds y (.bool true) = boolA (l.set y true) := fun l => by simp [boolA, List.map_set]
    rw [show [((y : Int), 0)] = [] ++ [((y : Int), 0)] from rfl, ← seen_set y 0, seen_nil, hgen]
  have HSET := Lib.hid hset
  obtain ⟨Y, hYE⟩ : ∃ Y, Y = (w1.alloc (.cells (boolA (List.replicate N false)) 4)).alloc (.cells #[.slice (some ⟨w1.heap.size, 0, none⟩) N N] 49) := ⟨_, rfl⟩
  have hbB : Below w1.heap.size w1 Y := by rw [hYE]; exact hbA.alloc (by simp) _
  have qsb : BAt Y w1.heap.size (List.replicate N false) := by rw [hYE]; exact (Below.heap_alloc _ _ _ (by simp)).trans (heap_alloc_new w1 _)
  obtain ⟨Z, hZE⟩ : ∃ Z, Z = (w1.alloc (.cells (boolA (seenL N [((y : Int), 0)])) 4)).alloc (.cells #[.slice (some ⟨w1.heap.size, 0, none⟩) N N] 49) := ⟨_, rfl⟩
  have hbA2 : Below w1.heap.size w1 (w1.alloc (.cells (boolA (seenL N [((y : Int), 0)])) 4)) := (Below.refl _ _).alloc (Nat.le_refl _) _
  have hbZ : Below w1.heap.size w1 Z := by rw [hZE]; exact hbA2.alloc (by simp) _
  have zsb : BAt Z w1.heap.size (seenL N [((y : Int), 0)]) := by rw [hZE]; exact (Below.heap_alloc _ _ _ (by simp)).trans (heap_alloc_new w1 _)
  have zbs : Z.heap[w1.heap.size + 1]? = some (.cells #[.slice (some ⟨w1.heap.size, 0, none⟩) N N] 49 (0, 0)) := by
    rw [hZE, show w1.heap.size + 1 = (w1.alloc (.cells (boolA (seenL N [((y : Int), 0)])) 4)).heap.size by simp]; exact heap_alloc_new _ _
  have HST : Hid (St q q sb lo w [(sb + 1, .cells #[.slice (some ⟨sb, 0, none⟩) N N] 49 (0, 0)), (Bs, .cells #[.int .i64 (y : Int)] 3 (0, 0)), (Bc, .cells #[.int .i64 (N : Int)] 3 (0, 0)), (Bn, .cells #[fnV rcv ty] 110 (0, 0)), (Ba, .cells #[.func (.func 57) #[] #[]] 113 (0, 0))] (seenL N [((y : Int), 0)]) [((y : Int), 0)] 0 v1 [q + 1] Z ∧ J [] Z) := by
    obtain ⟨a1, a2, a3⟩ := H1.out
    have hl : lo ≤ q := by rw [HQE.out]; exact HLO.out
    have hqz : q ≤ w1.heap.size := by have := HS1.out.1.lt; omega
    rw [HSB.out]
    refine ⟨⟨HS1.out.1.below hbZ, zsb, hqz, Ot.new HS1.out.1 hbZ (Nat.le_refl _) ⟨_, zsb, rfl⟩, fun p hp => ?_, a3.trans (hbZ.mono (Nat.le_trans hl hqz)), Nat.le_trans hqz hbZ.size⟩, HG.out _ _ _ a2 (by rw [← HQE.out]; exact hbZ.mono hqz)⟩
    rcases List.mem_cons.1 hp with rfl | hp
    · exact ⟨zbs, rfl, Ot.new HS1.out.1 hbZ (by simp) ⟨_, zbs, rfl⟩, by simp⟩
    · obtain ⟨b1, b2, b3, b4⟩ := a1 p hp
      exact ⟨heapB hbZ b1, b2, b3.below HS1.out.1.lt hbZ, by omega⟩
  have cBs : Y.cell? ⟨Bs, 0, none⟩ = some (.int .i64 (y : Int)) := kcell hbB (cellR 0 (H1.out.1 _ (.head _)).1 rfl)
  have hyl := HHY.out
  have cSy := qsb.cell y (by simpa using hyl)
  have fSy := qsb.open_ y
  have lSy := qsb.lt
  rw [hYE] at cBs cSy fSy lSy
  have HZE := Lib.hid hZE
  clear hYE qsb hbB hbA hsb hZE hbZ zsb zbs hbA2 hset
  gi_wp2
  rw [HSET.out, ← HZE.out, ← HQE.out, ← HSB.out]
  have HBI := Lib.hid (BInv.init NB (N := N) (y := (y : Int)) (by omega) (by omega))
  have HLQ : Hid (lo ≤ q) := by show lo ≤ q; rw [HQE.out]; exact HLO.out
  have HOQ : Hid (ob < q) := by show ob < q; rw [HQE.out]; exact HOB.out
  have HG2 : Hid (∀ pre V V2, J pre V → Below q V V2 → J pre V2) := by rw [HQE.out]; exact HG.out
  have HY2 := HY
  rw [← HQE.out] at HY2
  clear cBs cSy fSy lSy hmk HSET HZE HS1 H1 HQE HSB hq HLO HOB HG HY HC0 hyl cBc
  clear Y
  refine wpIn_loop (fun a W' => ∃ (L : List (Int × Nat)) (t : Nat) (v : Value) (ps : List Nat) (Ds : List Nat) (u8 u19 u20 u21 u22 u23 u24 u25 u26 u27 u28 u29 u30 u31 : Value), Hid (St q q sb lo w [(sb + 1, .cells #[.slice (some ⟨sb, 0, none⟩) N N] 49 (0, 0)), (Bs, .cells #[.int .i64 (y : Int)] 3 (0, 0)), (Bc, .cells #[.int .i64 (N : Int)] 3 (0, 0)), (Bn, .cells #[fnV rcv ty] 110 (0, 0)), (Ba, .cells #[.func (.func 57) #[] #[]] 113 (0, 0))] (seenL N L) L t v ps W' ∧ J (L.take t) W' ∧ Marks q Ds W' ∧ BInv NB N (y : Int) L t) ∧ a = ⟨#[Value.func (Fn.yield ll) #[] #[], Value.pointer (some ⟨Bs, 0, none⟩), Value.pointer (some ⟨Bc, 0, none⟩), Value.pointer (some ⟨Bn, 0, none⟩), Value.pointer (some ⟨Ba, 0, none⟩), undef, Value.pointer (some ⟨q, 0, none⟩), Value.pointer (some ⟨sb + 1, 0, none⟩), u8, undef, Value.int IntKind.i64 ((y : Int)), Value.agg #[Value.int IntKind.i64 ((y : Int)), Value.int IntKind.i64 (0), Value.pointer none], Value.pointer (some ⟨q + 1, 0, none⟩), Value.tuple #[], Value.int IntKind.i64 ((N : Int)), Value.slice (some ⟨sb, 0, none⟩) N N, Value.slice (some ⟨sb, 0, none⟩) N N, Value.int IntKind.i64 ((y : Int)), Value.pointer (some ⟨sb, y, none⟩), u19, u20, u21, u22, u23, u24, u25, u26, u27, u28, u29, u30, u31, undef, undef, undef, undef, undef, undef, undef, undef, undef, undef, undef, undef, undef, undef, undef, undef, undef, undef, undef, undef, undef, undef, undef, undef, undef, undef, undef, undef], Ds.map mk⟩) (fun _ W => N + 1 - cellN W q) ⟨_, 0, v1, _, [], undef, undef, undef, undef, undef, undef, undef, undef, undef, undef, undef, undef, undef, undef, ⟨HST.out.1, HST.out.2, Marks.nil _ _, HBI.out⟩, rfl⟩ ?_
  clear HST HBI
  clear Z w1 v1
  rintro a wr ⟨L, t, v, ps, Ds, u8, u19, u20, u21, u22, u23, u24, u25, u26, u27, u28, u29, u30, u31, HI, rfl⟩
  by_cases hlt : t < L.length
  · have HM : Hid (cellN wr q = t) := cellN_at HI.out.1.sq
    have HEM := Lib.hid (empty_any HI.out.1.sq)
    have d1 : ((t : Int) == (L.length : Int)) = false := by simp; omega
    have HLL := Lib.hid hlt
    have HLN : Hid (L.length ≤ N) := HI.out.2.2.2.len
    gi_wp2
    refine ⟨trivial, callsIn_wide.2 (HEM.out.mono ?_)⟩
    rintro e w2 ⟨rfl, hb2⟩
    have HI2 : Hid (St q q sb lo w [(sb + 1, .cells #[.slice (some ⟨sb, 0, none⟩) N N] 49 (0, 0)), (Bs, .cells #[.int .i64 (y : Int)] 3 (0, 0)), (Bc, .cells #[.int .i64 (N : Int)] 3 (0, 0)), (Bn, .cells #[fnV rcv ty] 110 (0, 0)), (Ba, .cells #[.func (.func 57) #[] #[]] 113 (0, 0))] (seenL N L) L t v ps w2 ∧ J (L.take t) w2 ∧ Marks q Ds w2 ∧ BInv NB N (y : Int) L t) := by
      obtain ⟨i1, i2, i3, i4⟩ := HI.out
      exact ⟨i1.below HLQ.out hb2, HG2.out _ _ _ i2 (hb2.mono i1.nz), i3.grown hb2, i4⟩
    obtain ⟨p0, hp0⟩ : ∃ p0, p0 = ps.getD t 0 := ⟨_, rfl⟩
    have HTK := Lib.hid (take_any HI2.out.1.sq HLL.out (by have := HLN.out; have := HHN.out; omega) HI2.out.1.nz)
    rw [← hp0] at HTK
    have HP0 := Lib.hid hp0
    clear HEM hb2 HI hp0
    gi_wp2
    clear d1
    refine ⟨trivial, callsIn_wide.2 (HTK.out.mono ?_)⟩
    rintro e w3 ⟨rfl, hs3, hk3⟩
    obtain ⟨bt, hbt⟩ : ∃ bt, bt = w3.heap.size := ⟨_, rfl⟩
    have hba : Below w3.heap.size w3 (w3.alloc (.cells #[ptrV p0] 158)) := (Below.refl _ _).alloc (Nat.le_refl _) _
    have qbt : (w3.alloc (.cells #[ptrV p0] 158)).heap[w3.heap.size]? = some (.cells #[ptrV p0] 158 (0, 0)) := heap_alloc_new w3 _
    have HV : Hid (St q q sb lo w [(bt, .cells #[ptrV p0] 158 (0, 0)), (sb + 1, .cells #[.slice (some ⟨sb, 0, none⟩) N N] 49 (0, 0)), (Bs, .cells #[.int .i64 (y : Int)] 3 (0, 0)), (Bc, .cells #[.int .i64 (N : Int)] 3 (0, 0)), (Bn, .cells #[fnV rcv ty] 110 (0, 0)), (Ba, .cells #[.func (.func 57) #[] #[]] 113 (0, 0))] (seenL N L) L (t + 1) v ps (w3.alloc (.cells #[ptrV p0] 158)) ∧ J (L.take t) (w3.alloc (.cells #[ptrV p0] 158)) ∧ Marks q Ds (w3.alloc (.cells #[ptrV p0] 158)) ∧ BInv NB N (y : Int) L t ∧ q ≤ bt ∧ Marks bt [] (w3.alloc (.cells #[ptrV p0] 158)) ∧ ∀ D ∈ Ds, D < bt) := by
      obtain ⟨i1, i2, i3, i4⟩ := HI2.out
      have st := i1.ko HLQ.out hs3 hk3
      have hm3 : Marks q Ds w3 := i3.keep fun D hD => by rw [hk3.rc D _ (i3.open_ D hD).2 rfl, (i3.open_ D hD).2]
      refine ⟨?_, HG2.out _ _ _ i2 (hk3.bl.trans (hba.mono st.nz)), hm3.grown hba, i4, by rw [hbt]; exact st.nz, Marks.nil _ _, fun D hD => by rw [hbt]; exact hm3.lt hD⟩
      rw [hbt]
      exact st.add HLQ.out hba (Nat.le_refl _) qbt rfl
    have hz3 : bt < (w3.alloc (.cells #[ptrV p0] 158)).heap.size := by rw [hbt]; simp
    clear hba qbt hs3 hk3 HI2 HTK
    have cbt : (w3.alloc (.cells #[ptrV p0] 158)).cell? ⟨w3.heap.size, 0, none⟩ = some (ptrV p0) := by rw [← hbt]; exact cellR 0 HV.out.1.has.m0 rfl
    unfold ptrV at cbt
    have HLX : Hid (L[t]? = some (L[t]'hlt)) := List.getElem?_eq_getElem hlt
    obtain ⟨x, hx⟩ : ∃ x, x = L[t]'hlt := ⟨_, rfl⟩
    rw [← hx] at HLX
    have HTR : Hid (∃ bv, (w3.alloc (.cells #[ptrV p0] 158)).heap[p0]? = some (.cells #[.int .i64 x.1, .int .i64 (x.2 : Int), bv] 160 (0, 0)) ∧ q ≤ p0) := by
      obtain ⟨bv, h1, h2⟩ := HV.out.1.sq.tr t hlt
      rw [← HP0.out] at h1 h2
      rw [hx]; exact ⟨bv, h1, h2⟩
    have HXR : Hid (0 ≤ x.1 ∧ x.1 < (N : Int) ∧ x.2 < N ∧ x.1 ∉ (L.take t).map (·.1)) := by
      have bi := HV.out.2.2.2.1
      have hm := bi.rng x (by rw [hx]; exact List.getElem_mem hlt)
      have hi := bi.idx t x HLX.out
      refine ⟨hm.1, hm.2, by have := bi.len; omega, fun hmem => ?_⟩
      obtain ⟨j, hj, hje⟩ := List.getElem_of_mem hmem
      have hj2 : j < t := by simp at hj; omega
      have hne := List.pairwise_iff_getElem.1 bi.nodup j t (by simp; omega) (by simpa using hlt) hj2
      apply hne
      simp at hje
      simp [hje, hx]
    have HTAK : Hid (L.take (t + 1) = L.take t ++ [x]) := by show _ = _; rw [List.take_succ_eq_append_getElem hlt, ← hx]
    obtain ⟨bv0, htr0, hqp0⟩ := HTR.out
    obtain ⟨fn0, tm, as_, bd, hy, hR⟩ := YieldAt.any (m' := 3) (HY2.out (L.take t) x p0 bv0 _ HV.out.2.1 HXR.out.1 HXR.out.2.1 HXR.out.2.2.1 HXR.out.2.2.2 htr0 (by have := HOQ.out; omega))
    unfold ptrV at hy
    rw [← HTAK.out] at hR
    clear hx htr0 hqp0 hlt
    unfold ptrV
    gi_wp2
    rw [← hbt]
    refine hR.mono ?_
    rintro e w4 ⟨rfl, hJ4, hkt, hkf⟩
    have HI4 : Hid (St q q sb lo w [(bt, .cells #[ptrV p0] 158 (0, 0)), (sb + 1, .cells #[.slice (some ⟨sb, 0, none⟩) N N] 49 (0, 0)), (Bs, .cells #[.int .i64 (y : Int)] 3 (0, 0)), (Bc, .cells #[.int .i64 (N : Int)] 3 (0, 0)), (Bn, .cells #[fnV rcv ty] 110 (0, 0)), (Ba, .cells #[.func (.func 57) #[] #[]] 113 (0, 0))] (seenL N L) L (t + 1) v ps w4 ∧ J (L.take (t + 1)) w4 ∧ Marks q Ds w4 ∧ BInv NB N (y : Int) L t ∧ q ≤ bt ∧ (∀ D ∈ Ds, D < bt) ∧ ∃ bv, w4.heap[p0]? = some (.cells #[.int .i64 x.1, .int .i64 (x.2 : Int), bv] 160 (0, 0))) := by
      obtain ⟨i1, i2, i3, i4, i5, i6, i7⟩ := HV.out
      obtain ⟨m0, m1, m2, m3⟩ := HNE.out
      have hoq := HOQ.out
      refine ⟨i1.kept (fun b o hb ho hc => hkt.2 b o ?_ ho hc) (i1.bl.trans hkt.1) hkf.size, hJ4, i3.from hkf (Nat.le_refl _), i4, i5, i7, ?_⟩
      · rcases hb with hb | hb
        · simp only [List.map_cons, List.map_nil, List.mem_cons, List.not_mem_nil, or_false] at hb
          have hs := i1.hs
          rcases hb with rfl | rfl | rfl | rfl | rfl | rfl
          · omega
          · omega
          · exact m0
          · exact m1
          · exact m2
          · exact m3
        · omega
      · obtain ⟨bv, h1, h2⟩ := HTR.out
        exact ⟨bv, hkt.2 _ _ (by omega) h1 rfl⟩
    clear hy hR hJ4 hkt hkf HV cbt hz3
    have cbt : w4.cell? ⟨bt, 0, none⟩ = some (.pointer (some ⟨p0, 0, none⟩)) := cellR 0 HI4.out.1.has.m0 rfl
    gi_wp2
    rw [← hbt]
    obtain ⟨PH, hPH⟩ : ∃ PH : World → Prop, PH = fun W9 => St q q sb lo w [(bt, .cells #[ptrV p0] 158 (0, 0)), (sb + 1, .cells #[.slice (some ⟨sb, 0, none⟩) N N] 49 (0, 0)), (Bs, .cells #[.int .i64 (y : Int)] 3 (0, 0)), (Bc, .cells #[.int .i64 (N : Int)] 3 (0, 0)), (Bn, .cells #[fnV rcv ty] 110 (0, 0)), (Ba, .cells #[.func (.func 57) #[] #[]] 113 (0, 0))] (seenL N L) L (t + 1) v ps W9 ∧ J (L.take (t + 1)) W9 ∧ Marks q Ds W9 ∧ BInv NB N (y : Int) L t ∧ q ≤ bt ∧ (∀ D ∈ Ds, D < bt) ∧ ∃ bv, W9.heap[p0]? = some (.cells #[.int .i64 x.1, .int .i64 (x.2 : Int), bv] 160 (0, 0)) := ⟨_, rfl⟩
    have HPE := Lib.hid hPH
    have HP4 : Hid (PH w4) := by rw [hPH]; exact HI4.out
    have HPB : Hid (∀ A B, PH A → Below A.heap.size A B → PH B) := by
      intro A B hA hb
      rw [hPH] at hA ⊢
      obtain ⟨i1, i2, i3, i4, i5, i6, bv, i7⟩ := hA
      exact ⟨i1.below HLQ.out hb, HG2.out _ _ _ i2 (hb.mono i1.nz), i3.grown hb, i4, i5, i6, bv, heapB hb i7⟩
    have HPC : Hid (∀ A, PH A → A.cell? ⟨bt, 0, none⟩ = some (.pointer (some ⟨p0, 0, none⟩)) ∧ A.cell? ⟨p0, 0, none⟩ = some (.int .i64 x.1) ∧ A.cell? ⟨Bn, 0, none⟩ = some (fnV rcv ty) ∧ Below lo w A ∧ q ≤ A.heap.size) := by
      intro A hA
      rw [hPH] at hA
      obtain ⟨i1, i2, i3, i4, i5, i6, bv, i7⟩ := hA
      exact ⟨cellR 0 i1.has.m0 rfl, cellR 0 i7 rfl, cellR 0 (i1.has _ (.tail _ (.tail _ (.tail _ (.tail _ (.head _)))))) rfl, i1.bl, i1.nz⟩
    have HNBX : Hid (∀ A, PH A → Calls Tryz.prog fn #[rcv, .int .i64 x.1] A fun e w' => ∃ gf lb, e = .returned (.func (.func gf) #[] lb) ∧ PH w' ∧ Below A.heap.size A w' ∧ (∀ args w, (callFunc gf args).run Tryz.prog w = .ok (.enter gf args) w) ∧ ∃ Nd : List Nat, (∀ b ∈ Nd, Ot q b w' ∧ b ≠ sb ∧ b < w'.heap.size ∧ bt < b) ∧ ∀ n, SeqR n gf lb encI Nd (NB x.1) w') := by
      intro A hA
      obtain ⟨n1, hn1⟩ := Int.eq_ofNat_of_zero_le HXR.out.1
      have hvm := HNB.out n1 (by have := HXR.out.2.1; omega) A (HPC.out A hA).2.2.2.1
      rw [hn1]
      refine Calls.mono hvm ?_
      rintro e w' ⟨gf, lb, rfl, ⟨heg, Nd, hNd, hSq⟩, hb⟩
      refine ⟨gf, lb, rfl, HPB.out _ _ hA hb, hb, heg, Nd, fun b hm => ?_, hSq⟩
      rw [hPH] at hA
      obtain ⟨h1, o, h2, h3⟩ := hNd b hm
      have hbl := (Array.getElem?_eq_some_iff.1 hA.1.has.m0).1
      have hsl := hA.1.sn.lt
      exact ⟨Ot.new hA.1.sq hb h1 ⟨o, h2, h3⟩, by omega, (Array.getElem?_eq_some_iff.1 h2).1, by simp only at hbl; omega⟩
    clear hPH HI4 HTR cbt hbt
    refine region_det (by kernel_rfl) (I := fun listed a' w' => ∃ (gf : Nat) (lb : Array Value), Hid (PH w') ∧ Hid (listed.getD 5 false = true → (∀ args w, (callFunc gf args).run Tryz.prog w = .ok (.enter gf args) w) ∧ ∃ Nd : List Nat, (∀ b ∈ Nd, Ot q b w' ∧ b ≠ sb ∧ b < w'.heap.size ∧ bt < b) ∧ ∀ n, SeqR n gf lb encI Nd (NB x.1) w') ∧ a' = ⟨#[Value.func (Fn.yield ll) #[] #[], Value.pointer (some ⟨Bs, 0, none⟩), Value.pointer (some ⟨Bc, 0, none⟩), Value.pointer (some ⟨Bn, 0, none⟩), Value.pointer (some ⟨Ba, 0, none⟩), undef, Value.pointer (some ⟨q, 0, none⟩), Value.pointer (some ⟨sb + 1, 0, none⟩), Value.pointer (some ⟨bt, 0, none⟩), undef, Value.int IntKind.i64 ((y : Int)), Value.agg #[Value.int IntKind.i64 ((y : Int)), Value.int IntKind.i64 (0), Value.pointer none], Value.pointer (some ⟨q + 1, 0, none⟩), Value.tuple #[], Value.int IntKind.i64 ((N : Int)), Value.slice (some ⟨sb, 0, none⟩) N N, Value.slice (some ⟨sb, 0, none⟩) N N, Value.int IntKind.i64 ((y : Int)), Value.pointer (some ⟨sb, y, none⟩), Value.bool false, Value.bool true, Value.pointer (some ⟨p0, 0, none⟩), Value.func (Fn.yield ll) #[] #[], Value.pointer (some ⟨p0, 0, none⟩), Value.bool true, Value.bool false, (if listed.getD 0 false = true then fnV rcv ty else u26), (if listed.getD 1 false = true then Value.pointer (some ⟨p0, 0, none⟩) else u27), (if listed.getD 2 false = true then Value.pointer (some ⟨p0, 0, none⟩) else u28), (if listed.getD 3 false = true then Value.pointer (some ⟨p0, 0, none⟩) else u29), (if listed.getD 4 false = true then Value.int IntKind.i64 (x.1) else u30), (if listed.getD 5 false = true then Value.func (Fn.func gf) #[] lb else u31), undef, undef, undef, undef, undef, undef, undef, undef, undef, undef, undef, undef, undef, undef, undef, undef, undef, undef, undef, undef, undef, undef, undef, undef, undef, undef, undef, undef], Ds.map mk⟩) (hup_check (by kernel_rfl)) ?h0 ?step ?fin
    case h0 => exact ⟨0, #[], HPB.out _ _ HP4.out ((Below.refl _ _).drew), (fun h => by simp at h), rfl⟩
    case step =>
      intro listed a' w' i hs hbi hdep hi ⟨gf, lb, IP, IV, ha⟩
      obtain ⟨ls⟩ := listed
      match ls, hs with
      | [x0, x1, x2, x3, x4, x5], _ =>
      subst ha
      have hi' : i = 0 ∨ i = 1 ∨ i = 2 ∨ i = 3 ∨ i = 4 ∨ i = 5 := by simp at hi; omega
      rcases hi' with rfl | rfl | rfl | rfl | rfl | rfl
      · obtain rfl : x0 = false := by simpa using hbi
        have c9 := (HPC.out _ IP.out).2.2.1
        refine wpOpIn_plain (v := fnV rcv ty) (w' := w') rfl rfl (by simp [Oper.semAt, execOp, go_sem, c9]) ?_
        exact ⟨gf, lb, IP, IV, rfl⟩
      · obtain rfl : x1 = false := by simpa using hbi
        have c9 := (HPC.out _ IP.out).1
        refine wpOpIn_plain (v := Value.pointer (some ⟨p0, 0, none⟩)) (w' := w') rfl rfl (by simp [Oper.semAt, execOp, go_sem, c9]) ?_
        exact ⟨gf, lb, IP, IV, rfl⟩
      · obtain rfl : x2 = false := by simpa using hbi
        obtain rfl : x1 = true := hdep _ rfl ⟨1, .data⟩ (by simp) rfl
        refine wpOpIn_plain rfl rfl rfl ?_
        exact ⟨gf, lb, IP, IV, rfl⟩
      · obtain rfl : x3 = false := by simpa using hbi
        obtain rfl : x2 = true := hdep _ rfl ⟨2, .data⟩ (by simp) rfl
        refine wpOpIn_plain rfl rfl rfl ?_
        exact ⟨gf, lb, IP, IV, rfl⟩
      · obtain rfl : x4 = false := by simpa using hbi
        obtain rfl : x3 = true := hdep _ rfl ⟨3, .data⟩ (by simp) rfl
        have c9 := (HPC.out _ IP.out).2.1
        refine wpOpIn_plain (v := Value.int IntKind.i64 (x.1)) (w' := w') rfl rfl (by simp [Oper.semAt, execOp, go_sem, c9]) ?_
        exact ⟨gf, lb, IP, IV, rfl⟩
      · obtain rfl : x5 = false := by simpa using hbi
        obtain rfl : x0 = true := hdep _ rfl ⟨0, .data⟩ (by simp) rfl
        obtain rfl : x4 = true := hdep _ rfl ⟨4, .data⟩ (by simp) rfl
        refine wpOpIn_call (args := #[rcv, Value.int IntKind.i64 x.1]) rfl rfl (sem_callM rfl rfl rfl (hmn w') hen) (HNBX.out w' IP.out) ?_
        rintro e V ⟨gf2, lb2, rfl, hp2, hb2, hv2⟩
        exact ⟨_, rfl, gf2, lb2, hp2, (fun _ => hv2), rfl⟩
    case fin =>
    intro listed a' w5 hs hall ⟨gf, lb, IP, IV, ha⟩
    obtain ⟨ls⟩ := listed
    match ls, hs with
    | [x0, x1, x2, x3, x4, x5], _ =>
    obtain rfl : x0 = true := hall 0 (by simp)
    obtain rfl : x1 = true := hall 1 (by simp)
    obtain rfl : x2 = true := hall 2 (by simp)
    obtain rfl : x3 = true := hall 3 (by simp)
    obtain rfl : x4 = true := hall 4 (by simp)
    obtain rfl : x5 = true := hall 5 (by simp)
    subst ha
    have HP5 : Hid (PH w5) := IP
    have HVI := Lib.hid (IV.out rfl)
    clear IV IP HP4 hs hall
    gi_wp2
    obtain ⟨heg, Nd, hNd, hSq⟩ := HVI.out
    have HSQ := Lib.hid hSq
    obtain ⟨PM, hPM⟩ : ∃ PM : List Bool → List (Int × Nat) → Value → List Nat → World → Prop, PM = fun S9 L9 v9 ps9 W9 => St q q sb lo w [(bt, .cells #[ptrV p0] 158 (0, 0)), (sb + 1, .cells #[.slice (some ⟨sb, 0, none⟩) N N] 49 (0, 0)), (Bs, .cells #[.int .i64 (y : Int)] 3 (0, 0)), (Bc, .cells #[.int .i64 (N : Int)] 3 (0, 0)), (Bn, .cells #[fnV rcv ty] 110 (0, 0)), (Ba, .cells #[.func (.func 57) #[] #[]] 113 (0, 0))] S9 L9 (t + 1) v9 ps9 W9 ∧ J (L.take (t + 1)) W9 ∧ Marks q Ds W9 ∧ (∃ bv, W9.heap[p0]? = some (.cells #[.int .i64 x.1, .int .i64 (x.2 : Int), bv] 160 (0, 0))) ∧ (∀ b ∈ Nd, Ot q b W9 ∧ b ≠ sb ∧ bt < b) := ⟨_, rfl⟩
    have HPM := Lib.hid hPM
    obtain ⟨PU, hPU⟩ : ∃ PU : List Int → List (Int × Nat) → Prop, PU = fun pre L9 => BInv NB N (y : Int) L9 t ∧ L9[t]? = some x ∧ L9.take (t + 1) = L.take (t + 1) ∧ ∀ z ∈ pre, ∃ s, (z, s) ∈ L9 ∧ s ≤ x.2 + 1 := ⟨_, rfl⟩
    have HPU := Lib.hid hPU
    have HQB : Hid (q ≤ bt ∧ (∀ D ∈ Ds, D < bt) ∧ bt < w5.heap.size) := by
      have hA := HP5.out
      rw [HPE.out] at hA
      exact ⟨hA.2.2.2.2.1, hA.2.2.2.2.2.1, (Array.getElem?_eq_some_iff.1 hA.1.has.m0).1⟩
    have HM5 : Hid (PM (seenL N L) L v ps w5 ∧ PU [] L) := by
      have hA := HP5.out
      rw [HPE.out] at hA
      rw [hPM, hPU]
      obtain ⟨i1, i2, i3, i4, i5, i6, i7⟩ := hA
      exact ⟨⟨i1, i2, i3, i7, fun b hb => ⟨(hNd b hb).1, (hNd b hb).2.1, (hNd b hb).2.2.2⟩⟩, i4, HLX.out, rfl, fun z hz => by simp at hz⟩
    have HMB : Hid (∀ S9 L9 v9 ps9 A B, PM S9 L9 v9 ps9 A → Below A.heap.size A B → PM S9 L9 v9 ps9 B ∧ (∀ b ∈ Nd, B.heap[b]? = A.heap[b]?) ∧ KeepsFrom w5.heap.size A B) := by
      intro S9 L9 v9 ps9 A B hA hb
      rw [hPM] at hA ⊢
      obtain ⟨i1, i2, i3, ⟨bv, i4⟩, i5⟩ := hA
      exact ⟨⟨i1.below HLQ.out hb, HG2.out _ _ _ i2 (hb.mono i1.nz), i3.grown hb, ⟨bv, heapB hb i4⟩, fun b hm => ⟨(i5 b hm).1.below i1.sq.lt hb, (i5 b hm).2⟩⟩, fun b hm => hb.block b (Array.getElem?_eq_some_iff.1 (i5 b hm).1.1.choose_spec.1).1, hb.size, fun k o _ ho _ => heapB hb ho⟩
    have HMO : Hid (∀ S9 L9 v9 ps9 A b o o', PM S9 L9 v9 ps9 A → w5.heap.size ≤ b → A.heap[b]? = some o → o.isCells = false → PM S9 L9 v9 ps9 (A.putObj b o')) := by
      intro S9 L9 v9 ps9 A b o o' hA hbl ho hc
      rw [hPM] at hA ⊢
      obtain ⟨i1, i2, i3, ⟨bv, i4⟩, i5⟩ := hA
      obtain ⟨k1, k2, k3⟩ := HQB.out
      have hcell : ∀ c (oc : Obj), A.heap[c]? = some oc → oc.isCells = true → (A.putObj b o').heap[c]? = A.heap[c]? := fun c oc h1 h2 => World.putObj_heap_other (by rintro rfl; rw [ho] at h1; cases h1; rw [hc] at h2; cases h2)
      refine ⟨i1.putObj HLQ.out o' (by omega) ho hc, HG2.out _ _ _ i2 ⟨rfl, rfl, rfl, by simp [World.putObj], fun k hk => World.putObj_heap_other (by omega)⟩, i3.put o' (fun D hD => by have := k2 D hD; omega), ⟨bv, (hcell _ _ i4 rfl).trans i4⟩, fun c hm => ⟨?_, (i5 c hm).2⟩⟩
      exact (i5 c hm).1.keep (hcell _ _ i1.sq.qb rfl) (hcell _ _ (i5 c hm).1.1.choose_spec.1 (i5 c hm).1.1.choose_spec.2)
    have HMM : Hid (∀ S9 L9 v9 ps9 A (zn : Nat), PM S9 L9 v9 ps9 A → PM (S9.set zn true) L9 v9 ps9 (A.setCell ⟨sb, zn, none⟩ (.bool true)) ∧ (∀ b ∈ Nd, (A.setCell ⟨sb, zn, none⟩ (.bool true)).heap[b]? = A.heap[b]?) ∧ KeepsFrom w5.heap.size A (A.setCell ⟨sb, zn, none⟩ (.bool true))) := by
      intro S9 L9 v9 ps9 A zn hA
      rw [hPM] at hA ⊢
      obtain ⟨i1, i2, i3, ⟨bv, i4⟩, i5⟩ := hA
      have hso : ∀ b, b ≠ sb → (A.setCell ⟨sb, zn, none⟩ (.bool true)).heap[b]? = A.heap[b]? := fun b hb => heap_setCell_other _ _ _ _ hb
      have hsn := i1.sn
      unfold BAt at hsn
      have hrec : ∀ k o, A.heap[k]? = some o → o.isCells = false → k ≠ sb := fun k o h1 h2 => by rintro rfl; rw [hsn] at h1; cases h1; cases h2
      have hp0 : p0 ≠ sb := by rintro rfl; rw [hsn] at i4; simp at i4
      have hqs : q ≠ sb := by have := i1.os.2.1; omega
      refine ⟨⟨i1.mark HLQ.out zn, HG2.out _ _ _ i2 ((Below.refl q A).setCell (p := ⟨sb, zn, none⟩) i1.hs _), i3.keep fun D hD => hso D (hrec D _ (i3.open_ D hD).2 rfl), ⟨bv, (hso _ hp0).trans i4⟩, fun b hm => ⟨(i5 b hm).1.keep (hso q hqs) (hso b (i5 b hm).2.1), (i5 b hm).2⟩⟩, fun b hm => hso b (i5 b hm).2.1, by simp, fun k o _ ho hc => (hso k (hrec k o ho hc)).trans ho⟩
    have HMK : Hid (∀ S9 L9 v9 ps9 L8 v8 ps8 A B, PM S9 L9 v9 ps9 A → SQ q q L8 (t + 1) v8 ps8 B → Ko q q A B → PM S9 L8 v8 ps8 B ∧ (∀ b ∈ Nd, B.heap[b]? = A.heap[b]?) ∧ KeepsFrom w5.heap.size A B) := by
      intro S9 L9 v9 ps9 L8 v8 ps8 A B hA hs hk
      rw [hPM] at hA ⊢
      obtain ⟨i1, i2, i3, ⟨bv, i4⟩, i5⟩ := hA
      have hp0 : Ot q p0 A := by
        refine ⟨⟨_, i4, rfl⟩, fun e => ?_, fun u hu e => ?_⟩
        · have h1 := i1.sq.qb; rw [← e, i4] at h1; simp at h1
        · rw [i1.sq.c0] at hu; cases hu
          rcases i1.sq.own.2 with ⟨e1, _⟩ | ⟨g', cap', cur, e1, e2, e3, _⟩
          · rw [e1] at e; cases e
          · rw [e1] at e
            obtain rfl : g' = p0 := by simpa [Value.ownBlock] using e
            rw [i4] at e3; simp at e3
      exact ⟨⟨i1.ko HLQ.out hs hk, HG2.out _ _ _ i2 hk.bl, i3.keep fun D hD => by rw [hk.rc D _ (i3.open_ D hD).2 rfl, (i3.open_ D hD).2], ⟨bv, ((hk.ot _ hp0).1).trans i4⟩, fun b hm => ⟨(hk.ot _ (i5 b hm).1).2, (i5 b hm).2⟩⟩, fun b hm => (hk.ot _ (i5 b hm).1).1, hk.bl.size, fun k o _ ho hc => hk.rc k o ho hc⟩
    have HMC : Hid (∀ S9 L9 v9 ps9 A, PM S9 L9 v9 ps9 A → A.cell? ⟨bt, 0, none⟩ = some (.pointer (some ⟨p0, 0, none⟩)) ∧ A.cell? ⟨p0, 0, none⟩ = some (.int .i64 x.1) ∧ A.cell? ⟨p0, 1, none⟩ = some (.int .i64 (x.2 : Int)) ∧ A.cell? ⟨sb + 1, 0, none⟩ = some (.slice (some ⟨sb, 0, none⟩) N N) ∧ A.cell? ⟨Ba, 0, none⟩ = some (.func (.func 57) #[] #[]) ∧ BAt A sb S9 ∧ SQ q q L9 (t + 1) v9 ps9 A ∧ q ≤ A.heap.size) := by
      intro S9 L9 v9 ps9 A hA
      rw [hPM] at hA
      obtain ⟨i1, i2, i3, ⟨bv, i4⟩, i5⟩ := hA
      exact ⟨cellR 0 i1.has.m0 rfl, cellR 0 i4 rfl, cellR 1 i4 rfl, cellR 0 i1.has.m1 rfl, cellR 0 (i1.has _ (.tail _ (.tail _ (.tail _ (.tail _ (.tail _ (.head _))))))) rfl, i1.sn, i1.sq, i1.nz⟩
    have HNL : Hid (∀ b ∈ Nd, b < w5.heap.size) := fun b hb => (hNd b hb).2.2.1
    clear hPM hPU hNd hSq HVI HNBX
    refine range_r (L := NB x.1) (Nd := Nd) (by omega) rfl heg (HSQ.out _) HNL.out (fun _ => rfl) (fun pre W9 => ∃ L9 v9 ps9, PM (seenL N L9) L9 v9 ps9 W9 ∧ PU pre L9) ?hI ?grow ⟨L, v, ps, HM5.out⟩ (fun z => ⟨#[Value.func (Fn.yield ll) #[] #[], Value.pointer (some ⟨Bs, 0, none⟩), Value.pointer (some ⟨Bc, 0, none⟩), Value.pointer (some ⟨Bn, 0, none⟩), Value.pointer (some ⟨Ba, 0, none⟩), undef, Value.pointer (some ⟨q, 0, none⟩), Value.pointer (some ⟨sb + 1, 0, none⟩), Value.pointer (some ⟨bt, 0, none⟩), Value.int IntKind.i64 (z), Value.int IntKind.i64 ((y : Int)), Value.agg #[Value.int IntKind.i64 ((y : Int)), Value.int IntKind.i64 (0), Value.pointer none], Value.pointer (some ⟨q + 1, 0, none⟩), Value.tuple #[], Value.int IntKind.i64 ((N : Int)), Value.slice (some ⟨sb, 0, none⟩) N N, Value.slice (some ⟨sb, 0, none⟩) N N, Value.int IntKind.i64 ((y : Int)), Value.pointer (some ⟨sb, y, none⟩), Value.bool false, Value.bool true, Value.pointer (some ⟨p0, 0, none⟩), Value.func (Fn.yield ll) #[] #[], Value.pointer (some ⟨p0, 0, none⟩), Value.bool true, Value.bool false, fnV rcv ty, Value.pointer (some ⟨p0, 0, none⟩), Value.pointer (some ⟨p0, 0, none⟩), Value.pointer (some ⟨p0, 0, none⟩), Value.int IntKind.i64 (x.1), Value.func (Fn.func gf) #[] lb, Value.int IntKind.i64 (z), undef, undef, undef, undef, undef, undef, undef, undef, undef, undef, undef, undef, undef, undef, undef, undef, undef, undef, undef, undef, undef, undef, undef, undef, undef, undef, undef], []⟩) ?assign ?body ?done
    case hI =>
      refine own_of ?_ ?_
      · rintro pre A B ⟨L9, v9, ps9, h1, h2⟩ hb
        exact ⟨L9, v9, ps9, (HMB.out _ _ _ _ _ _ h1 hb).1, h2⟩
      · rintro pre A b o o' ⟨L9, v9, ps9, h1, h2⟩ hB ho hc
        exact ⟨L9, v9, ps9, HMO.out _ _ _ _ _ _ _ _ h1 hB ho hc, h2⟩
    case grow =>
      rintro pre A B ⟨L9, v9, ps9, h1, h2⟩ hb
      exact ⟨L9, v9, ps9, (HMB.out _ _ _ _ _ _ h1 hb).1, h2⟩
    case assign =>
      intro q9 z W9 K hK
      gi_wp2
      exact hK
    case body =>
      clear HM5 HP5 HPB HPC
      rintro q9 pre z W8 ⟨L9, v9, ps9, h8, hu8⟩ hpre
      have HP8 := Lib.hid h8
      have HU8 := Lib.hid hu8
      have HZM : Hid (z ∈ NB x.1 ∧ 0 ≤ z ∧ z < (N : Int)) := by
        have hm : z ∈ NB x.1 := by obtain ⟨r, hr⟩ := hpre; rw [← hr]; simp
        obtain ⟨n1, hn1⟩ := Int.eq_ofNat_of_zero_le HXR.out.1
        have := HXR.out.2.1
        exact ⟨hm, HIN.out n1 (by omega) z (by rw [← hn1]; exact hm)⟩
      obtain ⟨zn, hzn⟩ := Int.eq_ofNat_of_zero_le HZM.out.2.1
      subst hzn
      have hzl : zn < N := by have := HZM.out.2.2; omega
      obtain ⟨f1, f2, f3, f4, f5, f6, f7, f8⟩ := HMC.out _ _ _ _ _ h8
      have HF7 := Lib.hid f7
      have hsl := seen_at (N := N) (L := L9) hzl
      have cS := f6.cell zn (by rw [seen_len]; exact hzl)
      rw [hsl] at cS
      have HXB : Hid (x.2 < 1000) := by have := HXR.out.2.2.1; have := HHN.out; show _ < _; omega
      have fS : W8.frozen? ⟨sb, zn, none⟩ = false := f6.open_ zn
      have lS : sb < W8.heap.size := f6.lt
      clear hpre h8 hu8 hsl f6 f7 f8
      by_cases hm : (zn : Int) ∈ L9.map (·.1)
      · rw [decide_eq_true hm] at cS
        have HUS : Hid (PU (pre ++ [(zn : Int)]) L9) := by
          have h := HU8.out
          rw [HPU.out] at h ⊢
          obtain ⟨u1, u2, u3, u4⟩ := h
          refine ⟨u1, u2, u3, fun z hz => ?_⟩
          rcases List.mem_append.1 hz with hz | hz
          · exact u4 z hz
          · obtain rfl : z = (zn : Int) := by simpa using hz
            obtain ⟨⟨z', s'⟩, hp, hze⟩ := List.mem_map.1 hm
            simp only at hze
            subst hze
            exact ⟨s', hp, u1.near x u2 _ hp⟩
        have HRR := HMB.out _ _ _ _ _ _ HP8.out ((Below.refl _ W8).drew)
        clear hm fS lS
        gi_wp2
        refine region_det (by kernel_rfl) (I := fun listed a' w' => w' = W8.drew ∧ a' = ⟨#[Value.func (Fn.yield ll) #[] #[], Value.pointer (some ⟨Bs, 0, none⟩), Value.pointer (some ⟨Bc, 0, none⟩), Value.pointer (some ⟨Bn, 0, none⟩), Value.pointer (some ⟨Ba, 0, none⟩), undef, Value.pointer (some ⟨q, 0, none⟩), Value.pointer (some ⟨sb + 1, 0, none⟩), Value.pointer (some ⟨bt, 0, none⟩), Value.int IntKind.i64 ((zn : Int)), Value.int IntKind.i64 ((y : Int)), Value.agg #[Value.int IntKind.i64 ((y : Int)), Value.int IntKind.i64 (0), Value.pointer none], Value.pointer (some ⟨q + 1, 0, none⟩), Value.tuple #[], Value.int IntKind.i64 ((N : Int)), Value.slice (some ⟨sb, 0, none⟩) N N, Value.slice (some ⟨sb, 0, none⟩) N N, Value.int IntKind.i64 ((y : Int)), Value.pointer (some ⟨sb, y, none⟩), Value.bool false, Value.bool true, Value.pointer (some ⟨p0, 0, none⟩), Value.func (Fn.yield ll) #[] #[], Value.pointer (some ⟨p0, 0, none⟩), Value.bool true, Value.bool false, fnV rcv ty, Value.pointer (some ⟨p0, 0, none⟩), Value.pointer (some ⟨p0, 0, none⟩), Value.pointer (some ⟨p0, 0, none⟩), Value.int IntKind.i64 (x.1), Value.func (Fn.func gf) #[] lb, Value.int IntKind.i64 ((zn : Int)), (if listed.getD 0 false = true then Value.slice (some ⟨sb, 0, none⟩) N N else undef), (if listed.getD 1 false = true then Value.int IntKind.i64 ((zn : Int)) else undef), (if listed.getD 2 false = true then Value.pointer (some ⟨sb, zn, none⟩) else undef), (if listed.getD 3 false = true then Value.bool true else undef), (if listed.getD 4 false = true then Value.bool false else undef), (if listed.getD 5 false = true then Value.bool false else undef), (if listed.getD 6 false = true then undef else undef), (if listed.getD 7 false = true then undef else undef), (if listed.getD 8 false = true then undef else undef), (if listed.getD 9 false = true then undef else undef), (if listed.getD 10 false = true then undef else undef), (if listed.getD 11 false = true then undef else undef), (if listed.getD 12 false = true then undef else undef), (if listed.getD 13 false = true then Value.bool false else undef), undef, undef, undef, undef, undef, undef, undef, undef, undef, undef, undef, undef, undef], []⟩) (hup_check (by kernel_rfl)) ?h0 ?step ?fin
        case h0 => exact ⟨rfl, rfl⟩
        case step =>
          intro listed a' w' i hs hbi hdep hi ⟨IW, ha⟩
          obtain ⟨ls⟩ := listed
          match ls, hs with
          | [x0, x1, x2, x3, x4, x5, x6, x7, x8, x9, x10, x11, x12, x13], _ =>
          subst ha
          have hi' : i = 0 ∨ i = 1 ∨ i = 2 ∨ i = 3 ∨ i = 4 ∨ i = 5 ∨ i = 6 ∨ i = 7 ∨ i = 8 ∨ i = 9 ∨ i = 10 ∨ i = 11 ∨ i = 12 ∨ i = 13 := by simp at hi; omega
          subst IW
          rcases hi' with rfl | rfl | rfl | rfl | rfl | rfl | rfl | rfl | rfl | rfl | rfl | rfl | rfl | rfl
          · obtain rfl : x0 = false := by simpa using hbi
            refine wpOpR_plain (v := Value.slice (some ⟨sb, 0, none⟩) N N) (w' := W8.drew) rfl rfl (fun c hc => by cases hc) ?_ ?_
            · go_simp
            exact ⟨rfl, rfl⟩
          · obtain rfl : x1 = false := by simpa using hbi
            refine wpOpR_plain (v := Value.int IntKind.i64 ((zn : Int))) (w' := W8.drew) rfl rfl (fun c hc => by cases hc) ?_ ?_
            · go_simp
            exact ⟨rfl, rfl⟩
          · obtain rfl : x2 = false := by simpa using hbi
            obtain rfl : x0 = true := hdep _ rfl ⟨0, .data⟩ (by simp) rfl
            obtain rfl : x1 = true := hdep _ rfl ⟨1, .data⟩ (by simp) rfl
            refine wpOpR_plain (v := Value.pointer (some ⟨sb, zn, none⟩)) (w' := W8.drew) rfl rfl (fun c hc => by cases hc) ?_ ?_
            · go_simp
            exact ⟨rfl, rfl⟩
          · obtain rfl : x3 = false := by simpa using hbi
            obtain rfl : x2 = true := hdep _ rfl ⟨2, .data⟩ (by simp) rfl
            refine wpOpR_plain (v := Value.bool true) (w' := W8.drew) rfl rfl (fun c hc => by cases hc) ?_ ?_
            · go_simp
            exact ⟨rfl, rfl⟩
          · obtain rfl : x4 = false := by simpa using hbi
            obtain rfl : x3 = true := hdep _ rfl ⟨3, .data⟩ (by simp) rfl
            refine wpOpR_plain (v := Value.bool false) (w' := W8.drew) rfl rfl (fun c hc => by cases hc) ?_ ?_
            · go_simp
            exact ⟨rfl, rfl⟩
          · obtain rfl : x5 = false := by simpa using hbi
            obtain rfl : x4 = true := hdep _ rfl ⟨4, .data⟩ (by simp) rfl
            refine wpOpR_plain (v := Value.bool false) (w' := W8.drew) rfl rfl (fun c hc => by cases hc) ?_ ?_
            · go_simp
            exact ⟨rfl, rfl⟩
          · obtain rfl : x6 = false := by simpa using hbi
            obtain rfl : x5 = true := hdep _ rfl ⟨5, .guard⟩ (by simp) rfl
            refine wpOpR_off rfl rfl rfl ?_
            exact ⟨rfl, rfl⟩
          · obtain rfl : x7 = false := by simpa using hbi
            obtain rfl : x5 = true := hdep _ rfl ⟨5, .guard⟩ (by simp) rfl
            refine wpOpR_off rfl rfl rfl ?_
            exact ⟨rfl, rfl⟩
          · obtain rfl : x8 = false := by simpa using hbi
            obtain rfl : x5 = true := hdep _ rfl ⟨5, .guard⟩ (by simp) rfl
            refine wpOpR_off rfl rfl rfl ?_
            exact ⟨rfl, rfl⟩
          · obtain rfl : x9 = false := by simpa using hbi
            obtain rfl : x5 = true := hdep _ rfl ⟨5, .guard⟩ (by simp) rfl
            refine wpOpR_off rfl rfl rfl ?_
            exact ⟨rfl, rfl⟩
          · obtain rfl : x10 = false := by simpa using hbi
            obtain rfl : x5 = true := hdep _ rfl ⟨5, .guard⟩ (by simp) rfl
            refine wpOpR_off rfl rfl rfl ?_
            exact ⟨rfl, rfl⟩
          · obtain rfl : x11 = false := by simpa using hbi
            obtain rfl : x5 = true := hdep _ rfl ⟨5, .guard⟩ (by simp) rfl
            refine wpOpR_off rfl rfl rfl ?_
            exact ⟨rfl, rfl⟩
          · obtain rfl : x12 = false := by simpa using hbi
            obtain rfl : x5 = true := hdep _ rfl ⟨5, .guard⟩ (by simp) rfl
            refine wpOpR_off rfl rfl rfl ?_
            exact ⟨rfl, rfl⟩
          · obtain rfl : x13 = false := by simpa using hbi
            obtain rfl : x5 = true := hdep _ rfl ⟨5, .data⟩ (by simp) rfl
            refine wpOpR_plain (v := Value.bool false) (w' := W8.drew) rfl rfl (fun c hc => by cases hc) ?_ ?_
            · go_simp
            exact ⟨rfl, rfl⟩
        case fin =>
        intro listed a' W9 hs hall ⟨IW, ha⟩
        obtain ⟨ls⟩ := listed
        match ls, hs with
        | [x0, x1, x2, x3, x4, x5, x6, x7, x8, x9, x10, x11, x12, x13], _ =>
        obtain rfl : x0 = true := hall 0 (by simp)
        obtain rfl : x1 = true := hall 1 (by simp)
        obtain rfl : x2 = true := hall 2 (by simp)
        obtain rfl : x3 = true := hall 3 (by simp)
        obtain rfl : x4 = true := hall 4 (by simp)
        obtain rfl : x5 = true := hall 5 (by simp)
        obtain rfl : x6 = true := hall 6 (by simp)
        obtain rfl : x7 = true := hall 7 (by simp)
        obtain rfl : x8 = true := hall 8 (by simp)
        obtain rfl : x9 = true := hall 9 (by simp)
        obtain rfl : x10 = true := hall 10 (by simp)
        obtain rfl : x11 = true := hall 11 (by simp)
        obtain rfl : x12 = true := hall 12 (by simp)
        obtain rfl : x13 = true := hall 13 (by simp)
        subst ha
        subst IW
        gi_wp2
        exact ⟨HRR.2.2, HRR.2.1, L9, ⟨v9, ps9, HRR.1⟩, HUS.out⟩
      · rw [decide_eq_false hm] at cS
        have HUN : Hid (PU (pre ++ [(zn : Int)]) (L9 ++ [((zn : Int), x.2 + 1)])) := by
          have h := HU8.out
          rw [HPU.out] at h ⊢
          obtain ⟨u1, u2, u3, u4⟩ := h
          have hex : ext x.2 L9 (zn : Int) = L9 ++ [((zn : Int), x.2 + 1)] := by unfold ext; rw [if_neg hm]
          obtain ⟨e1, e2⟩ := u1.ext u2 HZM.out.1 HZM.out.2.1 HZM.out.2.2
          rw [hex] at e1 e2
          have htl := (List.getElem?_eq_some_iff.1 u2).1
          refine ⟨e1, by rw [List.getElem?_append_left htl]; exact u2, by rw [List.take_append_of_le_length htl]; exact u3, fun z hz => ?_⟩
          rcases List.mem_append.1 hz with hz | hz
          · obtain ⟨s', h1, h2⟩ := u4 z hz
            exact ⟨s', List.mem_append_left _ h1, h2⟩
          · obtain rfl : z = (zn : Int) := by simpa using hz
            exact e2
        have HLB : Hid (L9.length ≤ 100000) := by
          have h := HU8.out
          rw [HPU.out] at h
          have h1 := h.1.len
          have h2 := HHN.out
          show _ ≤ _
          omega
        have HRR := HMB.out _ _ _ _ _ _ HP8.out ((Below.refl _ W8).drew)
        clear hm
        gi_wp2
        refine region_det (by kernel_rfl) (I := fun listed a' w' => w' = W8.drew ∧ a' = ⟨#[Value.func (Fn.yield ll) #[] #[], Value.pointer (some ⟨Bs, 0, none⟩), Value.pointer (some ⟨Bc, 0, none⟩), Value.pointer (some ⟨Bn, 0, none⟩), Value.pointer (some ⟨Ba, 0, none⟩), undef, Value.pointer (some ⟨q, 0, none⟩), Value.pointer (some ⟨sb + 1, 0, none⟩), Value.pointer (some ⟨bt, 0, none⟩), Value.int IntKind.i64 ((zn : Int)), Value.int IntKind.i64 ((y : Int)), Value.agg #[Value.int IntKind.i64 ((y : Int)), Value.int IntKind.i64 (0), Value.pointer none], Value.pointer (some ⟨q + 1, 0, none⟩), Value.tuple #[], Value.int IntKind.i64 ((N : Int)), Value.slice (some ⟨sb, 0, none⟩) N N, Value.slice (some ⟨sb, 0, none⟩) N N, Value.int IntKind.i64 ((y : Int)), Value.pointer (some ⟨sb, y, none⟩), Value.bool false, Value.bool true, Value.pointer (some ⟨p0, 0, none⟩), Value.func (Fn.yield ll) #[] #[], Value.pointer (some ⟨p0, 0, none⟩), Value.bool true, Value.bool false, fnV rcv ty, Value.pointer (some ⟨p0, 0, none⟩), Value.pointer (some ⟨p0, 0, none⟩), Value.pointer (some ⟨p0, 0, none⟩), Value.int IntKind.i64 (x.1), Value.func (Fn.func gf) #[] lb, Value.int IntKind.i64 ((zn : Int)), (if listed.getD 0 false = true then Value.slice (some ⟨sb, 0, none⟩) N N else undef), (if listed.getD 1 false = true then Value.int IntKind.i64 ((zn : Int)) else undef), (if listed.getD 2 false = true then Value.pointer (some ⟨sb, zn, none⟩) else undef), (if listed.getD 3 false = true then Value.bool false else undef), (if listed.getD 4 false = true then Value.bool true else undef), (if listed.getD 5 false = true then Value.bool true else undef), (if listed.getD 6 false = true then Value.func (Fn.func 57) #[] #[] else undef), (if listed.getD 7 false = true then Value.pointer (some ⟨p0, 0, none⟩) else undef), (if listed.getD 8 false = true then Value.pointer (some ⟨p0, 0, none⟩) else undef), (if listed.getD 9 false = true then Value.pointer (some ⟨p0, 0, none⟩) else undef), (if listed.getD 10 false = true then Value.int IntKind.i64 (x.1) else undef), (if listed.getD 11 false = true then Value.int IntKind.i64 ((zn : Int)) else undef), (if listed.getD 12 false = true then Value.bool true else undef), (if listed.getD 13 false = true then Value.bool true else undef), undef, undef, undef, undef, undef, undef, undef, undef, undef, undef, undef, undef, undef], []⟩) (hup_check (by kernel_rfl)) ?h0 ?step ?fin
        case h0 => exact ⟨rfl, rfl⟩
        case step =>
          intro listed a' w' i hs hbi hdep hi ⟨IW, ha⟩
          obtain ⟨ls⟩ := listed
          match ls, hs with
          | [x0, x1, x2, x3, x4, x5, x6, x7, x8, x9, x10, x11, x12, x13], _ =>
          subst ha
          have hi' : i = 0 ∨ i = 1 ∨ i = 2 ∨ i = 3 ∨ i = 4 ∨ i = 5 ∨ i = 6 ∨ i = 7 ∨ i = 8 ∨ i = 9 ∨ i = 10 ∨ i = 11 ∨ i = 12 ∨ i = 13 := by simp at hi; omega
          subst IW
          rcases hi' with rfl | rfl | rfl | rfl | rfl | rfl | rfl | rfl | rfl | rfl | rfl | rfl | rfl | rfl
          · obtain rfl : x0 = false := by simpa using hbi
            refine wpOpR_plain (v := Value.slice (some ⟨sb, 0, none⟩) N N) (w' := W8.drew) rfl rfl (fun c hc => by cases hc) ?_ ?_
            · go_simp
            exact ⟨rfl, rfl⟩
          · obtain rfl : x1 = false := by simpa using hbi
            refine wpOpR_plain (v := Value.int IntKind.i64 ((zn : Int))) (w' := W8.drew) rfl rfl (fun c hc => by cases hc) ?_ ?_
            · go_simp
            exact ⟨rfl, rfl⟩
          · obtain rfl : x2 = false := by simpa using hbi
            obtain rfl : x0 = true := hdep _ rfl ⟨0, .data⟩ (by simp) rfl
            obtain rfl : x1 = true := hdep _ rfl ⟨1, .data⟩ (by simp) rfl
            refine wpOpR_plain (v := Value.pointer (some ⟨sb, zn, none⟩)) (w' := W8.drew) rfl rfl (fun c hc => by cases hc) ?_ ?_
            · go_simp
            exact ⟨rfl, rfl⟩
          · obtain rfl : x3 = false := by simpa using hbi
            obtain rfl : x2 = true := hdep _ rfl ⟨2, .data⟩ (by simp) rfl
            refine wpOpR_plain (v := Value.bool false) (w' := W8.drew) rfl rfl (fun c hc => by cases hc) ?_ ?_
            · go_simp
            exact ⟨rfl, rfl⟩
          · obtain rfl : x4 = false := by simpa using hbi
            obtain rfl : x3 = true := hdep _ rfl ⟨3, .data⟩ (by simp) rfl
            refine wpOpR_plain (v := Value.bool true) (w' := W8.drew) rfl rfl (fun c hc => by cases hc) ?_ ?_
            · go_simp
            exact ⟨rfl, rfl⟩
          · obtain rfl : x5 = false := by simpa using hbi
            obtain rfl : x4 = true := hdep _ rfl ⟨4, .data⟩ (by simp) rfl
            refine wpOpR_plain (v := Value.bool true) (w' := W8.drew) rfl rfl (fun c hc => by cases hc) ?_ ?_
            · go_simp
            exact ⟨rfl, rfl⟩
          · obtain rfl : x6 = false := by simpa using hbi
            obtain rfl : x5 = true := hdep _ rfl ⟨5, .guard⟩ (by simp) rfl
            refine wpOpR_guard (v := Value.func (Fn.func 57) #[] #[]) (w' := W8.drew) rfl rfl rfl (fun c hc => by cases hc) ?_ ?_
            · go_simp
            exact ⟨rfl, rfl⟩
          · obtain rfl : x7 = false := by simpa using hbi
            obtain rfl : x5 = true := hdep _ rfl ⟨5, .guard⟩ (by simp) rfl
            refine wpOpR_guard (v := Value.pointer (some ⟨p0, 0, none⟩)) (w' := W8.drew) rfl rfl rfl (fun c hc => by cases hc) ?_ ?_
            · go_simp
            exact ⟨rfl, rfl⟩
          · obtain rfl : x8 = false := by simpa using hbi
            obtain rfl : x7 = true := hdep _ rfl ⟨7, .data⟩ (by simp) rfl
            obtain rfl : x5 = true := hdep _ rfl ⟨5, .guard⟩ (by simp) rfl
            refine wpOpR_guard (v := Value.pointer (some ⟨p0, 0, none⟩)) (w' := W8.drew) rfl rfl rfl (fun c hc => by cases hc) ?_ ?_
            · go_simp
            exact ⟨rfl, rfl⟩
          · obtain rfl : x9 = false := by simpa using hbi
            obtain rfl : x8 = true := hdep _ rfl ⟨8, .data⟩ (by simp) rfl
            obtain rfl : x5 = true := hdep _ rfl ⟨5, .guard⟩ (by simp) rfl
            refine wpOpR_guard (v := Value.pointer (some ⟨p0, 0, none⟩)) (w' := W8.drew) rfl rfl rfl (fun c hc => by cases hc) ?_ ?_
            · go_simp
            exact ⟨rfl, rfl⟩
          · obtain rfl : x10 = false := by simpa using hbi
            obtain rfl : x9 = true := hdep _ rfl ⟨9, .data⟩ (by simp) rfl
            obtain rfl : x5 = true := hdep _ rfl ⟨5, .guard⟩ (by simp) rfl
            refine wpOpR_guard (v := Value.int IntKind.i64 (x.1)) (w' := W8.drew) rfl rfl rfl (fun c hc => by cases hc) ?_ ?_
            · go_simp
            exact ⟨rfl, rfl⟩
          · obtain rfl : x11 = false := by simpa using hbi
            obtain rfl : x5 = true := hdep _ rfl ⟨5, .guard⟩ (by simp) rfl
            refine wpOpR_guard (v := Value.int IntKind.i64 ((zn : Int))) (w' := W8.drew) rfl rfl rfl (fun c hc => by cases hc) ?_ ?_
            · go_simp
            exact ⟨rfl, rfl⟩
          · obtain rfl : x12 = false := by simpa using hbi
            obtain rfl : x6 = true := hdep _ rfl ⟨6, .data⟩ (by simp) rfl
            obtain rfl : x10 = true := hdep _ rfl ⟨10, .data⟩ (by simp) rfl
            obtain rfl : x11 = true := hdep _ rfl ⟨11, .data⟩ (by simp) rfl
            obtain rfl : x5 = true := hdep _ rfl ⟨5, .guard⟩ (by simp) rfl
            refine wpOpR_callg (args := #[Value.int IntKind.i64 (x.1), Value.int IntKind.i64 ((zn : Int))]) rfl rfl rfl (fun c hc => by cases hc) (sem_callV rfl rfl rfl rfl (enters_of Tryz.func57 (by kernel_rfl) rfl)) (anyStep_any _ _ _) ?_
            rintro e V ⟨rfl, rfl⟩
            exact ⟨_, rfl, rfl, rfl⟩
          · obtain rfl : x13 = false := by simpa using hbi
            obtain rfl : x5 = true := hdep _ rfl ⟨5, .data⟩ (by simp) rfl
            obtain rfl : x12 = true := hdep _ rfl ⟨12, .data⟩ (by simp) rfl
            refine wpOpR_plain (v := Value.bool true) (w' := W8.drew) rfl rfl (fun c hc => by cases hc) ?_ ?_
            · go_simp
            exact ⟨rfl, rfl⟩
        case fin =>
        intro listed a' W9 hs hall ⟨IW, ha⟩
        obtain ⟨ls⟩ := listed
        match ls, hs with
        | [x0, x1, x2, x3, x4, x5, x6, x7, x8, x9, x10, x11, x12, x13], _ =>
        obtain rfl : x0 = true := hall 0 (by simp)
        obtain rfl : x1 = true := hall 1 (by simp)
        obtain rfl : x2 = true := hall 2 (by simp)
        obtain rfl : x3 = true := hall 3 (by simp)
        obtain rfl : x4 = true := hall 4 (by simp)
        obtain rfl : x5 = true := hall 5 (by simp)
        obtain rfl : x6 = true := hall 6 (by simp)
        obtain rfl : x7 = true := hall 7 (by simp)
        obtain rfl : x8 = true := hall 8 (by simp)
        obtain rfl : x9 = true := hall 9 (by simp)
        obtain rfl : x10 = true := hall 10 (by simp)
        obtain rfl : x11 = true := hall 11 (by simp)
        obtain rfl : x12 = true := hall 12 (by simp)
        obtain rfl : x13 = true := hall 13 (by simp)
        subst ha
        subst IW
        have cS2 := cS
        gi_wp2
        have HRM := HMM.out _ _ _ _ _ zn HP8.out
        have HRD := HMB.out _ _ _ _ _ _ HRM.1 ((Below.refl _ (W8.setCell ⟨sb, zn, none⟩ (.bool true))).drew)
        have hka : KeepsFrom w5.heap.size W8 (W8.setCell ⟨sb, zn, none⟩ (.bool true)).drew := HRM.2.2.trans HRD.2.2
        have hna : ∀ b ∈ Nd, (W8.setCell ⟨sb, zn, none⟩ (.bool true)).drew.heap[b]? = W8.heap[b]? := fun b hb => (HRD.2.1 b hb).trans (HRM.2.1 b hb)
        have HKA := Lib.hid (And.intro hka hna)
        have HPA : Hid (PM ((seenL N L9).set zn true) L9 v9 ps9 (W8.setCell ⟨sb, zn, none⟩ (.bool true)).drew) := HRD.1
        have HES := Lib.hid (fun W => i64_add (x.2 : Int) 1 (by have := HXB.out; omega) (by have := HXB.out; omega) W)
        clear HRM HRD HRR hka hna cS cS2 fS lS f1 f2 f3 f4 f5
        generalize (W8.setCell ⟨sb, zn, none⟩ (.bool true)).drew = WA at *
        refine region_det (by kernel_rfl) (I := fun listed a' w' => ∃ pb : Nat, Hid ((listed.getD 9 false = false → PM ((seenL N L9).set zn true) L9 v9 ps9 w') ∧ (listed.getD 9 false = true → ∃ v2 ps2, PM ((seenL N L9).set zn true) (L9 ++ [((zn : Int), x.2 + 1)]) v2 ps2 w') ∧ (∀ b ∈ Nd, w'.heap[b]? = WA.heap[b]?) ∧ KeepsFrom w5.heap.size WA w') ∧ Hid (listed.getD 8 false = true → listed.getD 9 false = false → w'.heap[pb]? = some (.cells #[.int .i64 (zn : Int), .int .i64 ((x.2 : Int) + 1), .pointer (some ⟨p0, 0, none⟩)] 160 (0, 0)) ∧ q ≤ pb) ∧ a' = ⟨#[Value.func (Fn.yield ll) #[] #[], Value.pointer (some ⟨Bs, 0, none⟩), Value.pointer (some ⟨Bc, 0, none⟩), Value.pointer (some ⟨Bn, 0, none⟩), Value.pointer (some ⟨Ba, 0, none⟩), undef, Value.pointer (some ⟨q, 0, none⟩), Value.pointer (some ⟨sb + 1, 0, none⟩), Value.pointer (some ⟨bt, 0, none⟩), Value.int IntKind.i64 ((zn : Int)), Value.int IntKind.i64 ((y : Int)), Value.agg #[Value.int IntKind.i64 ((y : Int)), Value.int IntKind.i64 (0), Value.pointer none], Value.pointer (some ⟨q + 1, 0, none⟩), Value.tuple #[], Value.int IntKind.i64 ((N : Int)), Value.slice (some ⟨sb, 0, none⟩) N N, Value.slice (some ⟨sb, 0, none⟩) N N, Value.int IntKind.i64 ((y : Int)), Value.pointer (some ⟨sb, y, none⟩), Value.bool false, Value.bool true, Value.pointer (some ⟨p0, 0, none⟩), Value.func (Fn.yield ll) #[] #[], Value.pointer (some ⟨p0, 0, none⟩), Value.bool true, Value.bool false, fnV rcv ty, Value.pointer (some ⟨p0, 0, none⟩), Value.pointer (some ⟨p0, 0, none⟩), Value.pointer (some ⟨p0, 0, none⟩), Value.int IntKind.i64 (x.1), Value.func (Fn.func gf) #[] lb, Value.int IntKind.i64 ((zn : Int)), Value.slice (some ⟨sb, 0, none⟩) N N, Value.int IntKind.i64 ((zn : Int)), Value.pointer (some ⟨sb, zn, none⟩), Value.bool false, Value.bool true, Value.bool true, Value.func (Fn.func 57) #[] #[], Value.pointer (some ⟨p0, 0, none⟩), Value.pointer (some ⟨p0, 0, none⟩), Value.pointer (some ⟨p0, 0, none⟩), Value.int IntKind.i64 (x.1), Value.int IntKind.i64 ((zn : Int)), Value.bool true, Value.bool true, Value.slice (some ⟨sb, 0, none⟩) N N, Value.int IntKind.i64 ((zn : Int)), Value.pointer (some ⟨sb, zn, none⟩), (if listed.getD 0 false = true then Value.int IntKind.i64 ((zn : Int)) else undef), (if listed.getD 1 false = true then Value.pointer (some ⟨p0, 0, none⟩) else undef), (if listed.getD 2 false = true then Value.pointer (some ⟨p0, 0, none⟩) else undef), (if listed.getD 3 false = true then Value.pointer (some ⟨p0, 1, none⟩) else undef), (if listed.getD 4 false = true then Value.int IntKind.i64 ((x.2 : Int)) else undef), (if listed.getD 5 false = true then Value.int IntKind.i64 ((x.2 : Int) + 1) else undef), (if listed.getD 6 false = true then Value.pointer (some ⟨p0, 0, none⟩) else undef), (if listed.getD 7 false = true then Value.agg #[.int .i64 (zn : Int), .int .i64 ((x.2 : Int) + 1), .pointer (some ⟨p0, 0, none⟩)] else undef), (if listed.getD 8 false = true then Value.pointer (some ⟨pb, 0, none⟩) else undef), (if listed.getD 9 false = true then Value.tuple #[] else undef)], []⟩) (hup_check (by kernel_rfl)) ?h0 ?step ?fin
        case h0 => exact ⟨0, ⟨fun _ => (HMB.out _ _ _ _ _ _ HPA.out ((Below.refl _ WA).drew)).1, fun h => (by simp at h), fun b hb => rfl, KeepsOthers.from (KeepsOthers.drew WA) _⟩, (fun h => by simp at h), rfl⟩
        case step =>
          intro listed a' w' i hs hbi hdep hi ⟨pb, IP, IB, ha⟩
          obtain ⟨ls⟩ := listed
          match ls, hs with
          | [x0, x1, x2, x3, x4, x5, x6, x7, x8, x9], _ =>
          subst ha
          have hi' : i = 0 ∨ i = 1 ∨ i = 2 ∨ i = 3 ∨ i = 4 ∨ i = 5 ∨ i = 6 ∨ i = 7 ∨ i = 8 ∨ i = 9 := by simp at hi; omega
          have hcf : w'.cell? ⟨bt, 0, none⟩ = some (.pointer (some ⟨p0, 0, none⟩)) ∧ w'.cell? ⟨p0, 1, none⟩ = some (.int .i64 (x.2 : Int)) := by
            cases x9 with
            | false => have h := HMC.out _ _ _ _ _ (IP.out.1 rfl); exact ⟨h.1, h.2.2.1⟩
            | true => obtain ⟨v2, ps2, h9⟩ := IP.out.2.1 rfl; have h := HMC.out _ _ _ _ _ h9; exact ⟨h.1, h.2.2.1⟩
          obtain ⟨hc0, hc1⟩ := hcf
          rcases hi' with rfl | rfl | rfl | rfl | rfl | rfl | rfl | rfl | rfl | rfl
          · obtain rfl : x0 = false := by simpa using hbi
            refine wpOpR_plain (v := Value.int IntKind.i64 ((zn : Int))) (w' := w') rfl rfl (fun c hc => by cases hc) ?_ ?_
            · go_simp
            exact ⟨pb, IP, IB, rfl⟩
          · obtain rfl : x1 = false := by simpa using hbi
            refine wpOpR_plain (v := Value.pointer (some ⟨p0, 0, none⟩)) (w' := w') rfl rfl (fun c hc => by cases hc) ?_ ?_
            · go_simp
            exact ⟨pb, IP, IB, rfl⟩
          · obtain rfl : x2 = false := by simpa using hbi
            obtain rfl : x1 = true := hdep _ rfl ⟨1, .data⟩ (by simp) rfl
            refine wpOpR_plain (v := Value.pointer (some ⟨p0, 0, none⟩)) (w' := w') rfl rfl (fun c hc => by cases hc) ?_ ?_
            · go_simp
            exact ⟨pb, IP, IB, rfl⟩
          · obtain rfl : x3 = false := by simpa using hbi
            obtain rfl : x2 = true := hdep _ rfl ⟨2, .data⟩ (by simp) rfl
            refine wpOpR_plain (v := Value.pointer (some ⟨p0, 1, none⟩)) (w' := w') rfl rfl (fun c hc => by cases hc) ?_ ?_
            · go_simp
            exact ⟨pb, IP, IB, rfl⟩
          · obtain rfl : x4 = false := by simpa using hbi
            obtain rfl : x3 = true := hdep _ rfl ⟨3, .data⟩ (by simp) rfl
            refine wpOpR_plain (v := Value.int IntKind.i64 ((x.2 : Int))) (w' := w') rfl rfl (fun c hc => by cases hc) ?_ ?_
            · go_simp
            exact ⟨pb, IP, IB, rfl⟩
          · obtain rfl : x5 = false := by simpa using hbi
            obtain rfl : x4 = true := hdep _ rfl ⟨4, .data⟩ (by simp) rfl
            refine wpOpR_plain (v := Value.int IntKind.i64 ((x.2 : Int) + 1)) (w' := w') rfl rfl (fun c hc => by cases hc) (sem_bin (vx := Value.int IntKind.i64 ((x.2 : Int))) (vy := Value.int IntKind.i64 (1)) rfl rfl rfl rfl (HES.out w')) ?_
            exact ⟨pb, IP, IB, rfl⟩
          · obtain rfl : x6 = false := by simpa using hbi
            refine wpOpR_plain (v := Value.pointer (some ⟨p0, 0, none⟩)) (w' := w') rfl rfl (fun c hc => by cases hc) ?_ ?_
            · go_simp
            exact ⟨pb, IP, IB, rfl⟩
          · obtain rfl : x7 = false := by simpa using hbi
            obtain rfl : x0 = true := hdep _ rfl ⟨0, .data⟩ (by simp) rfl
            obtain rfl : x5 = true := hdep _ rfl ⟨5, .data⟩ (by simp) rfl
            obtain rfl : x6 = true := hdep _ rfl ⟨6, .data⟩ (by simp) rfl
            refine wpOpR_plain (v := Value.agg #[.int .i64 (zn : Int), .int .i64 ((x.2 : Int) + 1), .pointer (some ⟨p0, 0, none⟩)]) (w' := w') rfl rfl (fun c hc => by cases hc) ?_ ?_
            · go_simp
            exact ⟨pb, IP, IB, rfl⟩
          · obtain rfl : x8 = false := by simpa using hbi
            obtain rfl : x7 = true := hdep _ rfl ⟨7, .data⟩ (by simp) rfl
            have hb9 : Below w'.heap.size w' (w'.alloc (.cells #[.int .i64 (zn : Int), .int .i64 ((x.2 : Int) + 1), .pointer (some ⟨p0, 0, none⟩)] 160)) := (Below.refl _ _).alloc (Nat.le_refl _) _
            refine wpOpR_plain (v := Value.pointer (some ⟨w'.heap.size, 0, none⟩)) (w' := w'.alloc (.cells #[.int .i64 (zn : Int), .int .i64 ((x.2 : Int) + 1), .pointer (some ⟨p0, 0, none⟩)] 160)) rfl rfl (fun c hc => by cases hc) ?_ ?_
            · go_simp
            exact ⟨w'.heap.size, (by obtain ⟨p1, p2, p3, p4⟩ := IP.out; exact ⟨fun h => (HMB.out _ _ _ _ _ _ (p1 h) hb9).1, fun h => (by obtain ⟨v2, ps2, h9⟩ := p2 h; exact ⟨v2, ps2, (HMB.out _ _ _ _ _ _ h9 hb9).1⟩), fun b hb => ((by cases x9 with
              | false => exact (HMB.out _ _ _ _ _ _ (p1 rfl) hb9).2.1 b hb
              | true => obtain ⟨v2, ps2, h9⟩ := p2 rfl; exact (HMB.out _ _ _ _ _ _ h9 hb9).2.1 b hb) : (w'.alloc (.cells #[.int .i64 (zn : Int), .int .i64 ((x.2 : Int) + 1), .pointer (some ⟨p0, 0, none⟩)] 160)).heap[b]? = w'.heap[b]?).trans (p3 b hb), p4.trans ⟨hb9.size, fun k o _ ho _ => heapB hb9 ho⟩⟩), (fun _ h9 => ⟨heap_alloc_new w' _, (HMC.out _ _ _ _ _ (IP.out.1 h9)).2.2.2.2.2.2.2⟩), rfl⟩
          · obtain rfl : x9 = false := by simpa using hbi
            obtain rfl : x8 = true := hdep _ rfl ⟨8, .data⟩ (by simp) rfl
            have hcp := IB.out rfl rfl
            have hpm := IP.out.1 rfl
            have hpt := put_any (a := (zn : Int)) (s := x.2 + 1) (HMC.out _ _ _ _ _ hpm).2.2.2.2.2.2.1 HLB.out (HMC.out _ _ _ _ _ hpm).2.2.2.2.2.2.2 (by rw [Int.natCast_add]; exact hcp.1) hcp.2
            unfold ptrV at hpt
            refine wpOpR_call (args := #[Value.pointer (some ⟨q, 0, none⟩), Value.pointer (some ⟨pb, 0, none⟩)]) rfl rfl (fun c hc => by cases hc) (sem_call2 rfl rfl rfl (enters_of Tryz.func121 (by kernel_rfl) rfl)) hpt ?_
            rintro e V ⟨rfl, v2, hsq, hko⟩
            have hr9 := HMK.out _ _ _ _ _ _ _ _ _ hpm hsq hko
            exact ⟨_, rfl, pb, ⟨fun h => (by cases h), fun _ => ⟨_, _, hr9.1⟩, fun b hb => (hr9.2.1 b hb).trans (IP.out.2.2.1 b hb), IP.out.2.2.2.trans hr9.2.2⟩, (fun _ h => by cases h), rfl⟩
        case fin =>
        intro listed a' W11 hs hall ⟨pb, IP, IB, ha⟩
        obtain ⟨ls⟩ := listed
        match ls, hs with
        | [x0, x1, x2, x3, x4, x5, x6, x7, x8, x9], _ =>
        obtain rfl : x0 = true := hall 0 (by simp)
        obtain rfl : x1 = true := hall 1 (by simp)
        obtain rfl : x2 = true := hall 2 (by simp)
        obtain rfl : x3 = true := hall 3 (by simp)
        obtain rfl : x4 = true := hall 4 (by simp)
        obtain rfl : x5 = true := hall 5 (by simp)
        obtain rfl : x6 = true := hall 6 (by simp)
        obtain rfl : x7 = true := hall 7 (by simp)
        obtain rfl : x8 = true := hall 8 (by simp)
        obtain rfl : x9 = true := hall 9 (by simp)
        subst ha
        obtain ⟨_, hfin, hnd, hkp⟩ := IP.out
        obtain ⟨v2, ps2, hpm2⟩ := hfin rfl
        clear IP IB hs hall
        rw [seen_set zn (x.2 + 1)] at hpm2
        have HFI := Lib.hid hpm2
        have HKP := Lib.hid (And.intro hnd hkp)
        clear hpm2 hfin hnd hkp
        gi_wp2
        exact ⟨HKA.out.1.trans HKP.out.2, fun b hb => (HKP.out.1 b hb).trans (HKA.out.2 b hb), _, ⟨v2, ps2, HFI.out⟩, HUN.out⟩
    case done =>
      rintro D W9 hD ⟨L9, v9, ps9, h1, h2⟩ hK
      have HI9 : Hid (St q q sb lo w [(sb + 1, .cells #[.slice (some ⟨sb, 0, none⟩) N N] 49 (0, 0)), (Bs, .cells #[.int .i64 (y : Int)] 3 (0, 0)), (Bc, .cells #[.int .i64 (N : Int)] 3 (0, 0)), (Bn, .cells #[fnV rcv ty] 110 (0, 0)), (Ba, .cells #[.func (.func 57) #[] #[]] 113 (0, 0))] (seenL N L9) L9 (t + 1) v9 ps9 W9 ∧ J (L9.take (t + 1)) W9 ∧ Marks q (D :: Ds) W9 ∧ BInv NB N (y : Int) L9 (t + 1)) := by
        rw [HPM.out] at h1
        rw [HPU.out] at h2
        obtain ⟨i1, i2, i3, i4, i5⟩ := h1
        obtain ⟨u1, u2, u3, u4⟩ := h2
        obtain ⟨k1, k2, k3⟩ := HQB.out
        refine ⟨i1.drop, by rw [u3]; exact i2, ⟨fun E hE => ?_, List.nodup_cons.2 ⟨fun hE => ?_, i3.nodup⟩⟩, u1.next u2 u4⟩
        · rcases List.mem_cons.1 hE with rfl | hE
          · exact ⟨by omega, hK⟩
          · exact i3.open_ E hE
        · have := k2 D hE; omega
      have HME : Hid (N + 1 - cellN W9 q < N + 1 - cellN wr q) := by
        have h3 := cellN_at HI9.out.1.sq
        have h4 := HM.out
        have h5 := HLL.out
        have h6 := HLN.out
        show _ < _
        omega
      clear h1 h2 hK HM5 HP5 HPB HPC HMB HMO HMM HMK HMC
      gi_wp2
      exact ⟨⟨L9, t + 1, v9, ps9, D :: Ds, _, _, _, _, _, _, _, _, _, _, _, _, _, _,  HI9, rfl⟩, HME.out⟩
  · have hte : t = L.length := by have := HI.out.2.2.2.le; omega
    have HEM := Lib.hid (empty_any HI.out.1.sq)
    have d1 : ((t : Int) == (L.length : Int)) = true := by simp [hte]
    gi_wp2
    refine ⟨trivial, callsIn_wide.2 (HEM.out.mono ?_)⟩
    rintro e w2 ⟨rfl, hb2⟩
    have HI2 : Hid (J L w2 ∧ Marks q Ds w2 ∧ BInv NB N (y : Int) L L.length) := by
      obtain ⟨i1, i2, i3, i4⟩ := HI.out
      refine ⟨?_, i3.grown hb2, by rw [← hte]; exact i4⟩
      have h := HG2.out _ _ _ i2 (hb2.mono i1.nz)
      rwa [hte, List.take_length] at h
    clear HEM hb2 HI hlt hte
    gi_wp2
    refine leaves_marksP (B := q) (fun X => J L X) (fun X b o o' h hB ho hc => HG2.out _ _ _ h ⟨rfl, rfl, rfl, by simp [World.putObj], fun k hk => World.putObj_heap_other (by omega)⟩) Ds _ HI2.out.2.1 HI2.out.1 (fun w' hw => ?_)
    refine ⟨.tuple #[], ?_, ⟨_, rfl⟩, L, HI2.out.2.2, hw⟩
    simp [results, Tryz.results120, go_sem]
end Go.Proofs.YtbhkenphcahifaaGreat

namespace Go.Proofs.YtbhkenphcahifaaGreat
open Go.RowKit Go.Shelf
attribute [local go_sem] Oper.semAt_some
set_option maxRecDepth 100000
set_option maxHeartbeats 4000000

theorem Kt.trans {lo ob : Nat} {A B C : World} (h : Kt lo ob A B) (k : Kt lo ob B C) : Kt lo ob A C := ⟨h.1.trans k.1, fun b o h1 h2 h3 => k.2 b o h1 (h.2 b o h1 h2 h3) h3⟩
theorem Kt.putObj {lo ob : Nat} (W : World) (l : Nat) (o o' : Obj) (hl : lo ≤ l) (ho : W.heap[l]? = some o) (hc : o.isCells = false) : Kt lo ob W (W.putObj l o') :=
  ⟨⟨rfl, rfl, rfl, by simp [World.putObj], fun k hk => World.putObj_heap_other (by omega)⟩, fun b ob2 _ h1 h2 => (World.putObj_heap_other (by rintro rfl; rw [ho] at h1; cases h1; rw [hc] at h2; cases h2)).trans h1⟩
/-- a range over a search, by a body that never leaves -/
theorem range_t {n : Nat} {g : Operand} {ps : Array Tmp} {assign body : Code} {Q : Exit → Act → World → Prop} {a : Act} {w : World} (h1 : 1 ≤ n) {lb : Array Value}
    (hg : a.eval g = .func (.func 120) #[] lb) {NB : Int → List Int} {N : Nat} {y : Int} {lo ob : Nat}
    (hseq : SeqT (n - 1) 120 lb NB N y lo ob w) (hlo : lo ≤ w.heap.size) (hps : ps.size = 1)
    (I : List (Int × Nat) → World → Prop) (hI : OwnFrom w.heap.size I) (hIg : ∀ pre V V2, I pre V → Below w.heap.size V V2 → I pre V2) (h0 : I [] w) (a₁ : Nat → Act)
    (hassign : ∀ (l p : Nat) (W : World) (K : Act → World → Prop), K (a₁ p) W → assign.wpIn (Fence.wide.inRound l) (n - 1 - 1) Tryz.prog (Exit.then K (fun _ _ _ => False)) { tmps := (ps.zip #[ptrV p]).foldl (fun t (p, v) => t.setIfInBounds p v) a.tmps, defers := [] } W)
    (hbody : ∀ (l : Nat) (pre : List (Int × Nat)) (x : Int × Nat) (p : Nat) (bv : Value) (W : World), I pre W → 0 ≤ x.1 → x.1 < (N : Int) → x.2 < N → x.1 ∉ pre.map (·.1) → W.heap[p]? = some (.cells #[.int .i64 x.1, .int .i64 (x.2 : Int), bv] 160 (0, 0)) → p ≠ ob →
      body.wpIn (Fence.wide.inRound l) (n - 1 - 1) Tryz.prog (ownPostG w.heap.size (Kt lo ob) I (fun _ _ _ => False) (pre ++ [x]) W) (a₁ p) W)
    (hdone : ∀ (D : Nat) (L : List (Int × Nat)) (W : World), w.heap.size ≤ D → BInv NB N y L L.length → I L W → W.heap[D]? = some (.deferred (some [])) → Q .normal { a with defers := { target := .collected D, args := #[] } :: a.defers } W) :
    (Code.rangeFunc g ps assign body).wpIn Fence.wide n Tryz.prog Q a w := by
  have eg : ∀ args w, (callFunc 120 args).run Tryz.prog w = .ok (.enter 120 args) w := enters_of Tryz.func120 (by kernel_rfl) rfl
  refine wpIn_rangeFunc ?_
  intro fn hfn
  rw [show Fence.wide.round = none from rfl]
  let rc : LoopState → Option Code → Loop := fun st pe => { state := st, pending := pe, fn, tmps := a.tmps, params := ps, assign, body, defers := w.heap.size }
  obtain ⟨W1, hW1⟩ : ∃ W1, (w.alloc (.deferred (some []))).alloc (.loop (rc .ready none)) = W1 := ⟨_, rfl⟩
  have hb1 : Below w.heap.size w W1 := by
    rw [← hW1]; exact ((Below.refl _ w).alloc (Nat.le_refl _) _).alloc (by simp) _
  have hl1 : W1.heap[w.heap.size + 1]? = some (.loop (rc .ready none)) := by
    rw [← hW1]; have := World.alloc_heap_new (w.alloc (.deferred (some []))) (.loop (rc .ready none)); rwa [World.size_alloc] at this
  have hk1 : W1.heap[w.heap.size]? = some (.deferred (some [])) := by
    rw [← hW1]; exact (Below.heap_alloc _ _ _ (by simp)).trans (World.alloc_heap_new w _)
  have hi1 : I [] W1 := hIg _ _ _ h0 hb1
  have hz1 : W1.heap.size = w.heap.size + 2 := by rw [← hW1]; simp
  refine ⟨w.heap.size + 1, [{ target := .collected w.heap.size, args := #[] }], W1, { target := .fn (.func 120) lb, args := #[.func (.yield (w.heap.size + 1)) #[] #[]] }, W1, 120,
    #[.func (.yield (w.heap.size + 1)) #[] #[]] ++ lb, W1, ?_, ?_, ?_, ?_, fun _ => h1, ?_⟩
  · rw [← hW1]; exact run_enterLoop_outer _ _ _ _ _
  · simp only [resolve, hg]
    simp [go_sem]
  · intro f' hf'; trivial
  · simp [invoke, go_sem, eg]
  · refine (hseq (w.heap.size + 1) (fun pre W => I pre W ∧ W.heap[w.heap.size + 1]? = some (.loop (rc .ready none)) ∧ W.heap[w.heap.size]? = some (.deferred (some []))) W1 hb1 ?_ ?_ ⟨hi1, hl1, hk1⟩).mono ?_
    · rintro pre V V2 ⟨hi, hl, hk⟩ hb
      exact ⟨hIg pre V V2 hi (hb.mono (by omega)), (hb.block _ (by omega)).trans hl, (hb.block _ (by omega)).trans hk⟩
    · rintro pre x p bv W ⟨hi, hl, hk⟩ x0 x1 x2 x3 x4 x5
      have hlt : w.heap.size + 1 < W.heap.size := (Array.getElem?_eq_some_iff.1 hl).1
      refine ⟨fn, _, assign, body, run_yield (P := Tryz.prog) (args := #[ptrV p]) hl (by simp [rc, hps]), roundIn_of_wpIn hfn (hassign _ p W _ ?_)⟩
      refine ⟨_, run_beginRound hl rfl, ?_⟩
      have hl2 := World.putObj_heap_same (w := W) (o := .loop { rc .ready none with state := .busy }) hlt
      have hk2 : (W.putObj (w.heap.size + 1) (.loop { rc .ready none with state := .busy })).heap[w.heap.size]? = some (.deferred (some [])) := (World.putObj_heap_other (by omega)).trans hk
      have hx2 : (W.putObj (w.heap.size + 1) (.loop { rc .ready none with state := .busy })).heap[p]? = some (.cells #[.int .i64 x.1, .int .i64 (x.2 : Int), bv] 160 (0, 0)) := (World.putObj_heap_other (by rintro rfl; rw [hl] at x4; cases x4)).trans x4
      refine wpIn_mono (hbody (w.heap.size + 1) pre x p bv _ (hI.putObj _ hi (by omega) hl rfl) x0 x1 x2 x3 hx2 x5) ?_
      rintro e a3 W3 hp
      cases e with
      | normal =>
        obtain ⟨hk3, hkp3, hi3⟩ := hp
        have hl3 := hk3.same _ _ (by omega) hl2 rfl
        have hk4 := hk3.same _ _ (Nat.le_refl _) hk2 rfl
        have hkf : ∀ (U : World) (o' : Obj), w.heap.size + 1 < U.heap.size → KeepsFrom W1.heap.size U (U.putObj (w.heap.size + 1) o') := fun U o' hv => ⟨by simp [World.putObj], fun k o hk ho _ => (World.putObj_heap_other (by omega)).trans ho⟩
        have hk5 : KeepsFrom W1.heap.size (W.putObj (w.heap.size + 1) (.loop { rc .ready none with state := .busy })) W3 := ⟨hk3.size, fun k o hk ho hc => hk3.same k o (by omega) ho hc⟩
        exact ⟨_, _, run_endRound (P := Tryz.prog) none hl3, rfl, ⟨hI.putObj _ hi3 (by omega) hl3 rfl, World.putObj_heap_same (Array.getElem?_eq_some_iff.1 hl3).1, (World.putObj_heap_other (by omega)).trans hk4⟩, (Kt.putObj _ _ _ _ (by omega) hl rfl).trans (hkp3.trans (Kt.putObj _ _ _ _ (by omega) hl3 rfl)), ((hkf W _ hlt).trans hk5).trans (hkf W3 _ (Array.getElem?_eq_some_iff.1 hl3).1)⟩
      | ret => exact hp.2.elim
      | exit id => exact hp.2.elim
      | goto t => exact hp.2.elim
      | panic ch => exact hp.elim
      | outgrown => exact hp.elim
    · rintro e W2 ⟨⟨v, rfl⟩, L, hbi, hi, hl, hk⟩
      exact ⟨none, _, run_endLoop (P := Tryz.prog) hl (by simp), hdone _ L _ (Nat.le_refl _) hbi (hI.putObj _ hi (by omega) hl rfl) ((World.putObj_heap_other (by omega)).trans hk)⟩
/-- search makes such a function -/
theorem search_any {w : World} {lo ty fs fn : Nat} {rcv : Value} {N : Nat} {ho : Int} {NB : Int → List Int} (hlo : lo ≤ w.heap.size) (hN : N ≤ 1000) (h : NetK w lo ty fs fn rcv N ho NB) (hin : ∀ (x : Nat), x < N → ∀ z ∈ NB (x : Int), 0 ≤ z ∧ z < (N : Int)) {y : Nat} (hy : y < N) :
    Calls Tryz.prog 99 #[.int .i64 (N : Int), .int .i64 (y : Int), fnV rcv ty, .func (.func 57) #[] #[]] w fun e w' => ∃ lb, e = .returned (.func (.func 120) #[] lb) ∧ Below w.heap.size w w' ∧ ∀ n ob, ob < w.heap.size → SeqT n 120 lb NB N (y : Int) lo ob w' := by
  obtain ⟨X, hX⟩ : ∃ X, X = (((w.alloc (.cells #[.int .i64 (N : Int)] 3)).alloc (.cells #[.int .i64 (y : Int)] 3)).alloc (.cells #[fnV rcv ty] 110)).alloc (.cells #[.func (.func 57) #[] #[]] 113) := ⟨_, rfl⟩
  have hb : Below w.heap.size w X := by
    rw [hX]
    exact ((((Below.refl _ w).alloc (Nat.le_refl _) _).alloc (by simp) _).alloc (by simp; omega) _).alloc (by simp; omega) _
  have q0 : X.heap[w.heap.size]? = some (.cells #[.int .i64 (N : Int)] 3 (0, 0)) := by
    rw [hX, Below.heap_alloc _ _ _ (by simp; omega), Below.heap_alloc _ _ _ (by simp; omega), Below.heap_alloc _ _ _ (by simp)]; exact heap_alloc_new _ _
  have q1 : X.heap[w.heap.size + 1]? = some (.cells #[.int .i64 (y : Int)] 3 (0, 0)) := by
    rw [hX, Below.heap_alloc _ _ _ (by simp <;> omega), Below.heap_alloc _ _ _ (by simp)]
    have := heap_alloc_new (w.alloc (.cells #[.int .i64 (N : Int)] 3)) (.cells #[.int .i64 (y : Int)] 3)
    rwa [World.size_alloc] at this
  have q2 : X.heap[w.heap.size + 2]? = some (.cells #[fnV rcv ty] 110 (0, 0)) := by
    rw [hX, Below.heap_alloc _ _ _ (by simp)]
    have := heap_alloc_new ((w.alloc (.cells #[.int .i64 (N : Int)] 3)).alloc (.cells #[.int .i64 (y : Int)] 3)) (.cells #[fnV rcv ty] 110)
    rwa [World.size_alloc, World.size_alloc] at this
  have q3 : X.heap[w.heap.size + 3]? = some (.cells #[.func (.func 57) #[] #[]] 113 (0, 0)) := by
    rw [hX]
    have := heap_alloc_new (((w.alloc (.cells #[.int .i64 (N : Int)] 3)).alloc (.cells #[.int .i64 (y : Int)] 3)).alloc (.cells #[fnV rcv ty] 110)) (.cells #[.func (.func 57) #[] #[]] 113)
    rwa [World.size_alloc, World.size_alloc, World.size_alloc] at this
  have h2 := h.later (hb.mono hlo)
  have HR : Hid (Below w.heap.size w X ∧ ∀ n ob, ob < w.heap.size → SeqT n 120 #[.pointer (some ⟨w.heap.size + 1, 0, none⟩), .pointer (some ⟨w.heap.size, 0, none⟩), .pointer (some ⟨w.heap.size + 2, 0, none⟩), .pointer (some ⟨w.heap.size + 3, 0, none⟩)] NB N (y : Int) lo ob X) :=
    ⟨hb, fun n ob hob => searchIter _ _ _ _ rcv ty fn N y NB lo ob (Nat.le_trans hlo hb.size) hN (Nat.lt_of_lt_of_le hob hb.size) hy h2.mn h2.en h2.nb hin q1 q0 q2 q3 (by omega) (by omega) (by omega) (by omega) n⟩
  clear hb q0 q1 q2 q3 h2 h
  rw [hX] at HR
  clear hX
  unfold fnV at *
  go_enter Tryz.func99, Tryz.ntmps99
  go_wp2_with fail
  go_ret
  exact ⟨_, rfl, HR.out.1, HR.out.2⟩
end Go.Proofs.YtbhkenphcahifaaGreat

namespace Go.Proofs.YtbhkenphcahifaaGreat
open Go.RowKit Go.Shelf
attribute [local go_sem] Oper.semAt_some
set_option maxRecDepth 100000
set_option maxHeartbeats 4000000

section
variable {n l : Nat} {P : Program} {ops : Array Oper} {Q : Exit → Act → World → Prop}
theorem wpOpR_skip {i : Nat} {o : Oper} {K : Act → World → Prop} {a : Act} {w w' : World} (ho : ops[i]? = some o) (hgd : o.guard = none) (hd : ∀ c, o.op ≠ .defer c)
    (h : (o.semAt none a.eval).run P w = .ok .skip w') (hk : K (a.put o.dst undef) w') : wpOpIn (Fence.wide.inRound l) n P ops Q i K a w := by
  refine wpOpIn_step ho (fun K' hK => ?_)
  rw [if_pos (by simp [Region.wanted, hgd])]
  refine wpInF_skip (fun _ _ => trivial) ?_ (hK _ _ hk)
  rw [Fence.inRound_round, semR hd]; exact h
end
/-- the first m are −1, the others 0 -/
def fillL (N m : Nat) : List Int := (List.range N).map fun x => if x < m then -1 else 0
theorem fill_zero (N : Nat) : fillL N 0 = List.replicate N 0 := by
  refine List.ext_getElem (by simp [fillL]) fun j h1 h2 => ?_
  simp [fillL]
theorem fill_len (N m : Nat) : (fillL N m).length = N := by simp [fillL]
theorem fill_set {N m : Nat} (_ : m < N) : (fillL N m).set m (-1) = fillL N (m + 1) := by
  refine List.ext_getElem (by simp [fillL]) fun j h1 h2 => ?_
  rw [List.getElem_set]
  simp only [fillL, List.getElem_map, List.getElem_range]
  by_cases h : m = j
  · subst h; simp
  · rw [if_neg h]
    by_cases h3 : j < m
    · rw [if_pos h3, if_pos (by omega)]
    · rw [if_neg h3, if_neg (by omega)]
/-- what a search has found so far, as a row -/
def valsL (N : Nat) (L : List (Int × Nat)) : List Int := (List.range N).map fun (x : Nat) => valL L (x : Int)
theorem vals_nil (N : Nat) : valsL N [] = fillL N N := by
  refine List.ext_getElem (by simp [valsL, fillL]) fun j h1 h2 => ?_
  simp only [valsL, fillL, List.getElem_map, List.getElem_range]
  rw [if_pos (by simpa [fillL] using h2), valL_none (by simp)]
theorem vals_len (N : Nat) (L : List (Int × Nat)) : (valsL N L).length = N := by simp [valsL]
theorem vals_set {N : Nat} {L : List (Int × Nat)} {x s : Nat} (hn : (x : Int) ∉ L.map (·.1)) : (valsL N L).set x (s : Int) = valsL N (L ++ [((x : Int), s)]) := by
  refine List.ext_getElem (by simp [valsL]) fun j h1 h2 => ?_
  rw [List.getElem_set]
  simp only [valsL, List.getElem_map, List.getElem_range]
  rw [valL_snoc (e := ((x : Int), s)) hn]
  by_cases h : x = j
  · subst h; simp
  · rw [if_neg h, if_neg (by simp; omega)]
theorem distances_any {w : World} {lo ty fs fn : Nat} {rcv : Value} {N : Nat} {ho : Int} {NB : Int → List Int} (hlo : lo ≤ w.heap.size) (hN : N ≤ 1000) (h : NetK w lo ty fs fn rcv N ho NB) (hin : ∀ (x : Nat), x < N → ∀ z ∈ NB (x : Int), 0 ≤ z ∧ z < (N : Int)) {y : Nat} (hy : y < N) :
    Calls Tryz.prog 56 #[.iface ty rcv, .int .i64 (y : Int), .func (.func 57) #[] #[]] w fun e w' => ∃ g l, e = .returned (.slice (some ⟨g, 0, none⟩) N N) ∧ RowAt w' g l ∧ w.heap.size ≤ g ∧ l.length = N ∧ (∀ x : Nat, x < N → DistAt NB (y : Int) (x : Int) (l.getD x 0)) ∧ Below w.heap.size w w' := by
  have HK := Lib.hid h
  have HIN := Lib.hid hin
  have HLO := Lib.hid hlo
  have HYN := Lib.hid hy
  have HNN := Lib.hid hN
  have hms := h.ms
  have hes := h.es
  have hmk := make_ints N (by omega)
  have hn1000 := hN
  clear h hin hlo hy
  refine (callsIn_wide (n := 4)).1 ?_
  refine callsIn_of_wp_marks Tryz.func56 rfl trivial ?_ rfl
  simp only [Tryz.ntmps56, List.size_toArray, List.length_cons, List.length_nil, Nat.reduceAdd, Nat.reduceSub, Array.replicate_succ, Array.replicate_zero, List.push_toArray, List.append_toArray, List.nil_append, List.cons_append]
  gi_wp2
  refine ⟨trivial, callsIn_wide.2 ((HK.out.sz w (Below.refl _ _)).mono ?_)⟩
  rintro e w1 ⟨rfl, hb1⟩
  have hm1 := hmk w1
  obtain ⟨g, hg⟩ : ∃ g, g = w1.heap.size := ⟨_, rfl⟩
  obtain ⟨Y, hY⟩ : ∃ Y, Y = (w1.alloc (.cells (rowA (List.replicate N 0)) 3)).alloc (.cells #[.slice (some ⟨w1.heap.size, 0, none⟩) N N] 22) := ⟨_, rfl⟩
  have hbA : Below w1.heap.size w1 (w1.alloc (.cells (rowA (List.replicate N 0)) 3)) := (Below.refl _ _).alloc (Nat.le_refl _) _
  have hbY : Below w1.heap.size w1 Y := by rw [hY]; exact hbA.alloc (by simp) _
  have qg : RowAt Y w1.heap.size (List.replicate N 0) := by rw [hY]; exact (Below.heap_alloc _ _ _ (by simp)).trans (heap_alloc_new w1 _)
  have qo : Y.heap[w1.heap.size + 1]? = some (.cells #[.slice (some ⟨w1.heap.size, 0, none⟩) N N] 22 (0, 0)) := by
    rw [hY, show w1.heap.size + 1 = (w1.alloc (.cells (rowA (List.replicate N 0)) 3)).heap.size by simp]; exact heap_alloc_new _ _
  have HY1 : Hid (RowAt Y g (fillL N 0) ∧ Y.heap[g + 1]? = some (.cells #[.slice (some ⟨g, 0, none⟩) N N] 22 (0, 0)) ∧ Below w.heap.size w Y ∧ w.heap.size ≤ g) := by
    rw [hg, fill_zero]; exact ⟨qg, qo, hb1.trans (hbY.mono hb1.size), hb1.size⟩
  have cO := cellR 0 qo rfl
  rw [hY] at cO
  have HYE := Lib.hid hY
  have HGE := Lib.hid hg
  clear qg qo hbA hbY hb1 hY hg
  gi_wp2
  rw [← HYE.out, ← HGE.out]
  clear cO HYE HGE hm1 hmk
  gi_loopw [21] (fun i wr => ∃ m : Nat, m ≤ N ∧ i = .int .i64 (m : Int) ∧ Hid (RowAt wr g (fillL N m) ∧ wr.heap[g + 1]? = some (.cells #[.slice (some ⟨g, 0, none⟩) N N] 22 (0, 0)) ∧ Below w.heap.size w wr ∧ w.heap.size ≤ g)) (fun i _ => N - (intOf i).toNat)
  case atStart => exact ⟨0, Nat.zero_le _, rfl, HY1⟩
  case round =>
    clear HY1
    obtain ⟨m, hm, rfl, HR⟩ := hrel
    obtain ⟨r1, r2, r3, r4⟩ := HR.out
    have cO := cellR 0 r2 rfl
    by_cases hlt : m < N
    · have d1 : decide ((m : Int) < (N : Int)) = true := decide_eq_true (by omega)
      have cm := r1.cell m (by rw [fill_len]; exact hlt)
      have fm := r1.open_ m
      have lm := r1.lt
      have HS : Hid (RowAt (wr.setCell ⟨g, m, none⟩ (.int .i64 (-1))) g (fillL N (m + 1)) ∧ (wr.setCell ⟨g, m, none⟩ (.int .i64 (-1))).heap[g + 1]? = some (.cells #[.slice (some ⟨g, 0, none⟩) N N] 22 (0, 0)) ∧ Below w.heap.size w (wr.setCell ⟨g, m, none⟩ (.int .i64 (-1))) ∧ w.heap.size ≤ g) := by
        refine ⟨?_, (heap_setCell_other _ _ _ _ (show g + 1 ≠ g by omega)).trans r2, r3.setCell (p := ⟨g, m, none⟩) r4 _, r4⟩
        have := r1.set m (-1)
        rwa [fill_set hlt] at this
      clear r1 r2 r3 r4 HR
      gi_wp2
      go_roundw
      case rel => exact ⟨m + 1, by omega, by go_num, HS⟩
      case measure => simp [intOf]; omega
    · obtain rfl : m = N := by omega
      have d1 : decide ((m : Int) < (m : Int)) = false := decide_eq_false (by omega)
      clear r1 r2 r3 r4
      have HSA := Lib.hid (search_any (Nat.le_trans HLO.out HR.out.2.2.1.size) HNN.out (HK.out.later (HR.out.2.2.1.mono HLO.out)) HIN.out HYN.out)
      gi_wp2
      refine ⟨trivial, callsIn_wide.2 (HSA.out.mono ?_)⟩
      rintro e w3 ⟨lb, rfl, hb3, hSq⟩
      have hgw : g < wr.heap.size := (HR.out.1).lt
      have HSQ := Lib.hid (fun n => hSq n g hgw)
      have H3 : Hid (RowAt w3 g (valsL m []) ∧ w3.heap[g + 1]? = some (.cells #[.slice (some ⟨g, 0, none⟩) m m] 22 (0, 0)) ∧ Below w.heap.size w w3) := by
        obtain ⟨r1, r2, r3, r4⟩ := HR.out
        rw [vals_nil]
        exact ⟨r1.keep hb3, heapB hb3 r2, r3.trans (hb3.mono r3.size)⟩
      have HG3 : Hid (g + 1 < w3.heap.size ∧ w.heap.size ≤ g) := by
        have h7 := (Array.getElem?_eq_some_iff.1 H3.out.2.1).1
        exact ⟨h7, HR.out.2.2.2⟩
      clear HR HSA hb3 hSq hgw
      gi_wp2
      refine range_t (lo := lo) (ob := g) (N := m) (y := (y : Int)) (NB := NB) (by omega) rfl (HSQ.out _) (Nat.le_trans HLO.out H3.out.2.2.size) rfl (fun pre W9 => RowAt W9 g (valsL m pre) ∧ W9.heap[g + 1]? = some (.cells #[.slice (some ⟨g, 0, none⟩) m m] 22 (0, 0)) ∧ Below w.heap.size w W9) ?hI ?grow H3.out (fun p => ⟨#[Value.iface ty rcv, Value.int IntKind.i64 ((y : Int)), Value.func (Fn.func 57) #[] #[], undef, undef, undef, Value.slice none 0 0, Value.int IntKind.i64 ((m : Int)), Value.int IntKind.i64 (ho), Value.pointer (some ⟨g + 1, 0, none⟩), u10, Value.pointer (some ⟨p, 0, none⟩), Value.tuple #[Value.int IntKind.i64 ((m : Int)), Value.int IntKind.i64 (ho)], Value.iface ty rcv, Value.tuple #[Value.int IntKind.i64 ((m : Int)), Value.int IntKind.i64 (ho)], Value.int IntKind.i64 ((m : Int)), Value.int IntKind.i64 (ho), Value.int IntKind.i64 ((m : Int)), Value.slice (some ⟨g, 0, none⟩) m m, Value.slice (some ⟨g, 0, none⟩) m m, Value.int IntKind.i64 ((m : Int)), Value.int IntKind.i64 ((m : Int)), Value.bool false, u23, u24, u25, u26, u27, Value.int IntKind.i64 ((m : Int)), Value.int IntKind.i64 ((y : Int)), Value.iface ty rcv, Value.iface ty rcv, fnV rcv ty, Value.func (Fn.func 57) #[] #[], Value.func (Fn.func 120) #[] lb, Value.pointer (some ⟨p, 0, none⟩), undef, undef, undef, undef, undef, undef, undef, undef, undef, undef, undef], []⟩) ?assign ?body ?done
      case hI =>
        refine own_of ?_ ?_
        · rintro pre A B ⟨i1, i2, i3⟩ hb
          exact ⟨i1.keep hb, heapB hb i2, i3.trans (hb.mono i3.size)⟩
        · rintro pre A b o o' ⟨i1, i2, i3⟩ hB ho hc
          have h7 := HG3.out
          exact ⟨(World.putObj_heap_other (by omega)).trans i1, (World.putObj_heap_other (by omega)).trans i2, i3.trans ⟨rfl, rfl, rfl, by simp [World.putObj], fun k hk => World.putObj_heap_other (by omega)⟩⟩
      case grow =>
        rintro pre A B ⟨i1, i2, i3⟩ hb
        have h7 := HG3.out
        exact ⟨(hb.block g (by omega)).trans i1, (hb.block (g + 1) h7.1).trans i2, i3.trans (hb.mono (by omega))⟩
      case assign =>
        intro q9 p W9 K hK
        gi_wp2
        exact hK
      case body =>
        rintro q9 pre x p bv W8 ⟨i1, i2, i3⟩ x0 x1 x2l x3 x4 x5
        obtain ⟨xi, stx⟩ := x
        simp only at x0 x1 x2l x3 x4
        obtain ⟨xn, rfl⟩ := Int.eq_ofNat_of_zero_le x0
        have hxm : xn < m := by omega
        have hg1 : g + 1 ≠ g := by omega
        have hw4 : ∀ b, b ≠ g → (W8.drew.setCell ⟨g, xn, none⟩ (.int .i64 (stx : Int))).heap[b]? = W8.heap[b]? := fun b hb => heap_setCell_other _ _ _ _ hb
        have cO : W8.drew.cell? ⟨g + 1, 0, none⟩ = some (.slice (some ⟨g, 0, none⟩) m m) := cellR 0 i2 rfl
        have cp0 : W8.drew.cell? ⟨p, 0, none⟩ = some (.int .i64 (xn : Int)) := cellR 0 x4 rfl
        have cp1 : W8.drew.cell? ⟨p, 1, none⟩ = some (.int .i64 (stx : Int)) := cellR 1 x4 rfl
        have kO : (W8.drew.setCell ⟨g, xn, none⟩ (.int .i64 (stx : Int))).cell? ⟨g + 1, 0, none⟩ = some (.slice (some ⟨g, 0, none⟩) m m) := cellR 0 ((hw4 _ hg1).trans i2) rfl
        have kp0 : (W8.drew.setCell ⟨g, xn, none⟩ (.int .i64 (stx : Int))).cell? ⟨p, 0, none⟩ = some (.int .i64 (xn : Int)) := cellR 0 ((hw4 _ x5).trans x4) rfl
        have kp1 : (W8.drew.setCell ⟨g, xn, none⟩ (.int .i64 (stx : Int))).cell? ⟨p, 1, none⟩ = some (.int .i64 (stx : Int)) := cellR 1 ((hw4 _ x5).trans x4) rfl
        have cg : W8.drew.cell? ⟨g, xn, none⟩ = some (.int .i64 ((valsL m pre)[xn]'(by rw [vals_len]; exact hxm))) := i1.cell xn (by rw [vals_len]; exact hxm)
        have fg : W8.drew.frozen? ⟨g, xn, none⟩ = false := i1.open_ xn
        have lg : g < W8.drew.heap.size := i1.lt
        have HE : Hid (KeepsFrom w3.heap.size W8 (W8.drew.setCell ⟨g, xn, none⟩ (.int .i64 (stx : Int))) ∧ Kt lo g W8 (W8.drew.setCell ⟨g, xn, none⟩ (.int .i64 (stx : Int))) ∧ RowAt (W8.drew.setCell ⟨g, xn, none⟩ (.int .i64 (stx : Int))) g (valsL m (pre ++ [((xn : Int), stx)])) ∧ (W8.drew.setCell ⟨g, xn, none⟩ (.int .i64 (stx : Int))).heap[g + 1]? = some (.cells #[.slice (some ⟨g, 0, none⟩) m m] 22 (0, 0)) ∧ Below w.heap.size w (W8.drew.setCell ⟨g, xn, none⟩ (.int .i64 (stx : Int)))) := by
          have h7 := HG3.out
          have h8 := HLO.out
          refine ⟨⟨by simp, fun k o hk ho _ => (hw4 k (by omega)).trans ho⟩, ⟨((Below.refl lo W8).drew).setCell (p := ⟨g, xn, none⟩) (by show lo ≤ g; omega) _, fun b o hb ho _ => (hw4 b hb).trans ho⟩, ?_, (hw4 _ hg1).trans i2, i3.drew.setCell (p := ⟨g, xn, none⟩) h7.2 _⟩
          have := RowAt.set (w := W8.drew) i1 xn (stx : Int)
          rwa [vals_set x3] at this
        generalize (valsL m pre)[xn]'(by rw [vals_len]; exact hxm) = ov at *
        clear i1 i2 i3 x3 x4 hw4 x0 x1
        gi_wp2
        refine region_det (by kernel_rfl) (I := fun listed a' w' => Hid ((listed.getD 10 false = false → w' = W8.drew) ∧ (listed.getD 10 false = true → w' = (W8.drew.setCell ⟨g, xn, none⟩ (.int .i64 (stx : Int))))) ∧ a' = ⟨#[Value.iface ty rcv, Value.int IntKind.i64 ((y : Int)), Value.func (Fn.func 57) #[] #[], undef, undef, undef, Value.slice none 0 0, Value.int IntKind.i64 ((m : Int)), Value.int IntKind.i64 (ho), Value.pointer (some ⟨g + 1, 0, none⟩), u10, Value.pointer (some ⟨p, 0, none⟩), Value.tuple #[Value.int IntKind.i64 ((m : Int)), Value.int IntKind.i64 (ho)], Value.iface ty rcv, Value.tuple #[Value.int IntKind.i64 ((m : Int)), Value.int IntKind.i64 (ho)], Value.int IntKind.i64 ((m : Int)), Value.int IntKind.i64 (ho), Value.int IntKind.i64 ((m : Int)), Value.slice (some ⟨g, 0, none⟩) m m, Value.slice (some ⟨g, 0, none⟩) m m, Value.int IntKind.i64 ((m : Int)), Value.int IntKind.i64 ((m : Int)), Value.bool false, u23, u24, u25, u26, u27, Value.int IntKind.i64 ((m : Int)), Value.int IntKind.i64 ((y : Int)), Value.iface ty rcv, Value.iface ty rcv, fnV rcv ty, Value.func (Fn.func 57) #[] #[], Value.func (Fn.func 120) #[] lb, Value.pointer (some ⟨p, 0, none⟩), (if listed.getD 0 false = true then Value.slice (some ⟨g, 0, none⟩) m m else undef), (if listed.getD 1 false = true then Value.pointer (some ⟨p, 0, none⟩) else undef), (if listed.getD 2 false = true then Value.pointer (some ⟨p, 0, none⟩) else undef), (if listed.getD 3 false = true then Value.pointer (some ⟨p, 0, none⟩) else undef), (if listed.getD 4 false = true then Value.int IntKind.i64 ((xn : Int)) else undef), (if listed.getD 5 false = true then Value.pointer (some ⟨p, 0, none⟩) else undef), (if listed.getD 6 false = true then Value.pointer (some ⟨p, 0, none⟩) else undef), (if listed.getD 7 false = true then Value.pointer (some ⟨p, 1, none⟩) else undef), (if listed.getD 8 false = true then Value.int IntKind.i64 ((stx : Int)) else undef), (if listed.getD 9 false = true then Value.pointer (some ⟨g, xn, none⟩) else undef), undef], []⟩) (hup_check (by kernel_rfl)) ?h0 ?step ?fin
        case h0 => exact ⟨⟨fun _ => rfl, fun h => (by simp at h)⟩, rfl⟩
        case step =>
          intro listed a' w' i hs hbi hdep hi ⟨IW, ha⟩
          obtain ⟨ls⟩ := listed
          match ls, hs with
          | [x0, x1, x2, x3, x4, x5, x6, x7, x8, x9, x10], _ =>
          subst ha
          have hi' : i = 0 ∨ i = 1 ∨ i = 2 ∨ i = 3 ∨ i = 4 ∨ i = 5 ∨ i = 6 ∨ i = 7 ∨ i = 8 ∨ i = 9 ∨ i = 10 := by simp at hi; omega
          have hcf : w'.cell? ⟨g + 1, 0, none⟩ = some (.slice (some ⟨g, 0, none⟩) m m) ∧ w'.cell? ⟨p, 0, none⟩ = some (.int .i64 (xn : Int)) ∧ w'.cell? ⟨p, 1, none⟩ = some (.int .i64 (stx : Int)) := by
            cases x10 with
            | false => rw [IW.out.1 rfl]; exact ⟨cO, cp0, cp1⟩
            | true => rw [IW.out.2 rfl]; exact ⟨kO, kp0, kp1⟩
          obtain ⟨hc0, hc1, hc2⟩ := hcf
          rcases hi' with rfl | rfl | rfl | rfl | rfl | rfl | rfl | rfl | rfl | rfl | rfl
          · obtain rfl : x0 = false := by simpa using hbi
            refine wpOpR_plain (v := Value.slice (some ⟨g, 0, none⟩) m m) (w' := w') rfl rfl (fun c hc => by cases hc) ?_ ?_
            · go_simp
            exact ⟨IW, rfl⟩
          · obtain rfl : x1 = false := by simpa using hbi
            refine wpOpR_plain (v := Value.pointer (some ⟨p, 0, none⟩)) (w' := w') rfl rfl (fun c hc => by cases hc) ?_ ?_
            · go_simp
            exact ⟨IW, rfl⟩
          · obtain rfl : x2 = false := by simpa using hbi
            obtain rfl : x1 = true := hdep _ rfl ⟨1, .data⟩ (by simp) rfl
            refine wpOpR_plain (v := Value.pointer (some ⟨p, 0, none⟩)) (w' := w') rfl rfl (fun c hc => by cases hc) ?_ ?_
            · go_simp
            exact ⟨IW, rfl⟩
          · obtain rfl : x3 = false := by simpa using hbi
            obtain rfl : x2 = true := hdep _ rfl ⟨2, .data⟩ (by simp) rfl
            refine wpOpR_plain (v := Value.pointer (some ⟨p, 0, none⟩)) (w' := w') rfl rfl (fun c hc => by cases hc) ?_ ?_
            · go_simp
            exact ⟨IW, rfl⟩
          · obtain rfl : x4 = false := by simpa using hbi
            obtain rfl : x3 = true := hdep _ rfl ⟨3, .data⟩ (by simp) rfl
            refine wpOpR_plain (v := Value.int IntKind.i64 ((xn : Int))) (w' := w') rfl rfl (fun c hc => by cases hc) ?_ ?_
            · go_simp
            exact ⟨IW, rfl⟩
          · obtain rfl : x5 = false := by simpa using hbi
            refine wpOpR_plain (v := Value.pointer (some ⟨p, 0, none⟩)) (w' := w') rfl rfl (fun c hc => by cases hc) ?_ ?_
            · go_simp
            exact ⟨IW, rfl⟩
          · obtain rfl : x6 = false := by simpa using hbi
            obtain rfl : x5 = true := hdep _ rfl ⟨5, .data⟩ (by simp) rfl
            refine wpOpR_plain (v := Value.pointer (some ⟨p, 0, none⟩)) (w' := w') rfl rfl (fun c hc => by cases hc) ?_ ?_
            · go_simp
            exact ⟨IW, rfl⟩
          · obtain rfl : x7 = false := by simpa using hbi
            obtain rfl : x6 = true := hdep _ rfl ⟨6, .data⟩ (by simp) rfl
            refine wpOpR_plain (v := Value.pointer (some ⟨p, 1, none⟩)) (w' := w') rfl rfl (fun c hc => by cases hc) ?_ ?_
            · go_simp
            exact ⟨IW, rfl⟩
          · obtain rfl : x8 = false := by simpa using hbi
            obtain rfl : x7 = true := hdep _ rfl ⟨7, .data⟩ (by simp) rfl
            refine wpOpR_plain (v := Value.int IntKind.i64 ((stx : Int))) (w' := w') rfl rfl (fun c hc => by cases hc) ?_ ?_
            · go_simp
            exact ⟨IW, rfl⟩
          · obtain rfl : x9 = false := by simpa using hbi
            obtain rfl : x0 = true := hdep _ rfl ⟨0, .data⟩ (by simp) rfl
            obtain rfl : x4 = true := hdep _ rfl ⟨4, .data⟩ (by simp) rfl
            refine wpOpR_plain (v := Value.pointer (some ⟨g, xn, none⟩)) (w' := w') rfl rfl (fun c hc => by cases hc) ?_ ?_
            · go_simp
            exact ⟨IW, rfl⟩
          · obtain rfl : x10 = false := by simpa using hbi
            obtain rfl : x9 = true := hdep _ rfl ⟨9, .data⟩ (by simp) rfl
            obtain rfl : x8 = true := hdep _ rfl ⟨8, .data⟩ (by simp) rfl
            obtain rfl := IW.out.1 rfl
            refine wpOpR_skip (w' := (W8.drew.setCell ⟨g, xn, none⟩ (.int .i64 (stx : Int)))) rfl rfl (fun c hc => by cases hc) ?_ ?_
            · go_simp
            exact ⟨⟨fun h => (by cases h), fun _ => rfl⟩, rfl⟩
        case fin =>
        intro listed a' W9 hs hall ⟨IW, ha⟩
        obtain ⟨ls⟩ := listed
        match ls, hs with
        | [x0, x1, x2, x3, x4, x5, x6, x7, x8, x9, x10], _ =>
        obtain rfl : x0 = true := hall 0 (by simp)
        obtain rfl : x1 = true := hall 1 (by simp)
        obtain rfl : x2 = true := hall 2 (by simp)
        obtain rfl : x3 = true := hall 3 (by simp)
        obtain rfl : x4 = true := hall 4 (by simp)
        obtain rfl : x5 = true := hall 5 (by simp)
        obtain rfl : x6 = true := hall 6 (by simp)
        obtain rfl : x7 = true := hall 7 (by simp)
        obtain rfl : x8 = true := hall 8 (by simp)
        obtain rfl : x9 = true := hall 9 (by simp)
        obtain rfl : x10 = true := hall 10 (by simp)
        subst ha
        obtain rfl := IW.out.2 rfl
        clear IW hs hall
        gi_wp2
        exact HE.out
      case done =>
        rintro D L W9 hD hbi ⟨i1, i2, i3⟩ hK
        have cO := cellR 0 i2 rfl
        have HF : Hid (RowAt W9 g (valsL m L) ∧ Below w.heap.size w W9 ∧ BInv NB m (y : Int) L L.length) := ⟨i1, i3, hbi⟩
        have HKD := Lib.hid hK
        clear i1 i2 i3 hbi
        gi_wp2
        refine ⟨by simp, .inl ⟨_, _, rfl, run_takeDeferred hK, ?_⟩⟩
        have h7 := HG3.out
        refine ⟨.slice (some ⟨g, 0, none⟩) m m, by simp [results, Tryz.results56, go_sem], g, valsL m L, rfl, (World.putObj_heap_other (by omega)).trans HF.out.1, h7.2, vals_len _ _, fun x hx => ?_, HF.out.2.1.trans ⟨rfl, rfl, rfl, by simp [World.putObj], fun k hk => World.putObj_heap_other (by have := HF.out.2.1.size; omega)⟩⟩
        have := HF.out.2.2.done (x : Int)
        rw [show (valsL m L).getD x 0 = valL L (x : Int) by simp [valsL, List.getD, hx]]
        exact this
end Go.Proofs.YtbhkenphcahifaaGreat

namespace Go.Proofs.YtbhkenphcahifaaGreat
open Go.RowKit Go.Shelf
attribute [local go_sem] Oper.semAt_some
set_option maxRecDepth 100000
set_option maxHeartbeats 4000000

/-- what is known of a tree's numbers -/
theorem tree_nums {l : List Int} {hosts : Int} (hv : vOk 2 l hosts) : ∃ k lv : Nat, 1 ≤ k ∧ 1 ≤ lv ∧ l.getD 0 0 = (k : Int) ∧ l.getD 1 0 = (lv : Int) ∧ swI 2 l = (lv : Int) * ((k ^ (lv - 1) : Nat) : Int) ∧ hoI 2 l = ((k ^ (lv - 1) : Nat) : Int) := by
  have hr : rOk l hosts := by
    rcases hv with ⟨h0, h1⟩ | ⟨h0, h1⟩ | ⟨h0, h1⟩
    · cases h0
    · exact h1
    · cases h0
  obtain ⟨_, h1, h2, _⟩ := hr
  have hs : swI 2 l = l.getD 1 0 * wordsI l := rfl
  have ho : hoI 2 l = wordsI l := rfl
  have hw : wordsI l = (((l.getD 0 0).toNat ^ ((l.getD 1 0).toNat - 1) : Nat) : Int) := rfl
  rw [hs, ho, hw]
  generalize l.getD 0 0 = A at *
  generalize l.getD 1 0 = C at *
  obtain ⟨k, rfl⟩ := Int.eq_ofNat_of_zero_le (show 0 ≤ A by omega)
  obtain ⟨lv, rfl⟩ := Int.eq_ofNat_of_zero_le (show 0 ≤ C by omega)
  simp only [Int.toNat_natCast]
  exact ⟨k, lv, by omega, by omega, rfl, rfl, rfl, rfl⟩
theorem drag_nums {l : List Int} {hosts : Int} (hv : vOk 3 l hosts) : ∃ a h : Nat, 1 ≤ a ∧ 1 ≤ h ∧ l.getD 0 0 = (a : Int) ∧ l.getD 1 0 = (h : Int) ∧ swI 3 l = (a : Int) * ((a : Int) * h + 1) ∧ hoI 3 l = (a : Int) * ((a : Int) * h + 1) := by
  have hr : dOk l hosts := by
    rcases hv with ⟨h0, h1⟩ | ⟨h0, h1⟩ | ⟨h0, h1⟩
    · cases h0
    · cases h0
    · exact h1
  obtain ⟨_, _, h1, h2, h3⟩ := hr
  have hs : swI 3 l = l.getD 0 0 * (l.getD 0 0 * l.getD 1 0 + 1) := rfl
  have ho : hoI 3 l = l.getD 0 0 * (l.getD 0 0 * l.getD 1 0 + 1) := rfl
  rw [hs, ho]
  generalize l.getD 0 0 = A at *
  generalize l.getD 1 0 = C at *
  obtain ⟨a, rfl⟩ := Int.eq_ofNat_of_zero_le (show 0 ≤ A by omega)
  obtain ⟨h, rfl⟩ := Int.eq_ofNat_of_zero_le (show 0 ≤ C by omega)
  exact ⟨a, h, by omega, by omega, rfl, rfl, rfl, rfl⟩
/-- the neighbors are switches, and have the switch as a neighbor -/
theorem net_sym {kind : Int} {l : List Int} {hosts : Int} (hv : vOk kind l hosts) {x : Int} (h0 : 0 ≤ x) (h1 : x < swI kind l) : ∀ z ∈ nbS kind l x, (0 ≤ z ∧ z < swI kind l) ∧ x ∈ nbS kind l z := by
  rcases v_kind hv with rfl | rfl | rfl
  · obtain ⟨_, hb⟩ := tOk_sides (torus_v hv)
    have hsw : swI 1 l = prodI l := rfl
    rw [hsw] at h1 ⊢
    intro z hz
    have e : ∀ a, nbS 1 l a = nbL l a := fun a => by simp [nbS]
    rw [e] at hz ⊢
    refine ⟨nbL_in hb h0 h1 z hz, ?_⟩
    obtain ⟨d, hd, rfl⟩ := num_of hb h0 h1
    exact torus_sym hb hd z hz
  · obtain ⟨k, lv, hk, hlv, e0, e1, e2, e3⟩ := tree_nums hv
    have e : ∀ a, nbS 2 l a = nbT k lv a := fun a => by simp [nbS, -List.getD_eq_getElem?_getD, e0, e1]
    rw [e2] at h1 ⊢
    intro z hz
    rw [e] at hz ⊢
    obtain ⟨s1, l', wd', s2, _⟩ := tree_sym hk (InTr.of hk hlv h0 h1) z hz
    exact ⟨s2.rng hlv, s1⟩
  · obtain ⟨a, h, ha, hh, e0, e1, e2, e3⟩ := drag_nums hv
    have e : ∀ b, nbS 3 l b = nbD a h b := fun b => by simp [nbS, -List.getD_eq_getElem?_getD, e0, e1]
    rw [e2] at h1 ⊢
    intro z hz
    rw [e] at hz ⊢
    obtain ⟨s1, gr, pl, s2⟩ := drag_sym ha hh (InDr.of (by omega) h0 h1) z hz
    exact ⟨s2.rng, s1⟩
/-- a route is a path; its length and the distance -/
theorem net_route {kind : Int} {l : List Int} {hosts : Int} (hv : vOk kind l hosts) {x y : Int} (h0 : 0 ≤ x) (h1 : x < swI kind l) (g0 : 0 ≤ y) (g1 : y < hoI kind l) :
    Chain (nbS kind l) x ((stepsL kind l x y).map (·.1)) y ∧ (kind ≠ 3 → DistAt (nbS kind l) y x ((stepsL kind l x y).length : Int)) ∧ (kind = 3 → (stepsL kind l x y).length ≤ 3 ∧ ∀ k, Walk (nbS kind l) y x k → (stepsL kind l x y).length ≤ k + 1) := by
  rcases v_kind hv with rfl | rfl | rfl
  · obtain ⟨_, hb⟩ := tOk_sides (torus_v hv)
    have hsw : swI 1 l = prodI l := rfl
    have hho : hoI 1 l = prodI l := rfl
    rw [hsw] at h1
    rw [hho] at g1
    have e : nbS 1 l = nbL l := by funext a; simp [nbS]
    rw [e, show stepsL 1 l x y = torusL l x y from rfl]
    obtain ⟨a1, a2, a3⟩ := torus_route hb h0 h1 g0 g1
    exact ⟨a1, fun _ => a3, fun h => by omega⟩
  · obtain ⟨k, lv, hk, hlv, e0, e1, e2, e3⟩ := tree_nums hv
    have e : nbS 2 l = nbT k lv := by funext a; simp [nbS, -List.getD_eq_getElem?_getD, e0, e1]
    rw [e2] at h1
    rw [e3] at g1
    have es : stepsL 2 l x y = treeL k lv x y := by
      show treeL (l.getD 0 0).toNat (l.getD 1 0).toNat x y = _
      rw [e0, e1]; simp
    rw [e, es]
    obtain ⟨a1, a2⟩ := tree_route hk hlv h0 h1 g0 g1
    exact ⟨a1, fun _ => a2, fun h => by omega⟩
  · obtain ⟨a, h, ha, hh, e0, e1, e2, e3⟩ := drag_nums hv
    have e : nbS 3 l = nbD a h := by funext b; simp [nbS, -List.getD_eq_getElem?_getD, e0, e1]
    rw [e2] at h1
    rw [e3] at g1
    have es : stepsL 3 l x y = dragL a h x y := by
      show dragL (l.getD 0 0) (l.getD 1 0) x y = _
      rw [e0, e1]
    rw [e, es]
    obtain ⟨a1, a2, a3⟩ := drag_route ha hh h0 h1 g0 g1
    exact ⟨a1, fun h => absurd rfl h, fun _ => ⟨a2, a3⟩⟩
/-- Neighbors of any network -/
theorem Neighbors_ok {w : World} {sa : Option Addr} {l : List Int} (h : Ints w sa l) (sc : Nat) (kind hosts x : Int) (hv : vOk kind l hosts) (h0 : 0 ≤ x) (h1 : x < swI kind l) :
    Calls Tryz.prog 13 #[.agg #[.int .i64 kind, .slice sa l.length sc, .int .i64 hosts], .int .i64 x] w fun e w' => ∃ v, e = .returned (.tuple #[v, .int .i64 0]) ∧ NewInts w.heap.size w' v (nbS kind l x) ∧ Below w.heap.size w w' := by
  have hin : inB (swI kind l) [x] = true := by simp [inB]; omega
  obtain ⟨ty, fs, fn, rcv, sw, hnv, hse, hsl, hnk⟩ := netK h sc hv
  rcases v_kind hv with rfl | rfl | rfl
  · obtain ⟨⟨k1, k2⟩, hs⟩ := tOk_sides (torus_v hv)
    have hp : swI 1 l = prodI l := rfl
    have hsw := sw_max hv
    have e : nbS 1 l x = nbL l x := by simp [nbS]
    rw [e]
    refine Neighbors1_any h sc hosts x hv hin ?_ (fun W hW => neighbors_any (h.keep hW) k1 k2 hs (by omega) sc x h0 (by omega))
    have h2 : (nbL l x).length ≤ (sortL (nbK l x l.length)).length := Lib.compact_length_le _
    rw [sort_len, nbK_len] at h2
    omega
  · have e : nbS 2 l x = nbT (l.getD 0 0).toNat (l.getD 1 0).toNat x := by unfold nbS; rw [if_neg (by decide), if_pos rfl]
    rw [e]
    refine Neighbors2_any h sc hosts x hv hin ?_ (fun W hW => near_make2 hv h0 h1 W)
    obtain ⟨k, lv, hk, hlv, e0, e1, e2, e3⟩ := tree_nums hv
    have hr : rOk l hosts := by
      rcases hv with ⟨q0, q1⟩ | ⟨q0, q1⟩ | ⟨q0, q1⟩
      · cases q0
      · exact q1
      · cases q0
    have hk8 := hr.2.1
    rw [e0, e1]
    rw [e0] at hk8
    simp only [Int.toNat_natCast]
    unfold nbT lvT
    rw [List.length_append]
    have a1 : (if 0 < (x / ((k ^ (lv - 1) : Nat) : Int)).toNat then dnT k ((k ^ (lv - 1) : Nat) : Int) ((x / ((k ^ (lv - 1) : Nat) : Int)).toNat - 1) (x % ((k ^ (lv - 1) : Nat) : Int)) k else []).length ≤ k := by
      split
      · rw [dnT_len]; exact Nat.le_refl _
      · simp
    have a2 : (if (x / ((k ^ (lv - 1) : Nat) : Int)).toNat < lv - 1 then upT k ((k ^ (lv - 1) : Nat) : Int) (x / ((k ^ (lv - 1) : Nat) : Int)).toNat (x % ((k ^ (lv - 1) : Nat) : Int)) k else []).length ≤ k := by
      split
      · rw [upT_len]; exact Nat.le_refl _
      · simp
    omega
  · have e : nbS 3 l x = nbD (l.getD 0 0).toNat (l.getD 1 0).toNat x := by unfold nbS; rw [if_neg (by decide), if_neg (by decide)]
    rw [e]
    refine Neighbors3_any h sc hosts x hv hin ?_ (fun W hW => near_make3 hv h0 h1 W)
    obtain ⟨a, hh, _, _, e0, e1, _, _⟩ := drag_nums hv
    have hr : dOk l hosts := by
      rcases hv with ⟨q0, q1⟩ | ⟨q0, q1⟩ | ⟨q0, q1⟩
      · cases q0
      · cases q0
      · exact q1
    have h8 := hr.2.2.1
    have h9 := hr.2.2.2.1
    rw [e0] at h8
    rw [e1] at h9
    rw [e0, e1]
    simp only [Int.toNat_natCast]
    unfold nbD
    rw [sort_len, List.length_append, dgB_len]
    have := dgA_len a (x / (a : Int)) (x % (a : Int)) a
    omega
/-- Distance of any network -/
theorem Distance_ok {w : World} {sa : Option Addr} {l : List Int} (h : Ints w sa l) (sc : Nat) (kind hosts : Int) {x y : Int} (hv : vOk kind l hosts) (h0 : 0 ≤ x) (h1 : x < swI kind l) (g0 : 0 ≤ y) (g1 : y < swI kind l) :
    Calls Tryz.prog 16 #[.agg #[.int .i64 kind, .slice sa l.length sc, .int .i64 hosts], .int .i64 x, .int .i64 y] w fun e w' => ∃ d, e = .returned (.tuple #[.int .i64 d, .int .i64 0]) ∧ DistAt (nbS kind l) y x d ∧ Below w.heap.size w w' := by
  obtain ⟨hbx, q0, q1, hz⟩ := twoN w (.cells #[.int .i64 kind, .slice sa l.length sc, .int .i64 hosts] 24) (.cells #[.int .i64 x, .int .i64 y] 3)
  have HB := Lib.hid hbx
  have c0 := cellR 0 (heap_alloc_new w (.cells #[.int .i64 kind, .slice sa l.length sc, .int .i64 hosts] 24)) rfl
  have c1 := cellR 1 (heap_alloc_new w (.cells #[.int .i64 kind, .slice sa l.length sc, .int .i64 hosts] 24)) rfl
  have c2 := cellR 2 (heap_alloc_new w (.cells #[.int .i64 kind, .slice sa l.length sc, .int .i64 hosts] 24)) rfl
  obtain ⟨ty, fs, fn, rcv, sw, hnv, hse, hsl, hnk⟩ := netK (h.keep hbx) sc hv
  have hin : inB (swI kind l) [x, y] = true := by simp [inB]; omega
  have hi : Ints ((w.alloc (.cells #[.int .i64 kind, .slice sa l.length sc, .int .i64 hosts] 24)).alloc (.cells #[.int .i64 x, .int .i64 y] 3)) (some ⟨w.heap.size + 1, 0, none⟩) [x, y] := by
    have hra : RowAt ((w.alloc (.cells #[.int .i64 kind, .slice sa l.length sc, .int .i64 hosts] 24)).alloc (.cells #[.int .i64 x, .int .i64 y] 3)) (w.heap.size + 1) [x, y] := by
      unfold RowAt; rw [q1]; rw [show rowA [x, y] = #[.int .i64 x, .int .i64 y] by unfold rowA; rfl]
    exact hra.ints (by simp)
  have HC := Lib.hid (networkWith_any (h.keep hbx) hi sc 2 kind hosts)
  rw [show withV kind sa sc l hosts [x, y] = .tuple #[.iface ty rcv, .int .i64 0] by unfold withV; rw [if_pos hv, if_pos hin, hnv]] at HC
  have hsy : ∀ a : Nat, a < sw → ∀ z ∈ nbS kind l (a : Int), 0 ≤ z ∧ z < (sw : Int) := fun a ha z hz => by
    have := (net_sym hv (x := (a : Int)) (by omega) (by omega) z hz).1
    omega
  rw [← hse] at h1 g1
  obtain ⟨yn, rfl⟩ := Int.eq_ofNat_of_zero_le g0
  obtain ⟨xn, rfl⟩ := Int.eq_ofNat_of_zero_le h0
  have HXL : Hid (xn < sw) := by show _ < _; omega
  have HYL : Hid (yn < sw) := by show _ < _; omega
  have HK := Lib.hid hnk
  have HSY := Lib.hid hsy
  have HSL := Lib.hid hsl
  have HZ := Lib.hid hz
  clear h hbx q0 q1 hi hz hv hin hnv hse hnk hsy h1 g1 g0 h0 hsl
  simp only [List.length_cons, List.length_nil, Nat.reduceAdd] at HC
  generalize l.length = M at *
  go_enter Tryz.func16, Tryz.ntmps16
  go_wp2_with fail
  refine HC.out.mono ?_
  rintro e w1 ⟨rfl, hb1⟩
  have HB1 := Lib.hid (HB.out.trans (hb1.mono (by rw [HZ.out]; omega)))
  have HD := Lib.hid (distances_any (lo := ((w.alloc (.cells #[.int .i64 kind, .slice sa M sc, .int .i64 hosts] 24)).alloc (.cells #[.int .i64 (xn : Int), .int .i64 (yn : Int)] 3)).heap.size) hb1.size (by have := HSL.out; omega) (HK.out.later hb1) HSY.out HYL.out)
  clear HC hb1 HB c0 c1 c2 HK HSY
  go_wp2_with fail
  refine HD.out.mono ?_
  rintro e w2 ⟨g, dl, rfl, hr, hg, hlen, hdi, hb2⟩
  have hxs := HXL.out
  have cx := hr.cell xn (by rw [hlen]; exact hxs)
  have HF : Hid (DistAt (nbS kind l) (yn : Int) (xn : Int) (dl[xn]'(by rw [hlen]; exact hxs)) ∧ Below w.heap.size w w2) := by
    have h9 := hdi xn hxs
    rw [show dl.getD xn 0 = dl[xn]'(by rw [hlen]; exact hxs) by simp [List.getD, hlen, hxs]] at h9
    exact ⟨h9, HB1.out.trans (hb2.mono HB1.out.size)⟩
  generalize dl[xn]'(by rw [hlen]; exact hxs) = dv at *
  clear HD hr hdi hb2 hlen HB1
  go_wp2_with fail
  go_ret2
  exact ⟨dv, rfl, HF.out.1, HF.out.2⟩
end Go.Proofs.YtbhkenphcahifaaGreat

namespace Go.Proofs.YtbhkenphcahifaaGreat
open Go.RowKit Go.Shelf
attribute [local go_sem] Oper.semAt_some
set_option maxRecDepth 100000
set_option maxHeartbeats 4000000

theorem Chain.each {nb : Int → List Int} {P : Int → Prop} (hs : ∀ x, P x → ∀ z ∈ nb x, P z) {y : Int} : ∀ (L : List Int) (x : Int), P x → Chain nb x L y → (∀ i (h : i < L.length), P ((x :: L)[i]'(by simp; omega)) ∧ L[i] ∈ nb ((x :: L)[i]'(by simp; omega))) ∧ (x :: L)[L.length]'(by simp) = y
  | [], x, hx, h => ⟨fun i hi => by simp at hi, h⟩
  | z :: L, x, hx, h => by
    obtain ⟨i1, i2⟩ := Chain.each hs L z (hs x hx z h.1) h.2
    refine ⟨fun i hi => ?_, by simpa using i2⟩
    cases i with
    | zero => exact ⟨hx, h.1⟩
    | succ i => simpa using i1 i (by simpa using hi)
theorem path_ok {w : World} {sa : Option Addr} {l : List Int} (h : Ints w sa l) (sc : Nat) (kind hosts : Int) (hv : vOk kind l hosts) {pa : Option Addr} {x y : Int} {L : List Int} (hp : Ints w pa (x :: L)) (pc : Nat) (h0 : 0 ≤ x) (h1 : x < swI kind l) (hL : L.length ≤ 100000) (hc : Chain (nbS kind l) x L y) :
    Calls Tryz.prog 36 #[.agg #[.int .i64 kind, .slice sa l.length sc, .int .i64 hosts], .slice pa (L.length + 1) pc, .int .i64 x, .int .i64 y] w fun e w' => e = .returned (.bool true) ∧ Below w.heap.size w w' := by
  obtain ⟨he, hlast⟩ := Chain.each (P := fun a => 0 ≤ a ∧ a < swI kind l) (fun a ha z hz => (net_sym hv ha.1 ha.2 z hz).1) L x ⟨h0, h1⟩ hc
  obtain ⟨gp, op, rfl, hcell⟩ := hp.at_ (by simp)
  have cP := Lib.hid (fun (W : World) (hb : Below w.heap.size w W) (j : Nat) (hj : j < (x :: L).length) => (hb.cell (p := ⟨gp, op + j, none⟩) (block_lt_of_cell (hcell j hj))).trans (hcell j hj))
  have HB := Lib.hid ((Below.refl w.heap.size w).alloc (Nat.le_refl _) (.cells #[.int .i64 kind, .slice sa l.length sc, .int .i64 hosts] 24))
  have Q0 := Lib.hid (heap_alloc_new w (.cells #[.int .i64 kind, .slice sa l.length sc, .int .i64 hosts] 24))
  have HNB := Lib.hid (fun (W : World) (hb : Below w.heap.size w W) (a : Int) (a0 : 0 ≤ a) (a1 : a < swI kind l) => Neighbors_ok (h.keep hb) sc kind hosts a hv a0 a1)
  have HE := Lib.hid he
  have HLL := Lib.hid hL
  have cx := (cP.out _ HB.out 0 (by simp))
  have cy := (cP.out _ HB.out L.length (by simp))
  rw [hlast] at cy
  simp only [List.getElem_cons_zero, Nat.add_zero] at cx
  have hxx : (x != x) = false := by simp
  have hyy : (y != y) = false := by simp
  have hn5 : L.length ≤ 100000 := hL
  clear h hp he hlast hcell hc hv h0 h1 hL
  obtain ⟨N, hN⟩ : ∃ N, N = L.length := ⟨_, rfl⟩
  have HN := Lib.hid hN
  rw [← hN] at cy hn5 ⊢
  clear hN
  generalize l.length = M at *
  go_enter Tryz.func36, Tryz.ntmps36
  go_wp2_with fail
  generalize hX : w.alloc (.cells #[.int .i64 kind, .slice sa M sc, .int .i64 hosts] 24) = X at *
  clear hX cx cy hxx hyy
  go_loopw [9] (fun iv wr => ∃ i : Nat, 1 ≤ i ∧ i ≤ N + 1 ∧ iv = .int .i64 (i : Int) ∧ Hid (Below w.heap.size w wr ∧ wr.heap[w.heap.size]? = some (.cells #[.int .i64 kind, .slice sa M sc, .int .i64 hosts] 24 (0, 0)))) (fun iv _ => N + 1 - (intOf iv).toNat)
  case atStart => exact ⟨1, Nat.le_refl _, by omega, rfl, HB.out, Q0.out⟩
  case round =>
    clear HB Q0
    obtain ⟨i, hi1, hi2, rfl, HR⟩ := hrel
    by_cases hlt : i < N + 1
    · obtain ⟨j, rfl⟩ : ∃ j, i = j + 1 := ⟨i - 1, by omega⟩
      have hjN : j < N := by omega
      have cS := HR.out.2
      obtain ⟨a, ha⟩ : ∃ a, a = (x :: L)[j]'(by simp; have := HN.out; omega) := ⟨_, rfl⟩
      obtain ⟨b, hb⟩ : ∃ b, b = L[j]'(by have := HN.out; omega) := ⟨_, rfl⟩
      have HA : Hid (0 ≤ a ∧ a < swI kind l) := by rw [ha]; exact (HE.out j (by have := HN.out; omega)).1
      have HBN : Hid (b ∈ nbS kind l a) := by rw [ha, hb]; exact (HE.out j (by have := HN.out; omega)).2
      have HCA : Hid (∀ W, Below w.heap.size w W → W.cell? ⟨gp, op + j, none⟩ = some (.int .i64 a)) := fun W hW => by rw [ha]; exact cP.out W hW j (by simp; have := HN.out; omega)
      have HCB : Hid (∀ W, Below w.heap.size w W → W.cell? ⟨gp, op + (j + 1), none⟩ = some (.int .i64 b)) := fun W hW => by
        have h9 := cP.out W hW (j + 1) (by simp; have := HN.out; omega)
        rw [List.getElem_cons_succ] at h9
        rw [hb]; exact h9
      have HES : Hid (∀ W : World, (binOp .sub 3 (.int .i64 ((j + 1 : Nat) : Int)) (.int .i64 1)).run Tryz.prog W = .ok (.int .i64 (j : Int)) W) := fun W => by
        have h9 := i64_sub ((j + 1 : Nat) : Int) 1 (by omega) (by omega) W
        rw [show ((j + 1 : Nat) : Int) - 1 = (j : Int) by omega] at h9
        exact h9
      clear ha hb cS
      go_wp2_with fail
      refine (wpIn_wide (n := 0)).1 ?_
      refine region_det (by kernel_rfl) (I := fun listed a' w' => ∃ v : Value, Hid (Below w.heap.size w w' ∧ w'.heap[w.heap.size]? = some (.cells #[.int .i64 kind, .slice sa M sc, .int .i64 hosts] 24 (0, 0))) ∧ Hid (listed.getD 6 false = true → ∃ B, NewInts B w' v (nbS kind l a)) ∧ Hid (listed.getD 7 false = true → listed.getD 6 false = true) ∧ Hid (listed.getD 8 false = true → listed.getD 6 false = true) ∧ Hid (listed.getD 10 false = true → listed.getD 6 false = true) ∧ a' = ⟨#[Value.agg #[Value.int IntKind.i64 kind, Value.slice sa M sc, Value.int IntKind.i64 hosts], Value.slice (some (Addr.mk gp op none)) (N + 1) pc, Value.int IntKind.i64 x, Value.int IntKind.i64 y, Value.pointer (some (Addr.mk w.heap.size 0 none)), undef, undef, undef, u8, Value.int IntKind.i64 ↑(j + 1), (if listed.getD 10 false = true then v else u10), (if listed.getD 11 false = true then Value.int IntKind.i64 (0) else u11), Value.slice (some (Addr.mk gp op none)) (N + 1) pc, Value.int IntKind.i64 (↑N + 1), Value.bool false, Value.bool false, Value.slice (some (Addr.mk gp op none)) (N + 1) pc, Value.pointer (some (Addr.mk gp op none)), Value.int IntKind.i64 x, Value.int IntKind.i64 x, Value.bool false, Value.bool false, Value.bool false, Value.slice (some (Addr.mk gp op none)) (N + 1) pc, Value.slice (some (Addr.mk gp op none)) (N + 1) pc, Value.int IntKind.i64 (↑N + 1), Value.int IntKind.i64 ↑N, Value.pointer (some (Addr.mk gp (op + N) none)), Value.int IntKind.i64 y, Value.int IntKind.i64 y, Value.bool false, Value.bool false, Value.int IntKind.i64 ↑(j + 1), Value.slice (some (Addr.mk gp op none)) (N + 1) pc, Value.int IntKind.i64 (↑N + 1), Value.bool true, u36, u37, (if listed.getD 7 false = true then Value.tuple #[v, Value.int IntKind.i64 (0)] else u38), (if listed.getD 0 false = true then Value.agg #[.int .i64 kind, .slice sa M sc, .int .i64 hosts] else u39), (if listed.getD 1 false = true then Value.slice (some ⟨gp, op, none⟩) (N + 1) pc else u40), (if listed.getD 2 false = true then Value.int IntKind.i64 (((j + 1 : Nat) : Int)) else u41), (if listed.getD 3 false = true then Value.int IntKind.i64 ((j : Int)) else u42), (if listed.getD 4 false = true then Value.pointer (some ⟨gp, op + j, none⟩) else u43), (if listed.getD 5 false = true then Value.int IntKind.i64 (a) else u44), (if listed.getD 6 false = true then Value.tuple #[v, Value.int IntKind.i64 (0)] else u45), (if listed.getD 8 false = true then v else u46), (if listed.getD 9 false = true then Value.int IntKind.i64 (0) else u47), u48, u49, u50, u51, u52, u53, u54, u55, u56, u57, u58], []⟩) (hup_check (by kernel_rfl)) ?h0 ?step ?fin
      case h0 => exact ⟨.nilFunc, ⟨HR.out.1.drew, HR.out.2⟩, (fun h => by simp at h), (fun h => by simp at h), (fun h => by simp at h), (fun h => by simp at h), rfl⟩
      case step =>
        intro listed a' w' i hs hbi hdep hi ⟨v, IB, IV, J7, J8, J10, ha⟩
        obtain ⟨ls⟩ := listed
        match ls, hs with
        | [x0, x1, x2, x3, x4, x5, x6, x7, x8, x9, x10, x11], _ =>
        subst ha
        have hi' : i = 0 ∨ i = 1 ∨ i = 2 ∨ i = 3 ∨ i = 4 ∨ i = 5 ∨ i = 6 ∨ i = 7 ∨ i = 8 ∨ i = 9 ∨ i = 10 ∨ i = 11 := by simp at hi; omega
        rcases hi' with rfl | rfl | rfl | rfl | rfl | rfl | rfl | rfl | rfl | rfl | rfl | rfl
        · obtain rfl : x0 = false := by simpa using hbi
          refine wpOpIn_load_row rfl rfl 24 _ rfl w.heap.size rfl 24 _ _ _ IB.out.2 Tryz.underlying24 rfl info24 ?_
          exact ⟨v, IB, IV, J7, J8, J10, rfl⟩
        · obtain rfl : x1 = false := by simpa using hbi
          refine wpOpIn_plain rfl rfl rfl ?_
          exact ⟨v, IB, IV, J7, J8, J10, rfl⟩
        · obtain rfl : x2 = false := by simpa using hbi
          refine wpOpIn_plain rfl rfl rfl ?_
          exact ⟨v, IB, IV, J7, J8, J10, rfl⟩
        · obtain rfl : x3 = false := by simpa using hbi
          obtain rfl : x2 = true := hdep _ rfl ⟨2, .data⟩ (by simp) rfl
          refine wpOpIn_plain (v := Value.int IntKind.i64 ((j : Int))) (w' := w') rfl rfl (sem_bin (vx := Value.int IntKind.i64 (((j + 1 : Nat) : Int))) (vy := Value.int IntKind.i64 (1)) rfl rfl rfl rfl (HES.out w')) ?_
          exact ⟨v, IB, IV, J7, J8, J10, rfl⟩
        · obtain rfl : x4 = false := by simpa using hbi
          obtain rfl : x1 = true := hdep _ rfl ⟨1, .data⟩ (by simp) rfl
          obtain rfl : x3 = true := hdep _ rfl ⟨3, .data⟩ (by simp) rfl
          refine wpOpIn_plain (v := Value.pointer (some ⟨gp, op + j, none⟩)) (w' := w') rfl rfl ?_ ?_
          · go_simp
            try (intro h9; omega)
          exact ⟨v, IB, IV, J7, J8, J10, rfl⟩
        · obtain rfl : x5 = false := by simpa using hbi
          obtain rfl : x4 = true := hdep _ rfl ⟨4, .data⟩ (by simp) rfl
          have c9 := HCA.out _ IB.out.1
          refine wpOpIn_plain (v := Value.int IntKind.i64 (a)) (w' := w') rfl rfl (by simp [Oper.semAt, execOp, go_sem, c9]) ?_
          exact ⟨v, IB, IV, J7, J8, J10, rfl⟩
        · obtain rfl : x6 = false := by simpa using hbi
          obtain rfl : x0 = true := hdep _ rfl ⟨0, .data⟩ (by simp) rfl
          obtain rfl : x5 = true := hdep _ rfl ⟨5, .data⟩ (by simp) rfl
          obtain rfl : x7 = false := Bool.eq_false_iff.2 fun h => by have := J7.out h; cases this
          obtain rfl : x8 = false := Bool.eq_false_iff.2 fun h => by have := J8.out h; cases this
          obtain rfl : x10 = false := Bool.eq_false_iff.2 fun h => by have := J10.out h; cases this
          refine wpOpIn_call (args := #[Value.agg #[.int .i64 kind, .slice sa M sc, .int .i64 hosts], Value.int IntKind.i64 (a)]) rfl rfl (sem_call2 rfl rfl rfl (enters_of Tryz.func13 (by kernel_rfl) rfl)) (HNB.out w' IB.out.1 a HA.out.1 HA.out.2) ?_
          rintro e V ⟨v2, rfl, hn2, hb2⟩
          exact ⟨_, rfl, v2, ⟨IB.out.1.trans (hb2.mono IB.out.1.size), heapB hb2 IB.out.2⟩, (fun _ => ⟨_, hn2⟩), (fun _ => rfl), (fun _ => rfl), (fun _ => rfl), rfl⟩
        · obtain rfl : x7 = false := by simpa using hbi
          obtain rfl : x6 = true := hdep _ rfl ⟨6, .data⟩ (by simp) rfl
          refine wpOpIn_plain rfl rfl rfl ?_
          exact ⟨v, IB, IV, (fun _ => rfl), J8, J10, rfl⟩
        · obtain rfl : x8 = false := by simpa using hbi
          obtain rfl : x7 = true := hdep _ rfl ⟨7, .data⟩ (by simp) rfl
          refine wpOpIn_plain rfl rfl rfl ?_
          exact ⟨v, IB, IV, J7, (fun _ => J7.out rfl), J10, rfl⟩
        · obtain rfl : x9 = false := by simpa using hbi
          obtain rfl : x7 = true := hdep _ rfl ⟨7, .data⟩ (by simp) rfl
          refine wpOpIn_plain rfl rfl rfl ?_
          exact ⟨v, IB, IV, J7, J8, J10, rfl⟩
        · obtain rfl : x10 = false := by simpa using hbi
          obtain rfl : x8 = true := hdep _ rfl ⟨8, .data⟩ (by simp) rfl
          refine wpOpIn_plain rfl rfl rfl ?_
          exact ⟨v, IB, IV, J7, J8, (fun _ => J8.out rfl), rfl⟩
        · obtain rfl : x11 = false := by simpa using hbi
          obtain rfl : x9 = true := hdep _ rfl ⟨9, .data⟩ (by simp) rfl
          refine wpOpIn_plain rfl rfl rfl ?_
          exact ⟨v, IB, IV, J7, J8, J10, rfl⟩
      case fin =>
      intro listed a' w6 hs hall ⟨v, IB, IV, J7, J8, J10, ha⟩
      obtain ⟨ls⟩ := listed
      match ls, hs with
      | [x0, x1, x2, x3, x4, x5, x6, x7, x8, x9, x10, x11], _ =>
      obtain rfl : x0 = true := hall 0 (by simp)
      obtain rfl : x1 = true := hall 1 (by simp)
      obtain rfl : x2 = true := hall 2 (by simp)
      obtain rfl : x3 = true := hall 3 (by simp)
      obtain rfl : x4 = true := hall 4 (by simp)
      obtain rfl : x5 = true := hall 5 (by simp)
      obtain rfl : x6 = true := hall 6 (by simp)
      obtain rfl : x7 = true := hall 7 (by simp)
      obtain rfl : x8 = true := hall 8 (by simp)
      obtain rfl : x9 = true := hall 9 (by simp)
      obtain rfl : x10 = true := hall 10 (by simp)
      obtain rfl : x11 = true := hall 11 (by simp)
      subst ha
      obtain ⟨B9, hn9⟩ := IV.out rfl
      have HR6 := IB
      obtain ⟨av, cv, rfl, hiv⟩ := hn9.ints
      have HCN := Lib.hid (contains_any hiv cv b)
      rw [show decide (b ∈ nbS kind l a) = true from decide_eq_true HBN.out] at HCN
      have cb := HCB.out _ HR6.out.1
      clear IV IB hn9 hiv hs hall HR
      generalize (nbS kind l a).length = NL at *
      go_wp2_with fail
      refine HCN.out.mono ?_
      rintro e w7 ⟨rfl, rfl⟩
      clear HCN
      go_wp2_with fail
      go_roundw
      case rel => exact ⟨j + 2, by omega, by omega, by go_num, HR6⟩
      case measure => simp [intOf]; omega
    · have hiN : i = N + 1 := by omega
      subst hiN
      go_wp2_with fail
      go_ret
      exact ⟨rfl, HR.out.1⟩
end Go.Proofs.YtbhkenphcahifaaGreat
