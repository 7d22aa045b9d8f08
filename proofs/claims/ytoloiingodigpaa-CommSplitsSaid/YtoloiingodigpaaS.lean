import Derived.Test.YtoloiingodigpaaT
import Derived.Maps.OwnIn
namespace Go.Proofs.Ytoloiingodigpaa
open Go.RowKit Go.Shelf
attribute [local go_sem] Oper.semAt_some litE

/-- the numbers of a range -/
def strideL (f l s : Int) : List Int := (List.range (strideN f l s)).map fun (i : Nat) => f + (i : Int) * s

set_option maxHeartbeats 400000 in
theorem strides_any {w : World} (ex : Nat → Prop) (h1 : ¬ ex w.heap.size) (h2 : ¬ ex (w.heap.size + 1)) (h3 : ¬ ex (w.heap.size + 2)) (f l s : Int) (hf : I64 f) (hl : I64 l) (hs : I64 s) (h0 : s ≠ 0) :
    Calls Try.prog 76 #[.int .i64 f, .int .i64 l, .int .i64 s] w fun e w' => ∃ lb, e = .returned (.func (.func 109) #[] lb) ∧ Below w.heap.size w w' ∧ w'.heap.size = w.heap.size + 3 ∧ SIter f l s lb ex w' := by
  have HF := Lib.hid hf
  have HL := Lib.hid hl
  have HS := Lib.hid hs
  have H0 := Lib.hid h0
  clear hf hl hs h0
  go_enter Try.func76, Try.ntmps76
  go_wp2_with fail
  go_ret
  refine ⟨_, rfl, (((Below.refl _ _).alloc (Nat.le_refl _) _).alloc (by simp) _).alloc (by simp; omega) _, by simp, ?_⟩
  rcases Int.lt_or_gt_of_ne H0.out with hn | hp
  · exact strideIter_neg _ _ _ ex h3 h1 h2 f l s HF.out HL.out HS.out hn (by go_simp) (by go_simp) (by go_simp)
  · exact strideIter_pos _ _ _ ex h3 h1 h2 f l s HF.out HL.out HS.out hp (by go_simp) (by go_simp) (by go_simp)

/-- what the ranges give: the numbers, or an error -/
def rangesGo (n : Int) (out : List Int) : List (Int × Int × Int) → List Int × Int
  | [] => (out, 0)
  | (f, l, s) :: rest => if s = 0 then ([], 2) else if setErr out (strideL f l s) n ≠ 0 then ([], setErr out (strideL f l s) n) else rangesGo n (out ++ strideL f l s) rest
def rangesL (n : Int) (l : List (Int × Int × Int)) : List Int × Int := if n < 0 ∨ 64 < n then ([], 3) else rangesGo n [] l

/-- a slice of triples -/
structure Trips (w : World) (a : Option Addr) (l : List (Int × Int × Int)) : Prop where
  len : l.length ≤ 17592186044416
  at_ : l ≠ [] → ∃ b off, a = some ⟨b, off, none⟩ ∧ ∀ j (h : j < l.length), w.cell? ⟨b, off + j * 3, none⟩ = some (.int .i64 l[j].1) ∧ w.cell? ⟨b, off + j * 3 + 1, none⟩ = some (.int .i64 l[j].2.1) ∧ w.cell? ⟨b, off + j * 3 + 2, none⟩ = some (.int .i64 l[j].2.2)
  wf : ∀ x ∈ l, I64 x.1 ∧ I64 x.2.1 ∧ I64 x.2.2

/-- the state of Ranges -/
structure RSt (B : Nat) (n : Int) (out : List Int) (W : World) : Prop where
  b0 : BoxI W B n
  b1 : W.heap[B + 1]? = some (.cells #[.slice none 0 0] 22 (0, 0))
  b2 : W.heap[B + 2]? = some (.cells #[.int .i64 0] 25 (0, 0))
  b3 : SetAt W (B + 3) (inS out)
  b4 : ∃ v, W.heap[B + 4]? = some (.cells #[v] 22 (0, 0)) ∧ W.ownsRow (B + 5) 3 1 v out.length (out.map (Value.int .i64))
/-- the results of Ranges that failed -/
def RErr (B : Nat) (e : Int) (W : World) : Prop := W.heap[B + 1]? = some (.cells #[.slice none 0 0] 22 (0, 0)) ∧ W.heap[B + 2]? = some (.cells #[.int .i64 e] 25 (0, 0))

/-- all cells of W are those of W' -/
def Cells (W W' : World) : Prop := ∀ (k : Nat) (o : Obj), W.heap[k]? = some o → o.isCells = true → W'.heap[k]? = some o
theorem Cells.of_below {W W' : World} (h : Below W.heap.size W W') : Cells W W' := fun k _ hk _ => (h.block k (Array.getElem?_eq_some_iff.1 hk).1).trans hk
theorem Cells.of_same {W W' : World} (h : CellsSame W W') : Cells W W' := h.block
theorem own_cells {B n : Nat} {v : Value} {xs : List Value} {W W' : World} (h : W.ownsRow B 3 1 v n xs) (hc : Cells W W') : W'.ownsRow B 3 1 v n xs := by
  refine ⟨h.1, ?_⟩
  rcases h.2 with h2 | ⟨g, cap, cur, h1, h3, h4, h5⟩
  · exact .inl h2
  · exact .inr ⟨g, cap, cur, h1, h3, hc g _ h4 rfl, h5⟩
theorem RSt.cells {B : Nat} {n : Int} {out : List Int} {W W' : World} (h : RSt B n out W) (hc : Cells W W') : RSt B n out W' :=
  ⟨hc _ _ h.b0 rfl, hc _ _ h.b1 rfl, hc _ _ h.b2 rfl, hc _ _ h.b3 rfl, by obtain ⟨v, h1, h2⟩ := h.b4; exact ⟨v, hc _ _ h1 rfl, own_cells h2 hc⟩⟩
theorem RErr.cells {B : Nat} {e : Int} {W W' : World} (h : RErr B e W) (hc : Cells W W') : RErr B e W' := ⟨hc _ _ h.1 rfl, hc _ _ h.2 rfl⟩
theorem cells_grown {B : Nat} {W W' : World} {row : Option Nat} (hg : W.grownBy W' row) (hr : ∀ r, row = some r → B ≤ r ∧ ∃ o : Obj, W.heap[r]? = some o ∧ o.isCells = false) : Cells W W' := fun k o hk hc => by
  refine (hg.block k (Array.getElem?_eq_some_iff.1 hk).1 (fun e => ?_)).trans hk
  obtain ⟨_, o', ho', hc'⟩ := hr k e.symm
  rw [hk] at ho'; cases ho'
  rw [hc] at hc'; cases hc'
theorem ownFrom_cells {β : Type} (B : Nat) (I : β → World → Prop) (h : ∀ s W W', I s W → Cells W W' → I s W') : OwnFrom B I := fun s X Y _ hs hg hr => h s X Y hs (cells_grown hg hr)
theorem ownFrom_marks {β : Type} (B b : Nat) (ds : List Deferred) (hd : ∀ d ∈ ds, ∀ D, d.target = .collected D → D < B) : OwnFrom B (fun (_ : β) W => Marks b ds W) := fun s X Y row hs hg hr => by
  refine ⟨hs.1, fun d hm => ?_⟩
  obtain ⟨D, h1, h2, h3⟩ := hs.2 d hm
  refine ⟨D, h1, h2, (hg.block D (Array.getElem?_eq_some_iff.1 h3).1 (fun e => ?_)).trans h3⟩
  obtain ⟨hB, _⟩ := hr D e.symm
  have := hd d hm D (by rw [h2])
  omega
theorem Marks.below {B : Nat} {ds : List Deferred} {W W' : World} (h : Marks B ds W) (hb : Below W.heap.size W W') : Marks B ds W' :=
  ⟨h.1, fun d hm => by obtain ⟨D, h1, h2, h3⟩ := h.2 d hm; exact ⟨D, h1, h2, (hb.block D (Array.getElem?_eq_some_iff.1 h3).1).trans h3⟩⟩
theorem Marks.lt {B : Nat} {ds : List Deferred} {W : World} (h : Marks B ds W) : ∀ d ∈ ds, ∀ D, d.target = .collected D → D < W.heap.size := fun d hm D e => by
  obtain ⟨D', h1, h2, h3⟩ := h.2 d hm
  rw [h2] at e
  cases e
  exact (Array.getElem?_eq_some_iff.1 h3).1

theorem Marks.setCell {B : Nat} {ds : List Deferred} {W : World} (h : Marks B ds W) (b o : Nat) (v : Value) (ob : Obj) (hb : W.heap[b]? = some ob) (hc : ob.isCells = true) : Marks B ds (W.setCell ⟨b, o, none⟩ v) :=
  ⟨h.1, fun d hm => by
    obtain ⟨D, h1, h2, h3⟩ := h.2 d hm
    refine ⟨D, h1, h2, (heap_setCell_other _ _ _ _ (fun e => ?_)).trans h3⟩
    simp only at e
    subst e; rw [hb] at h3; cases h3; cases hc⟩
theorem Marks.grown {B : Nat} {ds : List Deferred} {W W' : World} {row : Option Nat} (h : Marks B ds W) (hg : W.grownBy W' row) (hr : ∀ r, row = some r → ∃ ob, W.heap[r]? = some ob ∧ ob.isCells = true) : Marks B ds W' :=
  ⟨h.1, fun d hm => by
    obtain ⟨D, h1, h2, h3⟩ := h.2 d hm
    refine ⟨D, h1, h2, (hg.block D (Array.getElem?_eq_some_iff.1 h3).1 (fun e => ?_)).trans h3⟩
    obtain ⟨ob, ho, hc⟩ := hr D e.symm
    rw [ho] at h3; cases h3; cases hc⟩
/-- the numbers are not kept between lo and hi -/
def Far (B lo hi : Nat) (W : World) : Prop := ∀ v, W.heap[B + 4]? = some (.cells #[v] 22 (0, 0)) → ∀ g, v.ownBlock = some g → g < lo ∨ hi ≤ g
theorem Far.cells {B lo hi : Nat} {W W' : World} {n : Int} {out : List Int} (h : Far B lo hi W) (hs : RSt B n out W) (hc : Cells W W') : Far B lo hi W' := fun v hv => by
  obtain ⟨v0, h1, _⟩ := hs.b4
  have := hc _ _ h1 rfl
  rw [hv] at this
  cases this
  exact h v h1
theorem one_cell {w : World} {b t : Nat} {v : Value} (h : w.heap[b]? = some (.cells #[v] t (0, 0))) : w.cell? ⟨b, 0, none⟩ = some v ∧ w.frozen? ⟨b, 0, none⟩ = false ∧ b < w.heap.size := by
  refine ⟨?_, ?_, (Array.getElem?_eq_some_iff.1 h).1⟩ <;> simp [World.cell?, World.frozen?, h]
theorem set_one {w : World} {b t : Nat} {v : Value} (h : w.heap[b]? = some (.cells #[v] t (0, 0))) (u : Value) : (w.setCell ⟨b, 0, none⟩ u).heap[b]? = some (.cells #[u] t (0, 0)) := by
  rw [heap_setCell_same w b 0 _ t _ h]; rfl

theorem RSt.low {B : Nat} {n : Int} {out : List Int} {W : World} (h : RSt B n out W) : (∃ v, W.cell? ⟨B + 4, 0, none⟩ = some v) ∧ W.cell? ⟨B, 0, none⟩ = some (.int .i64 n) ∧ W.cell? ⟨B + 1, 0, none⟩ = some (.slice none 0 0) ∧ W.frozen? ⟨B + 1, 0, none⟩ = false ∧ B + 1 < W.heap.size ∧ W.cell? ⟨B + 1 + 1, 0, none⟩ = some (.int .i64 0) ∧ W.frozen? ⟨B + 1 + 1, 0, none⟩ = false ∧ B + 1 + 1 < W.heap.size ∧ SetAt W (B + 1 + 1 + 1) (inS out) := by
  obtain ⟨v, h1, _⟩ := h.b4
  obtain ⟨a1, a2, a3⟩ := one_cell h.b1
  obtain ⟨b1, b2, b3⟩ := one_cell h.b2
  exact ⟨⟨v, (one_cell h1).1⟩, h.b0.cell.1, a1, a2, a3, b1, b2, b3, h.b3⟩
/-- the stores of an error -/
theorem RSt.fail {B : Nat} {n : Int} {out : List Int} {W : World} (h : RSt B n out W) (e : Int) : RErr B e ((W.setCell ⟨B + 1, 0, none⟩ (.slice none 0 0)).setCell ⟨B + 1 + 1, 0, none⟩ (.int .i64 e)) :=
  ⟨by rw [heap_setCell_other _ _ _ _ (by simp)]; exact set_one h.b1 _, set_one (by rw [heap_setCell_other _ _ _ _ (by simp)]; exact h.b2) _⟩
theorem Marks.fail {B b : Nat} {n : Int} {out : List Int} {W : World} {ds : List Deferred} (h : RSt B n out W) (hm : Marks b ds W) (e : Int) : Marks b ds ((W.setCell ⟨B + 1, 0, none⟩ (.slice none 0 0)).setCell ⟨B + 1 + 1, 0, none⟩ (.int .i64 e)) :=
  (hm.setCell _ _ _ _ h.b1 rfl).setCell _ _ _ (.cells #[.int .i64 0] 25 (0, 0)) (by rw [heap_setCell_other _ _ _ _ (by simp)]; exact h.b2) rfl

theorem KeepP.grown {ex : Nat → Prop} {a W W' : World} {row : Option Nat} (h : KeepP ex a W) (hg : W.grownBy W' row) (hr : ∀ r, row = some r → ex r) : KeepP ex a W' :=
  h.trans ⟨hg.os, hg.tape, hg.output, hg.size, fun k _ hk _ he => (hg.block k (Array.getElem?_eq_some_iff.1 hk).1 (fun e => he (hr k e.symm))).trans hk⟩
theorem own_set {w : World} {B b o : Nat} {u v : Value} {n : Nat} {xs : List Value} (h : w.ownsRow B 3 1 v n xs) (hb : b < B) : (w.setCell ⟨b, o, none⟩ u).ownsRow B 3 1 v n xs := by
  refine ⟨h.1, ?_⟩
  rcases h.2 with h2 | ⟨g, cap, cur, h1, h3, h4, h5⟩
  · exact .inl h2
  · exact .inr ⟨g, cap, cur, h1, h3, (heap_setCell_other _ _ _ _ (by simp only; omega)).trans h4, h5⟩
theorem own_obj {w : World} {B : Nat} {v : Value} {n : Nat} {xs : List Value} (h : w.ownsRow B 3 1 v n xs) : ∀ r, v.ownBlock = some r → ∃ ob, w.heap[r]? = some ob ∧ ob.isCells = true := fun r hr => by
  rcases h.2 with ⟨rfl, _⟩ | ⟨g, cap, cur, rfl, h3, h4, h5⟩
  · cases hr
  · cases hr; exact ⟨_, h4, rfl⟩
theorem inS_snoc (l : List Int) (x : Nat) : (fun j => if j = x then true else inS l j) = inS (l ++ [(x : Int)]) := by
  funext j
  simp only [inS, List.mem_append, List.mem_singleton]
  by_cases hj : j = x
  · subst hj; simp
  · simp [hj, show ¬ (j : Int) = (x : Int) by omega]

theorem low_grown {W W2 : World} {B b n : Nat} {v : Value} {xs : List Value} {o ob : Obj} (hg : (W.alloc o).grownBy W2 v.ownBlock) (hown : W.ownsRow B 3 1 v n xs) (hb : W.heap[b]? = some ob) (hlt : b < B) : W2.heap[b]? = some ob := by
  have hl := (Array.getElem?_eq_some_iff.1 hb).1
  refine ((hg.block b (by simp; omega) (fun e => ?_)).trans (Below.heap_alloc _ _ _ hl)).trans hb
  have := (hown.lt b e.symm).1
  omega

theorem own_slice {w : World} {B : Nat} {v : Value} {n : Nat} {xs : List Value} (h : w.ownsRow B 3 1 v n xs) : ∃ a m c, v = .slice a m c := by
  rcases h.2 with ⟨rfl, _⟩ | ⟨g, cap, cur, rfl, _⟩
  · exact ⟨_, _, _, rfl⟩
  · exact ⟨_, _, _, rfl⟩

theorem results32 {w W : World} {v : Value} {e : Int} {tmps : Array Value} (h4 : tmps.getD 4 undef = .pointer (some ⟨w.heap.size + 1, 0, none⟩)) (h5 : tmps.getD 5 undef = .pointer (some ⟨w.heap.size + 1 + 1, 0, none⟩))
    (c1 : W.cell? ⟨w.heap.size + 1, 0, none⟩ = some v) (c2 : W.cell? ⟨w.heap.size + 1 + 1, 0, none⟩ = some (.int .i64 e)) (hv : ∃ a m c, v = .slice a m c) : (results Try.f32 tmps).run Try.prog W = .ok (.tuple #[v, .int .i64 e]) W := by
  obtain ⟨a, m, c, rfl⟩ := hv
  simp at h4 h5
  simp [results, Try.results32, go_sem, h4, h5, c1, c2]

theorem range_leave {w W : World} {n : Int} {l : List (Int × Int × Int)} {e : Int} {ds : List Deferred} {tmps : Array Value} (hM : Marks w.heap.size ds W) (hb : Below w.heap.size w W) (hR : RErr w.heap.size e W) (HT : Hid (rangesGo n [] l = ([], e)))
    (h4 : tmps.getD 4 undef = .pointer (some ⟨w.heap.size + 1, 0, none⟩) := by rfl) (h5 : tmps.getD 5 undef = .pointer (some ⟨w.heap.size + 1 + 1, 0, none⟩) := by rfl) :
    LeavesInM Fence.wide 3 Try.prog Try.f32 tmps (fun e w' => ∃ v, e = .returned (.tuple #[v, .int .i64 (rangesGo n [] l).2]) ∧ NewInts w.heap.size w' v (rangesGo n [] l).1 ∧ Below w.heap.size w w') ds .returning W := by
  rw [HT.out]
  refine leaves_marks ds W hM (CellsSame.refl W) hb fun w' hs hb' => ?_
  have hR' := hR.cells (Cells.of_same hs)
  refine ⟨_, results32 h4 h5 (one_cell hR'.1).1 (one_cell hR'.2).1 ⟨_, _, _, rfl⟩, _, rfl, ⟨World.ownsRow_nil _ _ _ _, by simp⟩, hb'⟩

theorem range_done {w wr : World} {n : Int} {l : List (Int × Int × Int)} {out : List Int} {ds : List Deferred} {tmps : Array Value} {aa : Option Addr} {am ac : Nat} (hM : Marks w.heap.size ds wr) (hb : Below w.heap.size w wr) (hS : RSt w.heap.size n out wr)
    (hown : wr.ownsRow (w.heap.size + 5) 3 1 (.slice aa am ac) out.length (out.map (Value.int .i64))) (hl : out.length ≤ 64) (HT : Hid (rangesGo n [] l = (out, 0)))
    (h4 : tmps.getD 4 undef = .pointer (some ⟨w.heap.size + 1, 0, none⟩) := by rfl) (h5 : tmps.getD 5 undef = .pointer (some ⟨w.heap.size + 1 + 1, 0, none⟩) := by rfl) :
    LeavesInM Fence.wide 3 Try.prog Try.f32 tmps (fun e w' => ∃ v, e = .returned (.tuple #[v, .int .i64 (rangesGo n [] l).2]) ∧ NewInts w.heap.size w' v (rangesGo n [] l).1 ∧ Below w.heap.size w w') ds .returning ((wr.setCell ⟨w.heap.size + 1, 0, none⟩ (.slice aa am ac)).setCell ⟨w.heap.size + 1 + 1, 0, none⟩ (.int .i64 0)) := by
  rw [HT.out]
  have hm1 : Marks w.heap.size ds ((wr.setCell ⟨w.heap.size + 1, 0, none⟩ (.slice aa am ac)).setCell ⟨w.heap.size + 1 + 1, 0, none⟩ (.int .i64 0)) :=
    (hM.setCell _ _ _ _ hS.b1 rfl).setCell _ _ _ (.cells #[.int .i64 0] 25 (0, 0)) (by rw [heap_setCell_other _ _ _ _ (by simp)]; exact hS.b2) rfl
  have c1 : ((wr.setCell ⟨w.heap.size + 1, 0, none⟩ (.slice aa am ac)).setCell ⟨w.heap.size + 1 + 1, 0, none⟩ (.int .i64 0)).heap[w.heap.size + 1]? = some (.cells #[.slice aa am ac] 22 (0, 0)) := by
    rw [heap_setCell_other _ _ _ _ (by simp)]; exact set_one hS.b1 _
  have c2 : ((wr.setCell ⟨w.heap.size + 1, 0, none⟩ (.slice aa am ac)).setCell ⟨w.heap.size + 1 + 1, 0, none⟩ (.int .i64 0)).heap[w.heap.size + 1 + 1]? = some (.cells #[.int .i64 0] 25 (0, 0)) :=
    set_one (by rw [heap_setCell_other _ _ _ _ (by simp)]; exact hS.b2) _
  have o1 := own_set (b := w.heap.size + 1 + 1) (o := 0) (u := .int .i64 0) (own_set (b := w.heap.size + 1) (o := 0) (u := .slice aa am ac) hown (by omega)) (by omega)
  refine leaves_marks ds _ hm1 (CellsSame.refl _) ((hb.setCell (by simp) _).setCell (by simp; omega) _) fun w' hs hb' => ?_
  have hc := Cells.of_same hs
  refine ⟨_, results32 h4 h5 (one_cell (hc _ _ c1 rfl)).1 (one_cell (hc _ _ c2 rfl)).1 ⟨_, _, _, rfl⟩, _, rfl, ⟨?_, by show out.length ≤ _; omega⟩, hb'⟩
  have := own_cells o1 hc
  refine ⟨this.1, ?_⟩
  rcases this.2 with h2 | ⟨g, cap, cur, h1, h3, h4, h5⟩
  · exact .inl h2
  · exact .inr ⟨g, cap, cur, h1, by omega, h4, h5⟩

set_option maxHeartbeats 1000000 in
theorem Ranges_bad {w : World} {a : Option Addr} {l : List (Int × Int × Int)} {cap : Nat} {n : Int} (hn : n < 0 ∨ 64 < n) :
    Calls Try.prog 32 #[.int .i64 n, .slice a l.length cap] w fun e w' => ∃ v, e = .returned (.tuple #[v, .int .i64 (rangesL n l).2]) ∧ NewInts w.heap.size w' v (rangesL n l).1 ∧ Below w.heap.size w w' := by
  have HV : Hid (rangesL n l = ([], 3)) := by show _ = _; unfold rangesL; rw [if_pos hn]
  rw [HV.out]
  have hb : Below w.heap.size w (((w.alloc (.cells #[.int .i64 n] 3)).alloc (.cells #[.slice none 0 0] 22)).alloc (.cells #[.int .i64 3] 25)) := (((Below.refl _ _).alloc (Nat.le_refl _) _).alloc (by simp) _).alloc (by simp; omega) _
  by_cases q : n < 0
  · go_enter Try.func32, Try.ntmps32
    go_wp2
    refine bodyPost_ret (v := .tuple #[.slice none 0 0, .int .i64 3]) (by simp [results, Try.results32, go_sem]) rfl ⟨_, rfl, ⟨World.ownsRow_nil _ _ _ _, by simp⟩, ?_⟩
    first | exact hb | exact (((((Below.refl _ _).alloc (Nat.le_refl _) _).alloc (by simp) _).alloc (by simp; omega) _).setCell (by simp) _).setCell (by simp; omega) _
  · have q2 : 64 < n := by omega
    go_enter Try.func32, Try.ntmps32
    go_wp2
    refine bodyPost_ret (v := .tuple #[.slice none 0 0, .int .i64 3]) (by simp [results, Try.results32, go_sem]) rfl ⟨_, rfl, ⟨World.ownsRow_nil _ _ _ _, by simp⟩, ?_⟩
    first | exact hb | exact (((((Below.refl _ _).alloc (Nat.le_refl _) _).alloc (by simp) _).alloc (by simp; omega) _).setCell (by simp) _).setCell (by simp; omega) _

theorem range_start (w : World) (n : Int) : RSt w.heap.size n [] (((((w.alloc (.cells #[.int .i64 n] 3)).alloc (.cells #[.slice none 0 0] 22)).alloc (.cells #[.int .i64 0] 25)).alloc (.cells setE 83)).alloc (.cells #[.slice none 0 0] 22)) ∧
    Below w.heap.size w (((((w.alloc (.cells #[.int .i64 n] 3)).alloc (.cells #[.slice none 0 0] 22)).alloc (.cells #[.int .i64 0] 25)).alloc (.cells setE 83)).alloc (.cells #[.slice none 0 0] 22)) ∧
    (((((w.alloc (.cells #[.int .i64 n] 3)).alloc (.cells #[.slice none 0 0] 22)).alloc (.cells #[.int .i64 0] 25)).alloc (.cells setE 83)).alloc (.cells #[.slice none 0 0] 22)).heap.size = w.heap.size + 5 := by
  refine ⟨⟨?_, ?_, ?_, ?_, ⟨_, ?_, World.ownsRow_nil _ _ _ _⟩⟩, ?_, by simp⟩
  · unfold BoxI
    rw [Below.heap_alloc _ _ _ (by first | (simp; done) | (simp; omega)), Below.heap_alloc _ _ _ (by first | (simp; done) | (simp; omega)), Below.heap_alloc _ _ _ (by first | (simp; done) | (simp; omega)), Below.heap_alloc _ _ _ (by simp)]
    exact World.alloc_heap_new w _
  · rw [Below.heap_alloc _ _ _ (by first | (simp; done) | (simp; omega)), Below.heap_alloc _ _ _ (by first | (simp; done) | (simp; omega)), Below.heap_alloc _ _ _ (by simp)]
    have := World.alloc_heap_new (w.alloc (.cells #[.int .i64 n] 3)) (.cells #[.slice none 0 0] 22)
    simpa using this
  · rw [Below.heap_alloc _ _ _ (by first | (simp; done) | (simp; omega)), Below.heap_alloc _ _ _ (by simp)]
    have := World.alloc_heap_new ((w.alloc (.cells #[.int .i64 n] 3)).alloc (.cells #[.slice none 0 0] 22)) (.cells #[.int .i64 0] 25)
    simpa using this
  · unfold SetAt
    rw [Below.heap_alloc _ _ _ (by simp), show inS [] = fun _ => false from by funext j; simp [inS], ← setE_eq]
    have := World.alloc_heap_new (((w.alloc (.cells #[.int .i64 n] 3)).alloc (.cells #[.slice none 0 0] 22)).alloc (.cells #[.int .i64 0] 25)) (.cells setE 83)
    simpa using this
  · have := World.alloc_heap_new ((((w.alloc (.cells #[.int .i64 n] 3)).alloc (.cells #[.slice none 0 0] 22)).alloc (.cells #[.int .i64 0] 25)).alloc (.cells setE 83)) (.cells #[.slice none 0 0] 22)
    simpa using this
  · exact (((((Below.refl _ _).alloc (Nat.le_refl _) _).alloc (by simp) _).alloc (by first | (simp; done) | (simp; omega)) _).alloc (by first | (simp; done) | (simp; omega)) _).alloc (by first | (simp; done) | (simp; omega)) _

set_option maxRecDepth 100000 in
set_option maxHeartbeats 8000000 in
theorem Ranges_any {w : World} {a : Option Addr} {l : List (Int × Int × Int)} (h : Trips w a l) (cap : Nat) (n : Int) :
    Calls Try.prog 32 #[.int .i64 n, .slice a l.length cap] w fun e w' => ∃ v, e = .returned (.tuple #[v, .int .i64 (rangesL n l).2]) ∧ NewInts w.heap.size w' v (rangesL n l).1 ∧ Below w.heap.size w w' := by
  have hlen := h.len
  by_cases hn : n < 0 ∨ 64 < n
  · exact Ranges_bad hn
  · have hn0 : ¬ n < 0 := by omega
    have hn1 : ¬ 64 < n := by omega
    have hn1' : n ≤ 64 := by omega
    have HV : Hid (rangesL n l = rangesGo n [] l) := by show _ = _; unfold rangesL; rw [if_neg hn]
    rw [HV.out]
    have HH := Lib.hid h
    clear h
    obtain ⟨i0, hi, hz0, hz1, hz2⟩ := info_parts Try.info3
    refine (callsIn_wide (n := 3)).1 ?_
    refine callsIn_of_wp_marks Try.func32 rfl trivial ?_ rfl
    simp only [Try.ntmps32, List.size_toArray, List.length_cons, List.length_nil, Nat.reduceAdd, Nat.reduceSub, Array.replicate_succ, Array.replicate_zero, List.push_toArray, List.append_toArray, List.nil_append, List.cons_append]
    gi_wp2
    obtain ⟨st0, bl0, sz0⟩ := range_start w n
    generalize ((((w.alloc (.cells #[.int .i64 n] 3)).alloc (.cells #[.slice none 0 0] 22)).alloc (.cells #[.int .i64 0] 25)).alloc (.cells setE 83)).alloc (.cells #[.slice none 0 0] 22) = W0 at *
    refine wpIn_loop (I := fun a' wr => ∃ (k : Nat) (out : List Int) (ds : List Deferred) (u8 u9 u10 u11 u12 u13 u14 u24 u25 u26 u27 u28 u29 u30 u31 u32 u33 u34 u35 u36 u37 u38 u39 u40 u41 u42 u43 u44 u45 u46 u47 u48 u49 u50 : Value), k ≤ l.length ∧ Hid (rangesGo n out (l.drop k) = rangesGo n [] l) ∧ Hid (setErr [] out n = 0) ∧ Hid (RSt w.heap.size n out wr) ∧ Marks w.heap.size ds wr ∧ Below w.heap.size w wr ∧ w.heap.size + 5 ≤ wr.heap.size ∧ a' = ⟨#[Value.int IntKind.i64 n, Value.slice a l.length cap, Value.pointer (some { block := w.heap.size, off := 0 }), undef, Value.pointer (some { block := w.heap.size + 1, off := 0 }), Value.pointer (some { block := w.heap.size + 1 + 1, off := 0 }), Value.pointer (some { block := w.heap.size + 1 + 1 + 1, off := 0 }), Value.pointer (some { block := w.heap.size + 1 + 1 + 1 + 1, off := 0 }), u8, u9, u10, u11, u12, u13, u14, Value.int IntKind.i64 n, Value.bool false, Value.bool false, Value.int IntKind.i64 n, Value.bool false, Value.bool false, Value.slice a l.length cap, Value.int IntKind.i64 ↑l.length, Value.int IntKind.i64 (k : Int), u24, u25, u26, u27, u28, u29, u30, u31, u32, u33, u34, u35, u36, u37, u38, u39, u40, u41, u42, u43, u44, u45, u46, u47, u48, u49, u50, undef], ds⟩)
      (fun a' _ => l.length - (intOf (a'.tmps.getD 23 undef)).toNat) ?h0 ?round
    case h0 => exact ⟨0, [], [], undef, undef, undef, undef, undef, undef, undef, undef, undef, undef, undef, undef, undef, undef, undef, undef, undef, undef, undef, undef, undef, undef, undef, undef, undef, undef, undef, undef, undef, undef, undef, undef, undef, undef, Nat.zero_le _, rfl, rfl, st0, ⟨by simp, by simp⟩, bl0, by omega, rfl⟩
    case round =>
      rintro a' wr ⟨k, out, ds, u8, u9, u10, u11, u12, u13, u14, u24, u25, u26, u27, u28, u29, u30, u31, u32, u33, u34, u35, u36, u37, u38, u39, u40, u41, u42, u43, u44, u45, u46, u47, u48, u49, u50, hk, HT, HE, HS, hM, hb, hz, rfl⟩
      clear st0 bl0 sz0
      have hz' : w.heap.size ≤ wr.heap.size := by omega
      by_cases hlt : k < l.length
      · obtain ⟨g, off, rfl, hcs⟩ := HH.out.at_ (ne_nil_of_lt hlt)
        obtain ⟨c0, c1, c2⟩ := hcs k hlt
        have d0 := (hb.cell (p := ⟨g, off + k * 3, none⟩) (block_lt_of_cell c0)).trans c0
        have d1 := (hb.cell (p := ⟨g, off + k * 3 + 1, none⟩) (block_lt_of_cell c1)).trans c1
        have d2 := (hb.cell (p := ⟨g, off + k * 3 + 2, none⟩) (block_lt_of_cell c2)).trans c2
        obtain ⟨w1, w2, w3⟩ := HH.out.wf _ (List.getElem_mem hlt)
        have HF : Hid (rangesGo n out (l.drop k) = if l[k].2.2 = 0 then ([], 2) else if setErr out (strideL l[k].1 l[k].2.1 l[k].2.2) n ≠ 0 then ([], setErr out (strideL l[k].1 l[k].2.1 l[k].2.2) n) else rangesGo n (out ++ strideL l[k].1 l[k].2.1 l[k].2.2) (l.drop (k + 1))) := by
          show _ = _; rw [List.drop_eq_getElem_cons hlt]; rfl
        have hgz := block_lt_of_cell d0
        simp only at hgz
        clear hcs c0 c1 c2
        generalize l[k].1 = fi at *
        generalize l[k].2.1 = la at *
        generalize l[k].2.2 = st at *
        have HW1 := Lib.hid w1
        have HW2 := Lib.hid w2
        have HW3 := Lib.hid w3
        clear w1 w2 w3
        gi_wp2
        have x0 : (wr.alloc (.cells #[.int .i64 fi, .int .i64 la, .int .i64 st] 81)).cell? ⟨wr.heap.size, 0, none⟩ = some (.int .i64 fi) := by simp
        have x1 : (wr.alloc (.cells #[.int .i64 fi, .int .i64 la, .int .i64 st] 81)).cell? ⟨wr.heap.size, 1, none⟩ = some (.int .i64 la) := by simp
        have x2 : (wr.alloc (.cells #[.int .i64 fi, .int .i64 la, .int .i64 st] 81)).cell? ⟨wr.heap.size, 2, none⟩ = some (.int .i64 st) := by simp
        have bx : Below wr.heap.size wr (wr.alloc (.cells #[.int .i64 fi, .int .i64 la, .int .i64 st] 81)) := (Below.refl _ _).alloc (Nat.le_refl _) _
        have zx : (wr.alloc (.cells #[.int .i64 fi, .int .i64 la, .int .i64 st] 81)).heap.size = wr.heap.size + 1 := by simp
        generalize wr.alloc (.cells #[.int .i64 fi, .int .i64 la, .int .i64 st] 81) = V at *
        have bV : Below w.heap.size w V := hb.trans (bx.mono hz')
        clear d0 d1 d2 hgz
        refine wpIn_wide.2 ?_
        go_region_held3 (fun w' => w'.cell? ⟨wr.heap.size, 0, none⟩ = some (.int .i64 fi) ∧ w'.cell? ⟨wr.heap.size, 1, none⟩ = some (.int .i64 la) ∧ w'.cell? ⟨wr.heap.size, 2, none⟩ = some (.int .i64 st)) (go_keep) (fail)
        by_cases hs0 : st = 0
        · have HT2 : Hid (rangesGo n [] l = ([], 2)) := by show _ = _; rw [← HT.out, HF.out, if_pos hs0]
          have bU : Below wr.heap.size wr V.drew := bx.drew
          have bwU : Below w.heap.size w V.drew := bV.drew
          have stU := HS.out.cells (Cells.of_below bU)
          have mU := hM.below bU
          obtain ⟨_, t0, t1, t2, t3, t4, t5, t6, t7⟩ := stU.low
          have HSU := Lib.hid stU
          subst hs0
          clear x0 x1 x2 bx zx bV stU t7 bU
          generalize V.drew = U at *
          gi_wp2
          exact range_leave (Marks.fail HSU.out mU 2) ((bwU.setCell (by simp) _).setCell (by simp; omega) _) (HSU.out.fail 2) HT2
        · have hs0' : (st == 0) = false := beq_eq_false_iff_ne.2 hs0
          gi_wp2
          have bU : Below wr.heap.size wr V.drew := bx.drew
          have zU : V.drew.heap.size = wr.heap.size + 1 := zx
          have bwU : Below w.heap.size w V.drew := bV.drew
          have stU := HS.out.cells (Cells.of_below bU)
          have mU := hM.below bU
          clear x0 x1 x2 bx zx bV
          generalize V.drew = U at *
          refine ⟨trivial, ?_⟩
          refine (callsIn_wide.2 (strides_any (w := U) (fun k => ¬ (U.heap.size ≤ k ∧ k < U.heap.size + 3)) (by omega) (by omega) (by omega) fi la st HW1.out HW2.out HW3.out hs0)).mono ?_
          rintro e w1 ⟨lb, rfl, hb1, hsz1, hit⟩
          have bw1 := bwU.trans (hb1.mono (by omega))
          have st1 := stU.cells (Cells.of_below hb1)
          have m1 := mU.below hb1
          gi_wp2
          have hlt1 := mU.lt
          have far1 : Far w.heap.size U.heap.size w1.heap.size w1 := by
            obtain ⟨v0, q1, q2⟩ := stU.b4
            intro v hv gg hgg
            rw [(hb1.block _ (Array.getElem?_eq_some_iff.1 q1).1).trans q1] at hv
            cases hv
            exact .inl (q2.lt gg hgg).2
          have hsout : ∀ xs, setErr out xs n = setErr [] (out ++ xs) n := fun xs => by rw [setErr_app, if_pos HE.out]; rfl
          have HSO := Lib.hid hsout
          clear hsout stU mU bU
          refine wpIn_rangeFunc_ownH rfl (by omega) (gf := 109) (lb := lb) rfl trivial hit.1 (hit.2 _) (fun h k => h.trans k) (fun W l o o' h1 h2 h3 h4 => KeepP.putObj W l o o' h2 h3) (Below.refl _ _) (fun _ => rfl)
            (fun pre W => (RSt w.heap.size n (out ++ pre.map (fun (i : Nat) => fi + (i : Int) * st)) W ∧ Far w.heap.size U.heap.size w1.heap.size W ∧ setErr [] (out ++ pre.map (fun (i : Nat) => fi + (i : Int) * st)) n = 0) ∧ Below w.heap.size w W ∧ Marks w.heap.size ds W)
            (fun c pre W => (RErr w.heap.size (setErr out (pre.map (fun (i : Nat) => fi + (i : Int) * st)) n) W ∧ c = .ret ∧ setErr out (pre.map (fun (i : Nat) => fi + (i : Int) * st)) n ≠ 0) ∧ Below w.heap.size w W ∧ Marks w.heap.size ds W)
            ?hI ?hIx ?h0 (fun x a' _ => a' = ⟨#[Value.int IntKind.i64 n, Value.slice (some { block := g, off := off }) l.length cap,
          Value.pointer (some { block := w.heap.size, off := 0 }), undef,
          Value.pointer (some { block := w.heap.size + 1, off := 0 }),
          Value.pointer (some { block := w.heap.size + 1 + 1, off := 0 }),
          Value.pointer (some { block := w.heap.size + 1 + 1 + 1, off := 0 }),
          Value.pointer (some { block := w.heap.size + 1 + 1 + 1 + 1, off := 0 }), u8,
          Value.pointer (some { block := wr.heap.size, off := 0 }), Value.int IntKind.i64 fi, Value.int IntKind.i64 la,
          Value.int IntKind.i64 st, .int .i64 (fi + (x : Int) * st), u14, Value.int IntKind.i64 n, Value.bool false, Value.bool false,
          Value.int IntKind.i64 n, Value.bool false, Value.bool false,
          Value.slice (some { block := g, off := off }) l.length cap, Value.int IntKind.i64 ↑l.length,
          Value.int IntKind.i64 ↑k, Value.bool true, Value.pointer (some { block := g, off := off + k * 3 }),
          Value.agg #[Value.int IntKind.i64 fi, Value.int IntKind.i64 la, Value.int IntKind.i64 st],
          Value.pointer (some { block := wr.heap.size, off := 0 }), Value.int IntKind.i64 fi,
          Value.pointer (some { block := wr.heap.size, off := 1 }), Value.int IntKind.i64 la,
          Value.pointer (some { block := wr.heap.size, off := 2 }), Value.int IntKind.i64 st, Value.int IntKind.i64 st,
          Value.bool false, Value.int IntKind.i64 fi, Value.int IntKind.i64 la, Value.int IntKind.i64 st,
          Value.func (Fn.func 109) #[] lb, .int .i64 (fi + (x : Int) * st), u40, u41, u42, u43, u44, u45, u46, u47, u48, u49, u50, undef], []⟩) ?hAx ?assign ?body ?done ?stop
          case hI => exact OwnFrom.and (ownFrom_cells _ _ (fun s W W' h hc => ⟨h.1.cells hc, h.2.1.cells h.1 hc, h.2.2⟩)) (OwnFrom.and (ownFrom_below (by omega) (by omega)) (ownFrom_marks _ _ _ (fun d hd D e => by have := hlt1 d hd D e; omega)))
          case hIx => exact fun c => OwnFrom.and (ownFrom_cells _ _ (fun s W W' h hc => ⟨h.1.cells hc, h.2⟩)) (OwnFrom.and (ownFrom_below (by omega) (by omega)) (ownFrom_marks _ _ _ (fun d hd D e => by have := hlt1 d hd D e; omega)))
          case h0 => exact ⟨⟨by simpa using st1, far1, by simpa using HE.out⟩, bw1, m1⟩
          case hAx => exact fun x a' => ownFrom_pure _ _
          case assign =>
            rintro ll pre x W K hI hK
            gi_wp2
            exact hK _ _ (KeepsFrom.refl _ _) (KeepP.refl _ _) hI (by simp)
          case body =>
            rintro ll pre x a' W hl2 ⟨rr, hrr⟩ ⟨⟨hS, hFar, hE0⟩, hbW, hMW⟩ rfl hltp
            obtain ⟨xv, hxv⟩ : ∃ xv, xv = fi + (x : Int) * st := ⟨_, rfl⟩
            rw [← hxv]
            have HP : Hid ((pre ++ [x]).map (fun (i : Nat) => fi + (i : Int) * st) = pre.map (fun (i : Nat) => fi + (i : Int) * st) ++ [xv]) := by show _ = _; rw [List.map_append, hxv]; rfl
            generalize pre.map (fun (i : Nat) => fi + (i : Int) * st) = P at *
            have HQ : Hid (setErr [] (out ++ (P ++ [xv])) n = if xv < 0 ∨ n ≤ xv then 11 else if xv ∈ out ++ P then 5 else 0) := by
              show _ = _; rw [← List.append_assoc, setErr_app, if_pos hE0]; rfl
            have HS2 := Lib.hid hS
            have HE0 := Lib.hid hE0
            have HFar := Lib.hid hFar
            obtain ⟨_, t0, t1, t2, t3, t4, t5, t6, t7⟩ := hS.low
            have hzW := hbW.size
            have hll : ll < W.heap.size := (Array.getElem?_eq_some_iff.1 hrr).1
            clear hxv hrr hE0 hFar hS
            by_cases q1 : xv < 0 ∨ n ≤ xv
            · have HV : Hid (setErr out (P ++ [xv]) n = 11) := by show _ = _; rw [HSO.out, HQ.out, if_pos q1]
              gi_wp2
              refine ⟨trivial, ?_⟩
              refine (CallsIn.inRound ll (callsIn_wide.2 (add_low W (w.heap.size + 1 + 1 + 1) xv n q1))).mono ?_
              rintro e W' ⟨rfl, rfl⟩
              gi_wp2
              refine ⟨((KeepsOthers.setCell _ _ _).trans (KeepsOthers.setCell _ _ _)).from _, ⟨?_, rfl, ?_⟩, (hbW.setCell (by simp) _).setCell (by simp; omega) _, Marks.fail HS2.out hMW _⟩
              · rw [HP.out, HV.out]; exact HS2.out.fail 11
              · rw [HP.out, HV.out]; decide
            · obtain ⟨xn, rfl⟩ := Int.eq_ofNat_of_zero_le (show 0 ≤ xv by omega)
              have hxn : (xn : Int) < n := by omega
              by_cases q2 : (xn : Int) ∈ out ++ P
              · have HV : Hid (setErr out (P ++ [(xn : Int)]) n = 5) := by show _ = _; rw [HSO.out, HQ.out, if_neg q1, if_pos q2]
                have q3 : Hid (inS (out ++ P) xn = true) := by show _ = _; simpa [inS] using q2
                clear q1 q2
                gi_wp2
                refine ⟨trivial, ?_⟩
                refine (CallsIn.inRound ll (callsIn_wide.2 (add_has W (w.heap.size + 1 + 1 + 1) _ t7 xn n hxn hn1' q3.out))).mono ?_
                rintro e W' ⟨rfl, rfl⟩
                gi_wp2
                refine ⟨((KeepsOthers.setCell _ _ _).trans (KeepsOthers.setCell _ _ _)).from _, ⟨?_, rfl, ?_⟩, (hbW.setCell (by simp) _).setCell (by simp; omega) _, Marks.fail HS2.out hMW _⟩
                · rw [HP.out, HV.out]; exact HS2.out.fail 5
                · rw [HP.out, HV.out]; decide
              · have HV : Hid (setErr [] (out ++ (P ++ [(xn : Int)])) n = 0) := by show _ = _; rw [HQ.out, if_neg q1, if_neg q2]
                have q3 : Hid (inS (out ++ P) xn = false) := by show _ = _; simpa [inS] using q2
                clear q1 q2
                gi_wp2
                refine ⟨trivial, ?_⟩
                refine (CallsIn.inRound ll (callsIn_wide.2 (add_new W (w.heap.size + 1 + 1 + 1) _ t7 xn n hxn hn1' q3.out))).mono ?_
                rintro e W' ⟨rfl, hW'⟩
                obtain ⟨v, v1, v2⟩ := HS2.out.b4
                have hlen64 := setErr_len hn1' HE0.out
                have o1 : W'.ownsRow (w.heap.size + 5) 3 1 v (out ++ P).length ((out ++ P).map (Value.int .i64)) := by rw [hW']; exact own_set v2 (by omega)
                have k4 : W'.heap[w.heap.size + 1 + 1 + 1 + 1]? = some (.cells #[v] 22 (0, 0)) := by rw [hW', heap_setCell_other _ _ _ _ (by simp)]; exact v1
                have k3 : SetAt W' (w.heap.size + 1 + 1 + 1) (inS (out ++ P ++ [(xn : Int)])) := by rw [hW', ← inS_snoc]; exact t7.set xn true
                have k0 : W'.heap[w.heap.size]? = W.heap[w.heap.size]? := by rw [hW', heap_setCell_other _ _ _ _ (by simp only; omega)]
                have k1 : W'.heap[w.heap.size + 1]? = W.heap[w.heap.size + 1]? := by rw [hW', heap_setCell_other _ _ _ _ (by simp)]
                have k2 : W'.heap[w.heap.size + 1 + 1]? = W.heap[w.heap.size + 1 + 1]? := by rw [hW', heap_setCell_other _ _ _ _ (by simp)]
                have kM : Marks w.heap.size ds W' := by rw [hW']; exact hMW.setCell _ _ _ _ t7 rfl
                have kB : Below w.heap.size w W' := by rw [hW']; exact hbW.setCell (by simp; omega) _
                have kK : KeepsOthers W W' := by rw [hW']; exact KeepsOthers.setCell _ _ _
                have kP : KeepP (fun k => ¬ (U.heap.size ≤ k ∧ k < U.heap.size + 3)) W W' := by rw [hW']; exact (KeepP.refl _ _).setCell _ _ (by omega) _
                have kz : w.heap.size + 1 + 1 + 1 + 1 < W'.heap.size := (Array.getElem?_eq_some_iff.1 k4).1
                have kf : ∀ gg, v.ownBlock = some gg → gg < U.heap.size ∨ w1.heap.size ≤ gg := HFar.out v v1
                obtain ⟨m0, m1', m2⟩ := one_cell k4
                have HO1 := Lib.hid o1
                have HK3 := Lib.hid k3
                have HK4 := Lib.hid k4
                have HK0 := Lib.hid k0
                have HK1 := Lib.hid k1
                have HK2 := Lib.hid k2
                have HKF := Lib.hid kf
                clear o1 k3 k4 k0 k1 k2 kf hW' t0 t1 t2 t3 t4 t5 t6 t7 v1 v2
                have hal : Below W'.heap.size W' (W'.alloc (.cells #[.int .i64 (xn : Int)] 3)) := (Below.refl _ _).alloc (Nat.le_refl _) _
                gi_wp2_with (gi_at_builtin; refine wpListIn_append_own_at _ rfl (.tmp 46) (.tmp 48) 22 rfl (w.heap.size + 5) 3 i0 (.int .i64 0) 1 8 Try.underlying22 hi hz0 hz1 hz2 rfl (by decide) _ _ _ rfl (HO1.out.alloc _) ⟨W'.heap.size, 0, none⟩ 1 1 [.int .i64 (xn : Int)] rfl rfl (fun j u hj => by match j, hj with | 0, hj => simp at hj; subst hj; simp [Addr.add]) (by intro u hu; simp at hu; subst hu; rfl) (by unfold maxLen; omega) (by omega) (by simp; omega) ?_; intro v' w2 hown' hgrow _ hat; obtain ⟨y0, y1, y2⟩ := one_cell (low_grown hgrow HO1.out HK4.out (by omega)); obtain ⟨aa, am, ac, rfl⟩ := own_slice hown')
                have hz2' := hgrow.size
                simp only [World.size_alloc] at hz2'
                have L0 := low_grown (b := w.heap.size) hgrow HO1.out (HK0.out.trans HS2.out.b0) (by omega)
                have L1 := low_grown (b := w.heap.size + 1) hgrow HO1.out (HK1.out.trans HS2.out.b1) (by omega)
                have L2 := low_grown (b := w.heap.size + 1 + 1) hgrow HO1.out (HK2.out.trans HS2.out.b2) (by omega)
                have L3 := low_grown (b := w.heap.size + 1 + 1 + 1) hgrow HO1.out HK3.out (by omega)
                have L4 := low_grown (b := w.heap.size + 1 + 1 + 1 + 1) hgrow HO1.out HK4.out (by omega)
                have S4 : (w2.setCell ⟨w.heap.size + 1 + 1 + 1 + 1, 0, none⟩ (.slice aa am ac)).heap[w.heap.size + 4]? = some (.cells #[.slice aa am ac] 22 (0, 0)) := set_one L4 _
                have hrow : ∀ r, v.ownBlock = some r → ∃ ob, (W'.alloc (.cells #[.int .i64 (xn : Int)] 3)).heap[r]? = some ob ∧ ob.isCells = true := own_obj (HO1.out.alloc _)
                refine ⟨?_, ?_, ⟨⟨?_, ?_, ?_, ?_, ⟨_, S4, ?_⟩⟩, ?_, ?_⟩, ?_, ?_⟩
                · exact (((kK.trans (KeepsOthers.alloc _ _)).trans (KeepsOthers.of_grownBy hgrow (fun j o hj ho => by obtain ⟨ob, h1, h2⟩ := hrow j hj; rw [h1] at ho; cases ho; exact h2))).trans (KeepsOthers.setCell _ _ _)).from _
                · refine (((kP.trans (KeepP.of_below hal)).grown hgrow (fun r hr => ?_)).setCell _ _ (by omega) _)
                  have := HKF.out r hr; omega
                · exact (heap_setCell_other _ _ _ _ (by simp only; omega)).trans L0
                · exact (heap_setCell_other _ _ _ _ (by simp only; omega)).trans L1
                · exact (heap_setCell_other _ _ _ _ (by simp only; omega)).trans L2
                · rw [HP.out, ← List.append_assoc]; exact (heap_setCell_other _ _ _ _ (by simp only; omega)).trans L3
                · rw [HP.out, ← List.append_assoc]
                  refine own_set ?_ (by omega)
                  simpa [Nat.add_assoc] using hown'
                · intro vv hvv gg hgg
                  rw [S4] at hvv; cases hvv
                  rcases hat with hat | hat
                  · rw [hat] at hgg; exact HKF.out gg hgg
                  · rw [hat] at hgg; cases hgg; right; simp only [World.size_alloc]; have := kK.size; omega
                · rw [HP.out]; exact HV.out
                · exact ((kB.alloc (by omega) _).grown hgrow (by simp; omega) (fun r hr => by have := (HO1.out.lt r hr).1; omega)).setCell (by simp only; omega) _
                · exact ((kM.below hal).grown hgrow hrow).setCell _ _ _ _ L4 rfl
          case done =>
            rintro D xs W hD hxs ⟨⟨hS, _, hE0⟩, hbW, hMW⟩ hdf
            subst hxs
            have hD2 : w.heap.size + 5 ≤ D := by omega
            have hDl : D < W.heap.size := (Array.getElem?_eq_some_iff.1 hdf).1
            have hM2 : Marks w.heap.size ({ target := .collected D, args := #[] } :: ds) W := by
              refine ⟨List.nodup_cons.2 ⟨fun hm => ?_, hMW.1⟩, fun d hd => ?_⟩
              · have := hlt1 _ hm D rfl; omega
              · rcases List.mem_cons.1 hd with rfl | hd
                · exact ⟨D, by omega, rfl, hdf⟩
                · exact hMW.2 d hd
            have HT2 : Hid (rangesGo n (out ++ strideL fi la st) (l.drop (k + 1)) = rangesGo n [] l) := by
              show _ = _
              rw [← HT.out, HF.out, if_neg hs0, if_neg]
              rw [HSO.out]
              simpa [strideL] using hE0
            have HS3 : Hid (RSt w.heap.size n (out ++ strideL fi la st) W) := hS
            have HE3 : Hid (setErr [] (out ++ strideL fi la st) n = 0) := hE0
            clear hS hE0
            gi_wp2
            refine ⟨⟨k + 1, out ++ strideL fi la st, _, _, _, _, _, _, _, _, _, _, _, _, _, _, _, _, _, _, _, _, _, _, _, _, _, _, _, _, _, _, _, _, _, _, _, by omega, HT2, HE3, HS3, hM2, hbW, by omega, rfl⟩, ?_⟩
            simp [intOf]; omega
          case stop =>
            rintro D c pre W hD hpre ⟨⟨hR, rfl, hne⟩, hbW, hMW⟩ hdf
            have hD2 : w.heap.size + 5 ≤ D := by omega
            have hM2 : Marks w.heap.size ({ target := .collected D, args := #[] } :: ds) W := by
              refine ⟨List.nodup_cons.2 ⟨fun hm => ?_, hMW.1⟩, fun d hd => ?_⟩
              · have := hlt1 _ hm D rfl; omega
              · rcases List.mem_cons.1 hd with rfl | hd
                · exact ⟨D, by omega, rfl, hdf⟩
                · exact hMW.2 d hd
            have hsame : setErr out (strideL fi la st) n = setErr out (pre.map (fun (i : Nat) => fi + (i : Int) * st)) n := by
              obtain ⟨rest, hrest⟩ := hpre
              unfold strideL
              rw [← hrest, List.map_append, setErr_app, if_neg hne]
            have HT2 : Hid (rangesGo n [] l = ([], setErr out (pre.map (fun (i : Nat) => fi + (i : Int) * st)) n)) := by
              show _ = _
              rw [← HT.out, HF.out, if_neg hs0, if_pos (by rw [hsame]; exact hne), hsame]
            generalize setErr out (pre.map (fun (i : Nat) => fi + (i : Int) * st)) n = ee at *
            gi_wp2
            exact range_leave hM2 hbW hR HT2
      · have hkl : k = l.length := by omega
        have HT2 : Hid (rangesGo n [] l = (out, 0)) := by show _ = _; rw [← HT.out, drop_end hlt]; rfl
        obtain ⟨⟨v, t8⟩, t0, t1, t2, t3, t4, t5, t6, t7⟩ := HS.out.low
        obtain ⟨v', q1, q2⟩ := HS.out.b4
        have e8 := (one_cell q1).1
        rw [t8] at e8; cases e8
        obtain ⟨aa, am, ac, rfl⟩ := own_slice q2
        have HQ1 := Lib.hid q1
        have HQ2 := Lib.hid q2
        have t8' : wr.cell? ⟨w.heap.size + 1 + 1 + 1 + 1, 0, none⟩ = some (.slice aa am ac) := t8
        clear t7 q1 q2 t8
        gi_wp2
        exact range_done hM hb HS.out HQ2.out (setErr_len hn1' HE.out) HT2
end Go.Proofs.Ytoloiingodigpaa
