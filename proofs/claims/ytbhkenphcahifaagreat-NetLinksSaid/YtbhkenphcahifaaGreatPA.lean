import Derived.Test.YtbhkenphcahifaaGreatNX
import Derived.Lib.AppendZeros
namespace Go.Proofs.YtbhkenphcahifaaGreat
open Go.RowKit Go.Shelf
set_option maxRecDepth 100000

abbrev N3 := Int × Int × Int
def tri (t : N3) : List Value := [.int .i64 t.1, .int .i64 t.2.1, .int .i64 t.2.2]
def tris (l : List N3) : List Value := l.flatMap tri
theorem tris_snoc (l : List N3) (t : N3) : tris l ++ tri t = tris (l ++ [t]) := by simp [tris]
theorem tris_len (l : List N3) : (tris l).length = l.length * 3 := by
  induction l with
  | nil => rfl
  | cons a r ih => simp only [tris, List.flatMap_cons, List.length_append, List.length_cons] at *; rw [ih]; simp [tri]; omega
theorem tris_get : ∀ (l : List N3) (i : Nat) (h : i < l.length), (tris l)[i * 3]? = some (.int .i64 l[i].1) ∧ (tris l)[i * 3 + 1]? = some (.int .i64 l[i].2.1) ∧ (tris l)[i * 3 + 2]? = some (.int .i64 l[i].2.2)
  | a :: r, 0, _ => by simp [tris, tri]
  | a :: r, i + 1, h => by
    have := tris_get r i (by simpa using h)
    simp only [tris, List.flatMap_cons, tri, List.cons_append, List.nil_append, List.getElem_cons_succ] at this ⊢
    rw [show (i + 1) * 3 = i * 3 + 1 + 1 + 1 by omega, show i * 3 + 1 + 1 + 1 + 1 = (i * 3 + 1) + 1 + 1 + 1 by omega, show i * 3 + 1 + 1 + 1 + 2 = (i * 3 + 2) + 1 + 1 + 1 by omega]
    simpa using this

def TyAt (w : World) (b : Nat) (t : TypeId) : Prop := ∃ cur, w.heap[b]? = some (.cells cur t (0, 0))
theorem row_ty {w : World} {lo e k n b : Nat} {v : Value} {xs : List Value} (h : w.ownsRow lo e k v n xs) (hb : v.ownBlock = some b) : TyAt w b e := by
  rcases h.2 with ⟨rfl, _⟩ | ⟨g, cap, cur, rfl, _, hg, _⟩
  · cases hb
  · obtain rfl : g = b := by simpa [Value.ownBlock] using hb
    exact ⟨cur, hg⟩
theorem ty_ne {w : World} {b c : Nat} {t u : TypeId} (h : TyAt w b t) (h' : TyAt w c u) (hne : t ≠ u) : b ≠ c := by
  rintro rfl
  obtain ⟨x, h1⟩ := h
  obtain ⟨y, h2⟩ := h'
  rw [h1] at h2
  simp at h2
  exact hne h2.2
/-- two rows do not lie in one block -/
def Apart (v u : Value) : Prop := ∀ b, v.ownBlock = some b → u.ownBlock ≠ some b
theorem Apart.symm {v u : Value} (h : Apart v u) : Apart u v := fun b h1 h2 => h b h2 h1

/-- the waits in memory; F: their blocks -/
structure Wt (F : Nat → Prop) (lo B : Nat) (ns : List N3) (ts : List (List Int)) (nv tv : Value) (us : List Value) (w : World) : Prop where
  box : w.heap[B]? = some (.cells #[nv, tv] 82 (0, 0))
  nrow : w.ownsRow lo 166 3 nv ns.length (tris ns)
  trow : w.ownsRow lo 22 1 tv ts.length us
  each : ∀ i, i < ts.length → w.ownsRow lo 3 1 (us.getD i (.slice none 0 0)) (ts.getD i []).length ((ts.getD i []).map (Value.int .i64))
  apart : ∀ i j, i < ts.length → j < ts.length → i ≠ j → Apart (us.getD i (.slice none 0 0)) (us.getD j (.slice none 0 0))
  fB : F B
  fn : ∀ b, nv.ownBlock = some b → F b
  ft : ∀ b, tv.ownBlock = some b → F b
  fu : ∀ i, i < ts.length → ∀ b, (us.getD i (.slice none 0 0)).ownBlock = some b → F b
  lt : ∀ b, F b → lo ≤ b ∧ b < w.heap.size
theorem Wt.usl {F : Nat → Prop} {lo B : Nat} {ns : List N3} {ts : List (List Int)} {nv tv : Value} {us : List Value} {w : World} (h : Wt F lo B ns ts nv tv us w) : us.length = ts.length := by have := h.trow.1; omega

/-- all blocks but those of F are as they were; those of F' are F's or new -/
structure Ext (F : Nat → Prop) (w : World) (F' : Nat → Prop) (w' : World) : Prop where
  b0 : Below 0 w w'
  far : ∀ b, b < w.heap.size → ¬ F b → w'.heap[b]? = w.heap[b]?
  inn : ∀ b, F' b → F b ∨ w.heap.size ≤ b
theorem Ext.refl (F : Nat → Prop) (w : World) : Ext F w F w := ⟨Below.refl _ _, fun _ _ _ => rfl, fun _ h => .inl h⟩
theorem Ext.trans {F F' F'' : Nat → Prop} {w w' w'' : World} (h : Ext F w F' w') (k : Ext F' w' F'' w'') : Ext F w F'' w'' :=
  ⟨h.b0.trans k.b0, fun b hb hF => (k.far b (by have := h.b0.size; omega) (fun e => by rcases h.inn b e with e | e; exact hF e; omega)).trans (h.far b hb hF), fun b hb => by
    rcases k.inn b hb with e | e
    · exact h.inn b e
    · exact .inr (by have := h.b0.size; omega)⟩
theorem Ext.below {F F' : Nat → Prop} {w w' : World} (h : Ext F w F' w') {lo : Nat} (hlo : ∀ b, F b → lo ≤ b) (hs : lo ≤ w.heap.size) : Below lo w w' :=
  ⟨h.b0.os, h.b0.tape, h.b0.output, h.b0.size, fun k hk => h.far k (by omega) (fun e => by have := hlo k e; omega)⟩
theorem Wt.keep {F : Nat → Prop} {lo B : Nat} {ns : List N3} {ts : List (List Int)} {nv tv : Value} {us : List Value} {w w' : World} (h : Wt F lo B ns ts nv tv us w) (hb : Below w.heap.size w w') : Wt F lo B ns ts nv tv us w' :=
  ⟨(hb.block _ (h.lt _ h.fB).2).trans h.box, ownsRow_bl h.nrow hb, ownsRow_bl h.trow hb, fun i hi => ownsRow_bl (h.each i hi) hb, h.apart, h.fB, h.fn, h.ft, h.fu, fun b hF => by have := h.lt b hF; have := hb.size; omega⟩
theorem Ext.keep {F : Nat → Prop} {w w' : World} (hb : Below w.heap.size w w') : Ext F w F w' :=
  ⟨hb.mono (Nat.zero_le _), fun b hlt _ => hb.block b hlt, fun _ h => .inl h⟩
/-- numbers that lie elsewhere -/
theorem Ints.far {F F' : Nat → Prop} {w w' : World} {a : Option Addr} {l : List Int} (h : Ints w a l) (k : Ext F w F' w') (hF : ∀ b, a.map (·.block) = some b → ¬ F b) : Ints w' a l :=
  ⟨h.len, fun hl => by
    obtain ⟨b, off, ha, hc⟩ := h.at_ hl
    refine ⟨b, off, ha, fun j hj => ?_⟩
    have hlt := block_lt_of_cell (hc j hj)
    exact (World.cell?_of_block (a := ⟨b, off + j, none⟩) (k.far b hlt (hF b (by rw [ha]; rfl)))).trans (hc j hj)⟩

theorem info127 : (Tryz.prog.info? 166).map (fun i => (i.zero, i.size, i.bytes)) = some (some (.agg #[.int .i64 0, .int .i64 0, .int .i64 0]), 3, 24) := by kernel_rfl
theorem info22' : (Tryz.prog.info? 22).map (fun i => (i.zero, i.size, i.bytes)) = some (some (.slice none 0 0), 1, 24) := by kernel_rfl

theorem grown_far {w w1 w2 : World} {o : Obj} {row : Option Nat} (hw : w1 = w.alloc o) (hg : w1.grownBy w2 row) {b : Nat} (hb : b < w.heap.size) (hr : some b ≠ row) : w2.heap[b]? = w.heap[b]? := by
  subst hw
  rw [hg.block b (by simp; omega) hr, Below.heap_alloc _ _ _ hb]
theorem row_far {w w1 w2 : World} {o : Obj} {row : Option Nat} {lo e k n : Nat} {v : Value} {xs : List Value} (hw : w1 = w.alloc o) (hg : w1.grownBy w2 row) (h : w.ownsRow lo e k v n xs) (hne : ∀ b, v.ownBlock = some b → some b ≠ row) : w2.ownsRow lo e k v n xs := by
  subst hw
  refine (h.alloc o).kept hg ?_
  cases e : v.ownBlock with
  | none => exact .inl rfl
  | some b => exact .inr (hne b e)

def More (F : Nat → Prop) (w w' : World) (b : Nat) : Prop := F b ∨ (w.heap.size ≤ b ∧ b < w'.heap.size)

/-- one more node -/
theorem Wt.pushN {F : Nat → Prop} {lo B : Nat} {ns : List N3} {ts : List (List Int)} {nv tv : Value} {us : List Value} {w : World} (h : Wt F lo B ns ts nv tv us w) (x y c : Int) (hl : ns.length ≤ 1000000000) (hs : lo ≤ w.heap.size) :
    ∃ g cap w2, (Builtin.append_ #[79, 79] 79 #[nv, .slice (some ⟨w.heap.size, 0, none⟩) 1 1]).run Tryz.prog (w.alloc (.cells #[.int .i64 x, .int .i64 y, .int .i64 c] 166)) = .ok (.slice (some ⟨g, 0, none⟩) (ns.length + 1) cap) w2 ∧
      w2.heap[B]? = some (.cells #[nv, tv] 82 (0, 0)) ∧
      Wt (More F w w2) lo B (ns ++ [(x, y, c)]) ts (.slice (some ⟨g, 0, none⟩) (ns.length + 1) cap) tv us (w2.setCell ⟨B, 0, none⟩ (.slice (some ⟨g, 0, none⟩) (ns.length + 1) cap)) ∧
      Ext F w (More F w w2) (w2.setCell ⟨B, 0, none⟩ (.slice (some ⟨g, 0, none⟩) (ns.length + 1) cap)) := by
  obtain ⟨i0, hi, hz0, hz1, hz2⟩ := info_parts info127
  obtain ⟨g, cap, w2, hr, hown, hgrow, hat, hlt⟩ := run_append_lies (P := Tryz.prog) (w.alloc (.cells #[.int .i64 x, .int .i64 y, .int .i64 c] 166)) 79 79 lo 166 i0 _ 3 24 Tryz.underlying79 hi hz0 hz1 hz2 rfl (by decide) nv ns.length (tris ns) (h.nrow.alloc _) ⟨w.heap.size, 0, none⟩ 1 1 (tri (x, y, c)) (by simp [tri])
    (World.news_of_block (cs := #[.int .i64 x, .int .i64 y, .int .i64 c]) (heap_alloc_new w (.cells #[.int .i64 x, .int .i64 y, .int .i64 c] 166))) (by intro u hu; simp [tri] at hu; rcases hu with rfl | rfl | rfl <;> rfl) (by decide) (by unfold maxLen; omega) (by omega) (by simp; omega) _ rfl
  rw [tris_snoc] at hown
  have hsz := hgrow.size
  simp at hsz
  have hBt : TyAt w B 82 := ⟨_, h.box⟩
  have hBlt := (h.lt _ h.fB).2
  have hBn : ∀ b, nv.ownBlock = some b → b ≠ B := fun b hb => ty_ne (row_ty h.nrow hb) hBt (by decide)
  have hBr : some B ≠ nv.ownBlock := fun e => hBn B e.symm rfl
  have hB2 := (grown_far rfl hgrow hBlt hBr).trans h.box
  have hgB : g ≠ B := by
    rcases hat with e | e
    · exact hBn g e
    · simp at e; omega
  have ht1 : ∀ b, tv.ownBlock = some b → some b ≠ nv.ownBlock := fun b hb e => ty_ne (row_ty h.trow hb) (row_ty h.nrow e.symm) (by decide) rfl
  have ht2 : ∀ b, tv.ownBlock = some b → b ≠ B := fun b hb => ty_ne (row_ty h.trow hb) hBt (by decide)
  have hu1 : ∀ i, i < ts.length → ∀ b, (us.getD i (.slice none 0 0)).ownBlock = some b → some b ≠ nv.ownBlock := fun i hi b hb e => ty_ne (row_ty (h.each i hi) hb) (row_ty h.nrow e.symm) (by decide) rfl
  have hu2 : ∀ i, i < ts.length → ∀ b, (us.getD i (.slice none 0 0)).ownBlock = some b → b ≠ B := fun i hi b hb => ty_ne (row_ty (h.each i hi) hb) hBt (by decide)
  refine ⟨g, cap, w2, hr, hB2, ⟨?_, ?_, ?_, ?_, h.apart, .inl h.fB, ?_, fun b hb => .inl (h.ft b hb), fun i hi b hb => .inl (h.fu i hi b hb), ?_⟩, ⟨?_, ?_, ?_⟩⟩
  · rw [setCell_eq_setRow w2 B 0 _ 82 (0, 0) _ hB2]
    exact setRow_heap w2 B _ _ 82 _ hB2
  · rw [List.length_append]
    exact ownsRow_setCell_other hown (by simp [Value.ownBlock]; exact hgB) _
  · exact ownsRow_setCell_other (row_far rfl hgrow h.trow ht1) (fun e => ht2 _ e rfl) _
  · intro i hi
    exact ownsRow_setCell_other (row_far rfl hgrow (h.each i hi) (hu1 i hi)) (fun e => hu2 i hi _ e rfl) _
  · intro b hb
    obtain rfl : g = b := by simpa [Value.ownBlock] using hb
    rcases hat with e | e
    · exact .inl (h.fn _ e)
    · simp at e; exact .inr ⟨by omega, hlt⟩
  · rintro b (hb | hb)
    · have := h.lt b hb; simp; omega
    · simp; omega
  · refine ⟨hgrow.os, hgrow.tape, hgrow.output, by simp; omega, fun k hk => by omega⟩
  · intro b hb hF
    rw [heap_setCell_other _ _ _ _ (show b ≠ B from fun e => hF (by rw [e]; exact h.fB))]
    exact grown_far rfl hgrow hb (fun e => hF (h.fn b e.symm))
  · rintro b (hb | hb)
    · exact .inl hb
    · exact .inr hb.1

/-- one more list -/
theorem Wt.pushT {F : Nat → Prop} {lo B : Nat} {ns : List N3} {ts : List (List Int)} {nv tv : Value} {us : List Value} {w : World} (h : Wt F lo B ns ts nv tv us w) (hl : ts.length ≤ 1000000000) (hs : lo ≤ w.heap.size) :
    ∃ g cap w2, (Builtin.append_ #[80, 80] 80 #[tv, .slice (some ⟨w.heap.size, 0, none⟩) 1 1]).run Tryz.prog (w.alloc (.cells #[.slice none 0 0] 22)) = .ok (.slice (some ⟨g, 0, none⟩) (ts.length + 1) cap) w2 ∧
      w2.heap[B]? = some (.cells #[nv, tv] 82 (0, 0)) ∧
      Wt (More F w w2) lo B ns (ts ++ [[]]) nv (.slice (some ⟨g, 0, none⟩) (ts.length + 1) cap) (us ++ [.slice none 0 0]) (w2.setCell ⟨B, 1, none⟩ (.slice (some ⟨g, 0, none⟩) (ts.length + 1) cap)) ∧
      Ext F w (More F w w2) (w2.setCell ⟨B, 1, none⟩ (.slice (some ⟨g, 0, none⟩) (ts.length + 1) cap)) := by
  obtain ⟨i0, hi, hz0, hz1, hz2⟩ := info_parts info22'
  obtain ⟨g, cap, w2, hr, hown, hgrow, hat, hlt⟩ := run_append_lies (P := Tryz.prog) (w.alloc (.cells #[.slice none 0 0] 22)) 80 80 lo 22 i0 _ 1 24 Tryz.underlying80 hi hz0 hz1 hz2 rfl (by decide) tv ts.length us (h.trow.alloc _) ⟨w.heap.size, 0, none⟩ 1 1 [.slice none 0 0] (by simp)
    (World.news_of_block (cs := #[.slice none 0 0]) (heap_alloc_new w (.cells #[.slice none 0 0] 22))) (by intro u hu; simp at hu; subst hu; rfl) (by decide) (by unfold maxLen; omega) (by omega) (by simp; omega) _ rfl
  have hul := h.usl
  have hsz := hgrow.size
  simp at hsz
  have hBt : TyAt w B 82 := ⟨_, h.box⟩
  have hBlt := (h.lt _ h.fB).2
  have hBn : ∀ b, tv.ownBlock = some b → b ≠ B := fun b hb => ty_ne (row_ty h.trow hb) hBt (by decide)
  have hBr : some B ≠ tv.ownBlock := fun e => hBn B e.symm rfl
  have hB2 := (grown_far rfl hgrow hBlt hBr).trans h.box
  have hgB : g ≠ B := by
    rcases hat with e | e
    · exact hBn g e
    · simp at e; omega
  have ht1 : ∀ b, nv.ownBlock = some b → some b ≠ tv.ownBlock := fun b hb e => ty_ne (row_ty h.nrow hb) (row_ty h.trow e.symm) (by decide) rfl
  have ht2 : ∀ b, nv.ownBlock = some b → b ≠ B := fun b hb => ty_ne (row_ty h.nrow hb) hBt (by decide)
  have hu1 : ∀ i, i < ts.length → ∀ b, (us.getD i (.slice none 0 0)).ownBlock = some b → some b ≠ tv.ownBlock := fun i hi b hb e => ty_ne (row_ty (h.each i hi) hb) (row_ty h.trow e.symm) (by decide) rfl
  have hu2 : ∀ i, i < ts.length → ∀ b, (us.getD i (.slice none 0 0)).ownBlock = some b → b ≠ B := fun i hi b hb => ty_ne (row_ty (h.each i hi) hb) hBt (by decide)
  have gl : ∀ i, i < ts.length → (us ++ [Value.slice none 0 0]).getD i (.slice none 0 0) = us.getD i (.slice none 0 0) ∧ (ts ++ [[]]).getD i [] = ts.getD i [] := fun i hi => by
    simp [List.getD, List.getElem?_append_left, hi, hul]
  have gr : (us ++ [Value.slice none 0 0]).getD ts.length (.slice none 0 0) = .slice none 0 0 ∧ (ts ++ [[]]).getD ts.length [] = [] := by
    constructor
    · rw [← hul]; simp [List.getD]
    · simp [List.getD]
  refine ⟨g, cap, w2, hr, hB2, ⟨?_, ?_, ?_, ?_, ?_, .inl h.fB, fun b hb => .inl (h.fn b hb), ?_, ?_, ?_⟩, ⟨?_, ?_, ?_⟩⟩
  · rw [setCell_eq_setRow w2 B 1 _ 82 (0, 0) _ hB2]
    exact setRow_heap w2 B _ _ 82 _ hB2
  · exact ownsRow_setCell_other (row_far rfl hgrow h.nrow ht1) (fun e => ht2 _ e rfl) _
  · rw [List.length_append]
    exact ownsRow_setCell_other hown (by simp [Value.ownBlock]; exact hgB) _
  · intro i hi
    rw [List.length_append, List.length_singleton] at hi
    by_cases hi2 : i < ts.length
    · rw [(gl i hi2).1, (gl i hi2).2]
      exact ownsRow_setCell_other (row_far rfl hgrow (h.each i hi2) (hu1 i hi2)) (fun e => hu2 i hi2 _ e rfl) _
    · obtain rfl : i = ts.length := by omega
      rw [gr.1, gr.2]
      exact World.ownsRow_nil _ _ _ _
  · intro i j hi hj hne
    rw [List.length_append, List.length_singleton] at hi hj
    by_cases hi2 : i < ts.length
    · rw [(gl i hi2).1]
      by_cases hj2 : j < ts.length
      · rw [(gl j hj2).1]; exact h.apart i j hi2 hj2 hne
      · obtain rfl : j = ts.length := by omega
        rw [gr.1]; intro b _ e; cases e
    · obtain rfl : i = ts.length := by omega
      rw [gr.1]; intro b e; cases e
  · intro b hb
    obtain rfl : g = b := by simpa [Value.ownBlock] using hb
    rcases hat with e | e
    · exact .inl (h.ft _ e)
    · simp at e; exact .inr ⟨by omega, hlt⟩
  · intro i hi b hb
    rw [List.length_append, List.length_singleton] at hi
    by_cases hi2 : i < ts.length
    · rw [(gl i hi2).1] at hb; exact .inl (h.fu i hi2 b hb)
    · obtain rfl : i = ts.length := by omega
      rw [gr.1] at hb; cases hb
  · rintro b (hb | hb)
    · have := h.lt b hb; simp; omega
    · simp; omega
  · refine ⟨hgrow.os, hgrow.tape, hgrow.output, by simp; omega, fun k hk => by omega⟩
  · intro b hb hF
    rw [heap_setCell_other _ _ _ _ (show b ≠ B from fun e => hF (by rw [e]; exact h.fB))]
    exact grown_far rfl hgrow hb (fun e => hF (h.ft b e.symm))
  · rintro b (hb | hb)
    · exact .inl hb
    · exact .inr hb.1

theorem getD_set_same {α} (l : List α) (m : Nat) (v d : α) (h : m < l.length) : (l.set m v).getD m d = v := by simp [List.getD, h]
theorem getD_set_other {α} (l : List α) (m i : Nat) (v d : α) (h : m ≠ i) : (l.set m v).getD i d = l.getD i d := by simp [List.getD, List.getElem?_set, h]
/-- one more number in one of the lists -/
theorem Wt.pushE {F : Nat → Prop} {lo B : Nat} {ns : List N3} {ts : List (List Int)} {nv tv : Value} {us : List Value} {w : World} (h : Wt F lo B ns ts nv tv us w) (m : Nat) (hm : m < ts.length) (k : Int) (hl : (ts.getD m []).length ≤ 1000000000) (hs : lo ≤ w.heap.size) :
    ∃ a c gT cT gE cap w2, us.getD m (.slice none 0 0) = .slice a (ts.getD m []).length c ∧ Ints w a (ts.getD m []) ∧ tv = .slice (some ⟨gT, 0, none⟩) ts.length cT ∧ w.cell? ⟨gT, m, none⟩ = some (.slice a (ts.getD m []).length c) ∧
      (Builtin.append_ #[22, 22] 22 #[.slice a (ts.getD m []).length c, .slice (some ⟨w.heap.size, 0, none⟩) 1 1]).run Tryz.prog (w.alloc (.cells #[.int .i64 k] 3)) = .ok (.slice (some ⟨gE, 0, none⟩) ((ts.getD m []).length + 1) cap) w2 ∧
      w2.heap[B]? = some (.cells #[nv, tv] 82 (0, 0)) ∧ w2.cell? ⟨gT, m, none⟩ = some (.slice a (ts.getD m []).length c) ∧ w2.frozen? ⟨gT, m, none⟩ = false ∧ gT < w2.heap.size ∧ gT ≠ B ∧ gT < w.heap.size ∧
      Wt (More F w w2) lo B ns (ts.set m (ts.getD m [] ++ [k])) nv tv (us.set m (.slice (some ⟨gE, 0, none⟩) ((ts.getD m []).length + 1) cap)) (w2.setCell ⟨gT, m, none⟩ (.slice (some ⟨gE, 0, none⟩) ((ts.getD m []).length + 1) cap)) ∧
      Ext F w (More F w w2) (w2.setCell ⟨gT, m, none⟩ (.slice (some ⟨gE, 0, none⟩) ((ts.getD m []).length + 1) cap)) := by
  obtain ⟨i0, hi, hz0, hz1, hz2⟩ := info_parts Tryz.info3
  have hul := h.usl
  have hrow := h.each m hm
  obtain ⟨gE, cap, w2, hr, hown, hgrow, hat, hlt⟩ := run_append_lies (P := Tryz.prog) (w.alloc (.cells #[.int .i64 k] 3)) 22 22 lo 3 i0 (.int .i64 0) 1 8 Tryz.underlying22 hi hz0 hz1 hz2 rfl (by decide) (us.getD m (.slice none 0 0)) (ts.getD m []).length ((ts.getD m []).map (Value.int .i64)) (hrow.alloc _) ⟨w.heap.size, 0, none⟩ 1 1 [.int .i64 k] (by simp)
    (World.news_of_block (cs := #[.int .i64 k]) (heap_alloc_new w (.cells #[.int .i64 k] 3))) (by intro u hu; simp at hu; subst hu; rfl) (by decide) (by unfold maxLen; omega) (by omega) (by simp; omega) _ rfl
  have hni : NewInts lo w (us.getD m (.slice none 0 0)) (ts.getD m []) := ⟨hrow, by omega⟩
  obtain ⟨a, c, hum, hints⟩ := hni.ints
  have hsz := hgrow.size
  simp at hsz
  have hBt : TyAt w B 82 := ⟨_, h.box⟩
  have hBlt := (h.lt _ h.fB).2
  rcases h.trow.2 with ⟨_, h0⟩ | ⟨gT, cT, cur, htv, hlo, hgT, hle, hcm, hcs, htk⟩
  · omega
  have hTo : tv.ownBlock = some gT := by rw [htv]; rfl
  have hTt : TyAt w gT 22 := ⟨_, hgT⟩
  have hTlt := (Array.getElem?_eq_some_iff.1 hgT).1
  have hTB : gT ≠ B := ty_ne hTt hBt (by decide)
  have hTr : some gT ≠ (us.getD m (.slice none 0 0)).ownBlock := fun e => ty_ne hTt (row_ty hrow e.symm) (by decide) rfl
  have hBr : some B ≠ (us.getD m (.slice none 0 0)).ownBlock := fun e => ty_ne hBt (row_ty hrow e.symm) (by decide) rfl
  have hB2 := (grown_far rfl hgrow hBlt hBr).trans h.box
  have hT2 := (grown_far rfl hgrow hTlt hTr).trans hgT
  have hmc : m < cur.size := by omega
  have hcu : cur[m]? = some (us.getD m (.slice none 0 0)) := by
    have e1 : us[m]? = some (us.getD m (.slice none 0 0)) := by simp [List.getD, show m < us.length by omega]
    have e2 : (cur.toList.take (ts.length * 1))[m]? = cur.toList[m]? := by rw [List.getElem?_take, if_pos (by omega)]
    rw [← Array.getElem?_toList, ← e2, htk]
    exact e1
  have hnr : ∀ b, nv.ownBlock = some b → some b ≠ (us.getD m (.slice none 0 0)).ownBlock := fun b hb e => ty_ne (row_ty h.nrow hb) (row_ty hrow e.symm) (by decide) rfl
  have hnT : ∀ b, nv.ownBlock = some b → b ≠ gT := fun b hb => ty_ne (row_ty h.nrow hb) hTt (by decide)
  have hgET : gE ≠ gT := by
    rcases hat with e | e
    · exact fun e2 => hTr (by rw [← e2]; exact e.symm)
    · simp at e; omega
  refine ⟨a, c, gT, cT, gE, cap, w2, hum, hints, htv, ?_, by rw [← hum]; exact hr, hB2, ?_, ?_, ?_, hTB, hTlt, ⟨?_, ?_, ?_, ?_, ?_, .inl h.fB, fun b hb => .inl (h.fn b hb), fun b hb => .inl (h.ft b hb), ?_, ?_⟩, ⟨?_, ?_, ?_⟩⟩
  · rw [cell_of_row w gT m cur _ _ hgT, hcu, hum]
  · rw [cell_of_row w2 gT m cur _ _ hT2, hcu, hum]
  · exact frozen_of_row _ _ m _ _ hT2
  · exact (Array.getElem?_eq_some_iff.1 hT2).1
  · exact (heap_setCell_other _ _ _ _ (Ne.symm hTB)).trans hB2
  · exact ownsRow_setCell_other (row_far rfl hgrow h.nrow hnr) (fun e => hnT _ e rfl) _
  · rw [List.length_set]
    refine ⟨by rw [List.length_set]; omega, .inr ⟨gT, cT, cur.setIfInBounds m (.slice (some ⟨gE, 0, none⟩) ((ts.getD m []).length + 1) cap), htv, hlo, ?_, hle, hcm, by simpa using hcs, ?_⟩⟩
    · rw [setCell_eq_setRow w2 gT m _ 22 (0, 0) _ hT2]
      exact setRow_heap w2 gT _ _ 22 _ hT2
    · rw [Array.toList_setIfInBounds, List.take_set, htk]
  · intro i hi
    rw [List.length_set] at hi
    by_cases him : m = i
    · subst him
      rw [getD_set_same us m _ _ (by omega), getD_set_same ts m _ _ hm, List.length_append, List.map_append]
      exact ownsRow_setCell_other hown (by simp [Value.ownBlock]; exact hgET) _
    · rw [getD_set_other us m i _ _ him, getD_set_other ts m i _ _ him]
      refine ownsRow_setCell_other (row_far rfl hgrow (h.each i hi) (fun b hb e => h.apart i m hi hm (Ne.symm him) b hb e.symm)) (fun e => ?_) _
      exact ty_ne (row_ty (h.each i hi) e) hTt (by decide) rfl
  · have key : ∀ i, i < ts.length → i ≠ m → Apart (.slice (some ⟨gE, 0, none⟩) ((ts.getD m []).length + 1) cap) (us.getD i (.slice none 0 0)) := by
      intro i hi him b hb e
      obtain rfl : gE = b := by simpa [Value.ownBlock] using hb
      rcases hat with e2 | e2
      · exact h.apart m i hm hi (Ne.symm him) gE e2 e
      · have := (h.each i hi).lt _ e
        simp at e2; omega
    intro i j hi hj hne
    rw [List.length_set] at hi hj
    by_cases him : m = i
    · subst him
      rw [getD_set_same us m _ _ (by omega), getD_set_other us m j _ _ hne]
      exact key j hj (Ne.symm hne)
    · rw [getD_set_other us m i _ _ him]
      by_cases hjm : m = j
      · subst hjm
        rw [getD_set_same us m _ _ (by omega)]
        exact (key i hi hne).symm
      · rw [getD_set_other us m j _ _ hjm]
        exact h.apart i j hi hj hne
  · intro i hi b hb
    rw [List.length_set] at hi
    by_cases him : m = i
    · subst him
      rw [getD_set_same us m _ _ (by omega)] at hb
      obtain rfl : gE = b := by simpa [Value.ownBlock] using hb
      rcases hat with e | e
      · exact .inl (h.fu m hm _ e)
      · simp at e; exact .inr ⟨by omega, hlt⟩
    · rw [getD_set_other us m i _ _ him] at hb
      exact .inl (h.fu i hi b hb)
  · rintro b (hb | hb)
    · have := h.lt b hb; simp; omega
    · simp; omega
  · refine ⟨hgrow.os, hgrow.tape, hgrow.output, by simp; omega, fun k hk => by omega⟩
  · intro b hb hF
    rw [heap_setCell_other _ _ _ _ (show b ≠ gT from fun e => hF (by rw [e]; exact h.ft _ hTo))]
    exact grown_far rfl hgrow hb (fun e => hF (h.fu m hm b e.symm))
  · rintro b (hb | hb)
    · exact .inl hb
    · exact .inr hb.1
end Go.Proofs.YtbhkenphcahifaaGreat
