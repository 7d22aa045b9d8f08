import Derived.Test.YtbhkenphcahifaaGreatNO
namespace Go.Proofs.YtbhkenphcahifaaGreat
open Go.RowKit Go.Shelf

/-- an iterator that WRITES blocks of its own: which blocks are the iterator's (Fr), told against what lies between two rounds (J) -/
structure Priv (J : World → Prop) (Fr : Nat → World → Prop) : Prop where
  cells : ∀ W b, Fr b W → ∃ o, W.heap[b]? = some o ∧ o.isCells = true
  new : ∀ W W2 b, J W → Below W.heap.size W W2 → W.heap.size ≤ b → (∃ o, W2.heap[b]? = some o ∧ o.isCells = true) → Fr b W2
  grow : ∀ W W2 b, J W → Fr b W → Below W.heap.size W W2 → Fr b W2
  store : ∀ W b c i v, J W → Fr b W → Fr c W → Fr b (W.setCell ⟨c, i, none⟩ v)
  jgrow : ∀ W W2, J W → Below W.heap.size W W2 → J W2
  jstore : ∀ W c i v, J W → Fr c W → J (W.setCell ⟨c, i, none⟩ v)

def SeqW {α : Type} (n : Nat) (gf : Nat) (lb : Array Value) (encs : α → Array Value) (Kp : World → World → Prop) (Fr : Nat → World → Prop) (Nd : Nat → Prop) (L : List α) (w : World) : Prop :=
  ∀ (l : Nat) (J : List α → World → Prop) (W : World), Below w.heap.size w W → (∀ b, Nd b → Fr b W) → (∀ pre, Priv (J pre) Fr) →
    (∀ pre x W1, J pre W1 → pre.length < L.length → YieldAt Fence.wide (n - 1) Tryz.prog l (encs x) W1 fun e W' => e = .returned (.bool true) ∧ J (pre ++ [x]) W' ∧ Kp W1 W') →
    J [] W → CallsIn Fence.wide n Tryz.prog gf (#[.func (.yield l) #[] #[]] ++ lb) W fun e W' => (∃ v, e = .returned v) ∧ J L W'

theorem set_other_obj {W : World} {c i : Nat} {v : Value} {k : Nat} {o oc : Obj} (hk : W.heap[k]? = some o) (hc : W.heap[c]? = some oc) (h1 : oc.isCells = true) (h2 : o.isCells = false) : (W.setCell ⟨c, i, none⟩ v).heap[k]? = some o := by
  have hne : k ≠ c := by
    rintro rfl
    rw [hk] at hc; cases hc
    rw [h1] at h2; cases h2
  rw [heap_setCell_other _ _ _ _ hne]; exact hk

/-- a range over such an iterator, by a body that never leaves -/
theorem range_w {α : Type} {n : Nat} {g : Operand} {ps : Array Tmp} {assign body : Code} {Q : Exit → Act → World → Prop} {a : Act} {w : World} (h1 : 1 ≤ n) {gf : Nat} {lb : Array Value}
    (hg : a.eval g = .func (.func gf) #[] lb) (eg : ∀ args w, (callFunc gf args).run Tryz.prog w = .ok (.enter gf args) w) {encs : α → Array Value} {Kp : World → World → Prop} {Fr : Nat → World → Prop} {Nd : Nat → Prop} {L : List α}
    (hseq : SeqW (n - 1) gf lb encs Kp Fr Nd L w) (hnd : ∀ b, Nd b → Fr b w) (hKt : ∀ {A B C : World}, Kp A B → Kp B C → Kp A C) (hKb : ∀ (W : World) (l : Nat) (o o' : Obj), w.heap.size ≤ l → W.heap[l]? = some o → o.isCells = false → Kp W (W.putObj l o'))
    (hps : ∀ x, (encs x).size = ps.size) (I : List α → World → Prop) (hI : OwnFrom w.heap.size I) (hP : ∀ pre, Priv (I pre) Fr) (h0 : I [] w) (a₁ : α → Act)
    (hassign : ∀ (l : Nat) (x : α) (W : World) (K : Act → World → Prop), K (a₁ x) W → assign.wpIn (Fence.wide.inRound l) (n - 1 - 1) Tryz.prog (Exit.then K (fun _ _ _ => False)) { tmps := (ps.zip (encs x)).foldl (fun t (p, v) => t.setIfInBounds p v) a.tmps, defers := [] } W)
    (hbody : ∀ (l : Nat) (pre : List α) (x : α) (W : World), I pre W → pre.length < L.length → body.wpIn (Fence.wide.inRound l) (n - 1 - 1) Tryz.prog (ownPostG w.heap.size Kp I (fun _ _ _ => False) (pre ++ [x]) W) (a₁ x) W)
    (hdone : ∀ (D : Nat) (W : World), w.heap.size ≤ D → I L W → W.heap[D]? = some (.deferred (some [])) → Q .normal { a with defers := { target := .collected D, args := #[] } :: a.defers } W) :
    (Code.rangeFunc g ps assign body).wpIn Fence.wide n Tryz.prog Q a w := by
  refine wpIn_rangeFunc ?_
  intro fn hfn
  rw [show Fence.wide.round = none from rfl]
  let rc : LoopState → Option Code → Loop := fun st pe => { state := st, pending := pe, fn, tmps := a.tmps, params := ps, assign, body, defers := w.heap.size }
  obtain ⟨W1, hW1⟩ : ∃ W1, (w.alloc (.deferred (some []))).alloc (.loop (rc .ready none)) = W1 := ⟨_, rfl⟩
  have hb1 : Below w.heap.size w W1 := by
    rw [← hW1]; exact ((Below.refl _ w).alloc (Nat.le_refl _) _).alloc (by simp) _
  have hl1 : W1.heap[w.heap.size + 1]? = some (.loop (rc .ready none)) := by
    rw [← hW1]; have := World.alloc_heap_new (w.alloc (.deferred (some []))) (.loop (rc .ready none)); rwa [World.size_alloc] at this
  have hk1 : W1.heap[w.heap.size]? = some (.deferred (some [])) := by
    rw [← hW1]; exact (Below.heap_alloc _ _ _ (by simp)).trans (World.alloc_heap_new w _)
  have hi1 : I [] W1 := by rw [← hW1]; exact hI.alloc _ (hI.alloc _ h0)
  refine ⟨w.heap.size + 1, [{ target := .collected w.heap.size, args := #[] }], W1, { target := .fn (.func gf) lb, args := #[.func (.yield (w.heap.size + 1)) #[] #[]] }, W1, gf,
    #[.func (.yield (w.heap.size + 1)) #[] #[]] ++ lb, W1, ?_, ?_, ?_, ?_, fun _ => h1, ?_⟩
  · rw [← hW1]; exact run_enterLoop_outer _ _ _ _ _
  · simp only [resolve, hg]
    simp [go_sem]
  · intro f' hf'; trivial
  · simp [invoke, go_sem, eg]
  · refine (hseq (w.heap.size + 1) (fun pre W => I pre W ∧ W.heap[w.heap.size + 1]? = some (.loop (rc .ready none)) ∧ W.heap[w.heap.size]? = some (.deferred (some []))) W1 hb1 (fun b hb => (hP []).grow w W1 b h0 (hnd b hb) hb1) ?_ ?_ ⟨hi1, hl1, hk1⟩).mono ?_
    · intro pre
      have p := hP pre
      refine ⟨p.cells, fun W W2 b hj => p.new W W2 b hj.1, fun W W2 b hj => p.grow W W2 b hj.1, fun W b c i v hj => p.store W b c i v hj.1, fun W W2 hj hb => ⟨p.jgrow W W2 hj.1 hb, ?_, ?_⟩, fun W c i v hj hc => ⟨p.jstore W c i v hj.1 hc, ?_, ?_⟩⟩
      · rw [hb.block _ (Array.getElem?_eq_some_iff.1 hj.2.1).1]; exact hj.2.1
      · rw [hb.block _ (Array.getElem?_eq_some_iff.1 hj.2.2).1]; exact hj.2.2
      · obtain ⟨oc, h1, h2⟩ := p.cells W c hc
        exact set_other_obj hj.2.1 h1 h2 rfl
      · obtain ⟨oc, h1, h2⟩ := p.cells W c hc
        exact set_other_obj hj.2.2 h1 h2 rfl
    · rintro pre x W ⟨hi, hl, hk⟩ hlen
      have hlt : w.heap.size + 1 < W.heap.size := (Array.getElem?_eq_some_iff.1 hl).1
      refine ⟨fn, _, assign, body, run_yield (P := Tryz.prog) (args := encs x) hl (hps x), roundIn_of_wpIn hfn (hassign _ x W _ ?_)⟩
      refine ⟨_, run_beginRound hl rfl, ?_⟩
      have hl2 := World.putObj_heap_same (w := W) (o := .loop { rc .ready none with state := .busy }) hlt
      have hk2 : (W.putObj (w.heap.size + 1) (.loop { rc .ready none with state := .busy })).heap[w.heap.size]? = some (.deferred (some [])) := (World.putObj_heap_other (by omega)).trans hk
      refine wpIn_mono (hbody (w.heap.size + 1) pre x _ (hI.putObj _ hi (by omega) hl rfl) hlen) ?_
      rintro e a3 W3 hp
      cases e with
      | normal =>
        obtain ⟨hk3, hkp3, hi3⟩ := hp
        have hl3 := hk3.same _ _ (by omega) hl2 rfl
        have hk4 := hk3.same _ _ (Nat.le_refl _) hk2 rfl
        exact ⟨_, _, run_endRound (P := Tryz.prog) none hl3, rfl, ⟨hI.putObj _ hi3 (by omega) hl3 rfl, World.putObj_heap_same (Array.getElem?_eq_some_iff.1 hl3).1, (World.putObj_heap_other (by omega)).trans hk4⟩, hKt (hKt (hKb _ _ _ _ (by omega) hl rfl) hkp3) (hKb _ _ _ _ (by omega) hl3 rfl)⟩
      | ret => exact hp.2.elim
      | exit id => exact hp.2.elim
      | goto t => exact hp.2.elim
      | panic ch => exact hp.elim
      | outgrown => exact hp.elim
    · rintro e W2 ⟨⟨v, rfl⟩, hi, hl, hk⟩
      exact ⟨none, _, run_endLoop (P := Tryz.prog) hl (by simp), hdone _ _ (Nat.le_refl _) (hI.putObj _ hi (by omega) hl rfl) ((World.putObj_heap_other (by omega)).trans hk)⟩

/-- a list of numbers that grows in a variable of its own -/
def OutI (n0 o : Nat) (xs : List Int) (W : World) : Prop := ∃ v, Boxed W o 22 v ∧ W.ownsRow n0 3 1 v xs.length (xs.map (Value.int .i64)) ∧ (v = .slice none 0 0 ↔ xs = [])
/-- the blocks beside that variable and its array -/
def Fq (n0 o b : Nat) (W : World) : Prop := (∃ ob, W.heap[b]? = some ob ∧ ob.isCells = true) ∧ n0 ≤ b ∧ b ≠ o ∧ ∀ v, W.cell? ⟨o, 0, none⟩ = some v → v.ownBlock ≠ some b
/-- what a round of such a loop keeps -/
def Kq (n0 o : Nat) (W W' : World) : Prop := Below n0 W W' ∧ ∀ b, Fq n0 o b W → W'.heap[b]? = W.heap[b]? ∧ Fq n0 o b W'

theorem Kq.trans {n0 o : Nat} {A B C : World} (h : Kq n0 o A B) (k : Kq n0 o B C) : Kq n0 o A C :=
  ⟨h.1.trans k.1, fun b hb => ⟨((k.2 b (h.2 b hb).2).1).trans (h.2 b hb).1, (k.2 b (h.2 b hb).2).2⟩⟩
theorem Kq.putObj {n0 o : Nat} {s : Nat} (hn : n0 ≤ s) (W : World) (l : Nat) (ob o' : Obj) (hs : s ≤ l) (hl : W.heap[l]? = some ob) (hc : ob.isCells = false) (hol : o ≠ l) : Kq n0 o W (W.putObj l o') := by
  have hlt := (Array.getElem?_eq_some_iff.1 hl).1
  refine ⟨(Below.refl n0 W).grown (grownBy_putObj' W l o') (by omega) (fun k e => by cases e; omega), ?_⟩
  rintro b ⟨⟨ob2, h1, h2⟩, h3, h4, h5⟩
  have hne : b ≠ l := by rintro rfl; rw [hl] at h1; cases h1; rw [hc] at h2; cases h2
  have e1 : (W.putObj l o').heap[b]? = W.heap[b]? := World.putObj_heap_other hne
  refine ⟨e1, ⟨ob2, e1.trans h1, h2⟩, h3, h4, fun v hv => h5 v ?_⟩
  rw [← hv]; exact (World.cell?_of_block (w := W) (World.putObj_heap_other hol)).symm
theorem ownsRow_bl {B : Nat} {e : TypeId} {k : Nat} {v : Value} {n : Nat} {xs : List Value} {w w' : World} (h : w.ownsRow B e k v n xs) (hb : Below w.heap.size w w') : w'.ownsRow B e k v n xs := by
  refine h.kept (row := none) ⟨hb.os, hb.tape, hb.output, hb.size, fun k hk _ => hb.block k hk⟩ ?_
  cases e : v.ownBlock with
  | none => exact .inl rfl
  | some b => exact .inr (by simp)
theorem OutI.lt {n0 o : Nat} {xs : List Int} {W : World} (h : OutI n0 o xs W) : o < W.heap.size := by obtain ⟨v, h1, _⟩ := h; exact h1.lt
theorem OutI.below {n0 o : Nat} {xs : List Int} {W W' : World} (h : OutI n0 o xs W) (hb : Below W.heap.size W W') : OutI n0 o xs W' := by
  obtain ⟨v, h1, h2, h3⟩ := h
  exact ⟨v, (hb.block o h1.lt).trans h1, ownsRow_bl h2 hb, h3⟩
theorem OutI.priv {n0 o : Nat} {xs : List Int} {w : World} (hn : n0 ≤ w.heap.size) : Priv (fun W => OutI n0 o xs W ∧ Below n0 w W) (Fq n0 o) where
  cells := fun W b h => h.1
  new := by
    rintro W W2 b ⟨⟨v, h1, h2, h3⟩, hw⟩ hb hsz hc
    have hlt := h1.lt
    have hws := hw.size
    refine ⟨hc, by omega, by omega, fun u hu e => ?_⟩
    rw [hb.cell (p := ⟨o, 0, none⟩) hlt, h1.cell] at hu
    cases hu
    have := (h2.lt b e).2
    omega
  grow := by
    rintro W W2 b ⟨⟨v, h1, h2, h3⟩, hw⟩ ⟨⟨ob, k1, k2⟩, k3, k4, k5⟩ hb
    have hlt := (Array.getElem?_eq_some_iff.1 k1).1
    refine ⟨⟨ob, (hb.block b hlt).trans k1, k2⟩, k3, k4, fun u hu => k5 u ?_⟩
    rw [← hu]; exact (hb.cell (p := ⟨o, 0, none⟩) h1.lt).symm
  store := by
    rintro W b c i v ⟨⟨u, h1, h2, h3⟩, hw⟩ ⟨⟨ob, k1, k2⟩, k3, k4, k5⟩ ⟨⟨oc, m1, m2⟩, m3, m4, m5⟩
    have eo : (W.setCell ⟨c, i, none⟩ v).heap[o]? = W.heap[o]? := heap_setCell_other _ _ _ _ (Ne.symm m4)
    refine ⟨?_, k3, k4, fun x hx => k5 x ?_⟩
    · by_cases hbc : b = c
      · subst hbc
        cases ob with
        | cells cs t fr => exact ⟨.cells (cs.setIfInBounds i v) t fr, by simp [World.setCell, Array.getElem?_modify, k1], rfl⟩
        | _ => cases k2
      · exact ⟨ob, (heap_setCell_other _ _ _ _ hbc).trans k1, k2⟩
    · rw [← hx]; exact (World.cell?_of_block (w := W) eo).symm
  jgrow := fun W W2 h hb => ⟨h.1.below hb, h.2.trans (hb.mono (by have := h.2.size; omega))⟩
  jstore := by
    rintro W c i v ⟨⟨u, h1, h2, h3⟩, hw⟩ ⟨⟨oc, m1, m2⟩, m3, m4, m5⟩
    exact ⟨⟨u, (heap_setCell_other _ _ _ _ (Ne.symm m4)).trans h1, ownsRow_setCell_other h2 (m5 u h1.cell) v, h3⟩, hw.setCell (p := ⟨c, i, none⟩) m3 v⟩
end Go.Proofs.YtbhkenphcahifaaGreat
