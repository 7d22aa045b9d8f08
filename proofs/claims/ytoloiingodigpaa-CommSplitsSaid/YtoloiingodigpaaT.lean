import Derived.Test.YtoloiingodigpaaQ
namespace Go.Proofs.Ytoloiingodigpaa
open Go.RowKit Go.Shelf

/-- cells are as they were -/
structure CellsSame (w w' : World) : Prop where
  os : w'.os = w.os
  tape : w'.tape = w.tape
  output : w'.output = w.output
  size : w'.heap.size = w.heap.size
  block : ∀ (k : Nat) (o : Obj), w.heap[k]? = some o → o.isCells = true → w'.heap[k]? = some o
theorem CellsSame.refl (w : World) : CellsSame w w := ⟨rfl, rfl, rfl, rfl, fun _ _ h _ => h⟩
theorem CellsSame.put {a w : World} (h : CellsSame a w) (D : Nat) (o o' : Obj) (hD : w.heap[D]? = some o) (ho : o.isCells = false) : CellsSame a (w.putObj D o') :=
  ⟨h.os, h.tape, h.output, by simp [World.putObj]; exact h.size, fun k o2 hk h2 => by
    have hw := h.block k o2 hk h2
    refine (World.putObj_heap_other (fun e => ?_)).trans hw
    subst e; rw [hD] at hw; cases hw; rw [ho] at h2; cases h2⟩

/-- loops over functions that have ended: nothing was deferred in their rounds -/
def Marks (B : Nat) (ds : List Deferred) (w : World) : Prop := ds.Nodup ∧ ∀ d ∈ ds, ∃ D, B ≤ D ∧ d = { target := .collected D, args := #[] } ∧ w.heap[D]? = some (.deferred (some []))

theorem below_put {B : Nat} {a w : World} (h : Below B a w) (D : Nat) (o : Obj) (hD : B ≤ D) : Below B a (w.putObj D o) :=
  h.trans ⟨rfl, rfl, rfl, by simp [World.putObj], fun k hk => World.putObj_heap_other (by omega)⟩

theorem leaves_marks {F : Fence} {n : Nat} {P : Program} {fn : Func} {tmps : Array Value} {R : Ending → World → Prop} {B : Nat} {a w0 : World} : ∀ (ds : List Deferred) (w : World), Marks B ds w → CellsSame w0 w → Below B a w →
    (∀ w', CellsSame w0 w' → Below B a w' → LeavesInM F n P fn tmps R [] .returning w') → LeavesInM F n P fn tmps R ds .returning w
  | [], w, _, hs, hb, h => h w hs hb
  | d :: ds, w, hm, hs, hb, h => by
    obtain ⟨D, hBD, rfl, hD⟩ := hm.2 d (by simp)
    refine ⟨by simp, .inl ⟨_, _, rfl, run_takeDeferred hD, ?_⟩⟩
    refine leaves_marks ds _ ⟨(List.nodup_cons.1 hm.1).2, fun d' hd' => ?_⟩ (hs.put D _ _ hD rfl) (below_put hb D _ hBD) h
    obtain ⟨D', hBD', rfl, hD'⟩ := hm.2 d' (by simp [hd'])
    refine ⟨D', hBD', rfl, (World.putObj_heap_other (fun e => ?_)).trans hD'⟩
    subst e
    exact (List.nodup_cons.1 hm.1).1 hd'

theorem setErr_cons (seen : List Int) (x : Int) (l : List Int) (n : Int) : setErr seen (x :: l) n = if x < 0 ∨ n ≤ x then 11 else if x ∈ seen then 5 else setErr (seen ++ [x]) l n := rfl
theorem setErr_app (n : Int) : ∀ (xs seen ys : List Int), setErr seen (xs ++ ys) n = if setErr seen xs n = 0 then setErr (seen ++ xs) ys n else setErr seen xs n
  | [], seen, ys => by simp [setErr]
  | x :: xs, seen, ys => by
    rw [List.cons_append, setErr_cons, setErr_cons]
    by_cases h1 : x < 0 ∨ n ≤ x
    · rw [if_pos h1, if_pos h1]; rfl
    · rw [if_neg h1, if_neg h1]
      by_cases h2 : x ∈ seen
      · rw [if_pos h2, if_pos h2]; rfl
      · rw [if_neg h2, if_neg h2, setErr_app n xs, List.append_assoc]
        rfl

theorem setErr_nodup {n : Int} : ∀ (l seen : List Int), setErr seen l n = 0 → l.Nodup ∧ (∀ x ∈ l, x ∉ seen) ∧ ∀ x ∈ l, 0 ≤ x ∧ x < n
  | [], _, _ => by simp
  | y :: l, seen, h => by
    unfold setErr at h
    split at h
    · cases h
    · rename_i hy
      split at h
      · cases h
      · rename_i hys
        obtain ⟨a, b, c⟩ := setErr_nodup l _ h
        refine ⟨List.nodup_cons.2 ⟨fun hm => b y hm (by simp), a⟩, fun x hx => ?_, fun x hx => ?_⟩
        · rcases List.mem_cons.1 hx with rfl | hx
          · exact hys
          · exact fun hm => b x hx (by simp [hm])
        · rcases List.mem_cons.1 hx with rfl | hx
          · omega
          · exact c x hx

theorem pigeon : ∀ (n : Nat) (l : List Int), l.Nodup → (∀ x ∈ l, 0 ≤ x ∧ x < (n : Int)) → l.length ≤ n
  | 0, l, _, h => by
    cases l with
    | nil => simp
    | cons x l => have := h x (by simp); omega
  | n + 1, l, hn, h => by
    have h1 := pigeon n (l.filter (fun x => x != (n : Int))) (hn.sublist (List.filter_sublist)) (fun x hx => by
      obtain ⟨a, b⟩ := List.mem_filter.1 hx
      have := h x a
      have : x ≠ (n : Int) := by simpa using b
      omega)
    have h2 : l.length ≤ (l.filter (fun x => x != (n : Int))).length + 1 := by
      clear h h1
      induction l with
      | nil => simp
      | cons y l ih =>
        obtain ⟨hy, hl⟩ := List.nodup_cons.1 hn
        by_cases e : y = (n : Int)
        · subst e
          have : l.filter (fun x => x != (n : Int)) = l := List.filter_eq_self.2 fun x hx => by
            simp; intro e; subst e; exact hy hx
          simp [this]
        · have := ih hl
          simp [e]
          omega
    omega
theorem setErr_len {l : List Int} {n : Int} (hn : n ≤ 64) (h : setErr [] l n = 0) : l.length ≤ 64 := by
  obtain ⟨a, _, c⟩ := setErr_nodup l [] h
  exact pigeon 64 l a fun x hx => by have := c x hx; omega
end Go.Proofs.Ytoloiingodigpaa
