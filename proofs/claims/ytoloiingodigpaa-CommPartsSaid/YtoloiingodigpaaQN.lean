import Derived.Test.YtoloiingodigpaaQI
import Derived.Deep.AppendLies
namespace Go.Proofs.Ytoloiingodigpaa
open Go.RowKit Go.Shelf

theorem own_grownE {w w1 : World} {B e : Nat} {u : Value} {n : Nat} {xs : List Value} {row : Option Nat} (h : w.ownsRow B e 1 u n xs) (hg : w.grownBy w1 row) (hne : ∀ b, u.ownBlock = some b → some b ≠ row) : w1.ownsRow B e 1 u n xs := by
  refine ⟨h.1, ?_⟩
  rcases h.2 with h2 | ⟨g, cap, cur, h1, h3, h4, h5⟩
  · exact .inl h2
  · exact .inr ⟨g, cap, cur, h1, h3, (hg.block g (Array.getElem?_eq_some_iff.1 h4).1 (hne g (by rw [h1]; rfl))).trans h4, h5⟩
theorem own_at {w : World} {B e : Nat} {u : Value} {n : Nat} {xs : List Value} (h : w.ownsRow B e 1 u n xs) {b : Nat} (hb : u.ownBlock = some b) : ∃ cur, w.heap[b]? = some (.cells cur e (0, 0)) := by
  rcases h.2 with ⟨h2, _⟩ | ⟨g, cap, cur, h1, h3, h4, h5⟩
  · rw [h2] at hb; cases hb
  · rw [h1] at hb
    have : g = b := by simpa [Value.ownBlock] using hb
    exact ⟨cur, this ▸ h4⟩
/-- rows of two types do not lie in one block -/
theorem own_types {w : World} {B e f : Nat} {u v : Value} {n m : Nat} {xs ys : List Value} (h : w.ownsRow B e 1 u n xs) (h' : w.ownsRow B f 1 v m ys) (hef : e ≠ f) : ∀ b, u.ownBlock = some b → some b ≠ v.ownBlock := fun b hb e0 => by
  obtain ⟨c1, h1⟩ := own_at h hb
  obtain ⟨c2, h2⟩ := own_at h' e0.symm
  rw [h1] at h2
  simp at h2
  exact hef h2.2
theorem own_not {w : World} {B e t : Nat} {u : Value} {n : Nat} {xs : List Value} {b : Nat} {cs : Array Value} (h : w.ownsRow B e 1 u n xs) (hb : w.heap[b]? = some (.cells cs t (0, 0))) (ht : t ≠ e) : u.ownBlock ≠ some b := fun hu => by
  obtain ⟨c1, h1⟩ := own_at h hu
  rw [hb] at h1
  simp at h1
  exact ht h1.2

/-- two rows do not lie in one block -/
def Apart (v u : Value) : Prop := ∀ b, v.ownBlock = some b → u.ownBlock ≠ some b
theorem apart_grow_l {w : World} {B e n : Nat} {xs : List Value} {v v' u : Value} (h : Apart v u) (hor : v'.ownBlock = v.ownBlock ∨ v'.ownBlock = some w.heap.size) (hu : w.ownsRow B e 1 u n xs) : Apart v' u := fun b hb hb3 => by
  rcases hor with e0 | e0
  · exact h b (e0.symm.trans hb) hb3
  · rw [e0] at hb
    have := (hu.lt b hb3).2
    simp at hb
    omega
theorem apart_grow_r {w : World} {B e n : Nat} {xs : List Value} {v v' u : Value} (h : Apart u v) (hor : v'.ownBlock = v.ownBlock ∨ v'.ownBlock = some w.heap.size) (hu : w.ownsRow B e 1 u n xs) : Apart u v' := fun b hb hb3 => by
  rcases hor with e0 | e0
  · exact h b hb (e0.symm.trans hb3)
  · rw [e0] at hb3
    have := (hu.lt b hb).2
    simp at hb3
    omega
theorem own_grow_ne {w : World} {v v' : Value} {b : Nat} {o : Obj} (h : v.ownBlock ≠ some b) (hor : v'.ownBlock = v.ownBlock ∨ v'.ownBlock = some w.heap.size) (hb : w.heap[b]? = some o) : v'.ownBlock ≠ some b := fun e => by
  rcases hor with e0 | e0
  · exact h (e0.symm.trans e)
  · rw [e0] at e
    have := (Array.getElem?_eq_some_iff.1 hb).1
    simp at e
    omega

theorem append1 {w : World} {B : Nat} {v : Value} {R : List Int} {s : Int} {b : Nat} (hN : NewInts B w v R) (hR : R.length + 1 ≤ 1000) (hb : w.heap[b]? = some (.cells #[.int .i64 s] 3 (0, 0))) (hB : B ≤ w.heap.size) :
    ∃ v' w1, (Builtin.append_ #[22, 22] 22 #[v, .slice (some ⟨b, 0, none⟩) 1 1]).run Try.prog w = .ok v' w1 ∧ NewInts B w1 v' (R ++ [s]) ∧ w.grownBy w1 v.ownBlock ∧ (v'.ownBlock = v.ownBlock ∨ v'.ownBlock = some w.heap.size) := by
  obtain ⟨i0, hi, hz0, hz1, hz2⟩ := info_parts Try.info3
  obtain ⟨v', w', h1, h2, h3, _, h5⟩ := run_append_own_at (P := Try.prog) w B 22 22 3 i0 (.int .i64 0) 1 8 Try.underlying22 hi hz0 hz1 hz2 rfl (by decide) v R.length (R.map (Value.int .i64)) hN.own ⟨b, 0, none⟩ 1 1 [.int .i64 s] (by simp)
    (World.news_of_block (cs := #[.int .i64 s]) hb) (by intro u hu; simp at hu; subst hu; rfl) (by unfold maxLen; omega) (by omega) hB
  refine ⟨v', w', h1, ⟨by simpa using h2, by simp; omega⟩, h3, ?_⟩
  rcases h5 with h5 | h5
  · exact .inl h5
  · exact .inr h5
end Go.Proofs.Ytoloiingodigpaa
