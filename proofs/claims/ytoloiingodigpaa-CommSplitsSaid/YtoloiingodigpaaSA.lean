import Derived.Test.YtoloiingodigpaaK
import Derived.Lib.Hide
namespace Go.Proofs.Ytoloiingodigpaa
open Go.RowKit Go.Shelf Go.Lib

/-- by key, then by rank -/
def LexLt (K : Int → Int) (x y : Int) : Prop := K x < K y ∨ (K x = K y ∧ x < y)
/-- sorted by key, then by rank -/
def SL (K : Int → Int) (l : List Int) : Prop := l.Pairwise (LexLt K)

theorem SL.append {K : Int → Int} {a b : List Int} (ha : SL K a) (hb : SL K b) (h : ∀ x ∈ a, ∀ y ∈ b, LexLt K x y) : SL K (a ++ b) := List.pairwise_append.2 ⟨ha, hb, h⟩
theorem SL.left {K : Int → Int} {a b : List Int} (h : SL K (a ++ b)) : SL K a := (List.pairwise_append.1 h).1
theorem SL.right {K : Int → Int} {a b : List Int} (h : SL K (a ++ b)) : SL K b := (List.pairwise_append.1 h).2.1
theorem SL.cross {K : Int → Int} {a b : List Int} (h : SL K (a ++ b)) : ∀ x ∈ a, ∀ y ∈ b, LexLt K x y := (List.pairwise_append.1 h).2.2

theorem SL.le_last {K : Int → Int} {l : List Int} {z : Int} (h : SL K (l ++ [z])) : ∀ x ∈ l ++ [z], K x ≤ K z := by
  intro x hx
  rcases List.mem_append.1 hx with hx | hx
  · rcases h.cross x hx z (by simp) with h | h
    · omega
    · omega
  · simp at hx; subst hx; exact Int.le_refl _
theorem SL.head_le {K : Int → Int} {l : List Int} {z : Int} (h : SL K (z :: l)) : ∀ x ∈ z :: l, K z ≤ K x := by
  intro x hx
  rcases List.mem_cons.1 hx with hx | hx
  · subst hx; exact Int.le_refl _
  · rcases (List.pairwise_cons.1 h).1 x hx with h | h
    · omega
    · omega

/-- two lists that are sorted, cut so that the cuts' neighbors are in order, are in order crosswise -/
theorem cut_cross {K : Int → Int} {A1 A2 B1 B2 : List Int} (hA : SL K (A1 ++ A2)) (hB : SL K (B1 ++ B2)) (hc : ∀ x ∈ A1 ++ A2, ∀ y ∈ B1 ++ B2, x < y)
    (h1 : ∀ x u y v, A1 = u ++ [x] → B2 = y :: v → ¬ K y < K x) (h2 : ∀ y u x v, B1 = u ++ [y] → A2 = x :: v → K y < K x) :
    ∀ x ∈ A1 ++ B1, ∀ y ∈ A2 ++ B2, LexLt K x y := by
  intro x hx y hy
  rcases List.mem_append.1 hx with hx | hx <;> rcases List.mem_append.1 hy with hy | hy
  · exact hA.cross x hx y hy
  · rcases List.eq_nil_or_concat A1 with e | ⟨u, z, e⟩
    · subst e; cases hx
    · cases B2 with
      | nil => cases hy
      | cons t v =>
        have e' : A1 = u ++ [z] := by simpa using e
        have h := h1 z u t v e' rfl
        have a1 : K x ≤ K z := by
          have h0 := hA.left
          rw [e'] at h0 hx
          exact h0.le_last x hx
        have a2 : K t ≤ K y := hB.right.head_le y hy
        have a3 := hc x (List.mem_append_left _ hx) y (List.mem_append_right _ hy)
        by_cases e3 : K x = K y
        · exact .inr ⟨e3, a3⟩
        · exact .inl (by omega)
  · rcases List.eq_nil_or_concat B1 with e | ⟨u, z, e⟩
    · subst e; cases hx
    · cases A2 with
      | nil => cases hy
      | cons t v =>
        have e' : B1 = u ++ [z] := by simpa using e
        have h := h2 z u t v e' rfl
        have a1 : K x ≤ K z := by
          have h0 := hB.left
          rw [e'] at h0 hx
          exact h0.le_last x hx
        have a2 : K t ≤ K y := hA.right.head_le y hy
        exact .inl (by omega)
  · exact hB.cross x hx y hy

/-- two elements of a list change places -/
def swapL (L : List Int) (i j : Nat) : List Int := (L.set i (L.getD j 0)).set j (L.getD i 0)
@[simp] theorem swapL_len (L : List Int) (i j : Nat) : (swapL L i j).length = L.length := by simp [swapL]

theorem swapL_split (P M Q : List Int) (x y : Int) (i j : Nat) (hi : i = P.length) (hj : j = P.length + 1 + M.length) :
    swapL (P ++ x :: (M ++ y :: Q)) i j = P ++ y :: (M ++ x :: Q) := by
  subst hi hj
  unfold swapL
  have e1 : (P ++ x :: (M ++ y :: Q)).getD P.length 0 = x := by simp [List.getD]
  have e2 : (P ++ x :: (M ++ y :: Q)).getD (P.length + 1 + M.length) 0 = y := by
    have e : P.length + 1 + M.length - P.length = M.length + 1 := by omega
    simp [List.getD, List.getElem?_append, e, show ¬ (P.length + 1 + M.length < P.length) by omega]
  rw [e1, e2]
  rw [List.set_append_right _ _ (Nat.le_refl _), Nat.sub_self, List.set_cons_zero, List.set_append_right _ _ (by omega)]
  have e : P.length + 1 + M.length - P.length = M.length + 1 := by omega
  rw [e, List.set_cons_succ, List.set_append_right _ _ (Nat.le_refl _), Nat.sub_self, List.set_cons_zero]
theorem swapL_split' (P M Q : List Int) (x y : Int) (i j : Nat) (hi : i = P.length) (hj : j = P.length + 1 + M.length) :
    swapL (P ++ x :: (M ++ y :: Q)) j i = P ++ y :: (M ++ x :: Q) := by
  rw [← swapL_split P M Q x y i j hi hj]
  unfold swapL
  rw [List.set_comm _ _ (by omega)]

/-- an element of the middle of a list -/
theorem getD_mid (P Q : List Int) (x : Int) (i : Nat) (hi : i = P.length) : (P ++ x :: Q).getD i 0 = x := by
  subst hi; simp [List.getD]

theorem split_at' (l : List Int) (k : Nat) (h : k ≤ l.length) : ∃ a b, l = a ++ b ∧ a.length = k := ⟨l.take k, l.drop k, (List.take_append_drop k l).symm, by simp [h]⟩
end Go.Proofs.Ytoloiingodigpaa
