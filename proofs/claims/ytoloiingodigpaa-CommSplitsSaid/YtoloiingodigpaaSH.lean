import Derived.Test.YtoloiingodigpaaSG
namespace Go.Proofs.Ytoloiingodigpaa
open Go.RowKit Go.Shelf Go.Lib
attribute [local go_sem] Oper.semAt_some litE
set_option maxRecDepth 100000
set_option maxHeartbeats 2000000

/-- symMerge: two sorted ranges side by side, the ranks of the first below those of the second -/
theorem merge_any (w0 : World) (bb n N : Nat) (K : Int → Int) (hC : CmpC w0 bb n K) (hN : N ≤ 64) : ∀ (d : Nat) (P A B Q : List Int) (a m b : Nat), b - a < d → P.length = a → a + A.length = m → m + B.length = b → (P ++ A ++ B ++ Q).length = N → a < m → m < b → SL K A → SL K B → (∀ x ∈ A, ∀ y ∈ B, x < y) → (∀ y ∈ A ++ B, 0 ≤ y ∧ y < n) → MergeSays w0 bb n N K P A B Q a m b
  | 0, P, A, B, Q, a, m, b, hd, hP, hA, hB, hL, ham, hmb, hSA, hSB, hx, hin => by omega
  | d + 1, P, A, B, Q, a, m, b, hd, hP, hA, hB, hL, ham, hmb, hSA, hSB, hx, hin => by
    by_cases h1 : m = a + 1
    · obtain ⟨x, rfl⟩ : ∃ x, A = [x] := List.length_eq_one_iff.1 (by omega)
      intro W h
      exact merge_left w0 bb n N K hC hN P B Q x a m b h1 hP hB hL hmb hSB (fun y hy => hx x (by simp) y hy) (fun y hy => hin y (by simpa using hy)) W h
    · by_cases h2 : b = m + 1
      · obtain ⟨x, rfl⟩ : ∃ x, B = [x] := List.length_eq_one_iff.1 (by omega)
        intro W h
        exact merge_right w0 bb n N K hC hN P A Q x a m b h2 hP hA hL (by omega) hSA (fun y hy => hx y hy x (by simp)) (fun y hy => hin y (by simp at hy ⊢; rcases hy with h | h <;> simp [h])) W h
      · exact merge_step w0 bb n N K hC hN P A B Q a m b hP hA hB hL (by omega) (by omega) hSA hSB hx hin
          (fun P A B Q a' m' b' h => merge_any w0 bb n N K hC hN d P A B Q a' m' b' (by omega))

/-- one behind the other in ranks -/
def Apart2 (bs : List (List Int)) : Prop := bs.Pairwise fun c d => ∀ x ∈ c, ∀ y ∈ d, x < y
theorem Apart2.merge {ds cs : List (List Int)} {c1 c2 S : List Int} (h : Apart2 (ds ++ c1 :: c2 :: cs)) (hp : S.Perm (c1 ++ c2)) : Apart2 (ds ++ S :: cs) := by
  unfold Apart2 at *
  rw [List.pairwise_append] at h ⊢
  obtain ⟨h1, h2, h3⟩ := h
  rw [List.pairwise_cons, List.pairwise_cons] at h2
  obtain ⟨h4, h5, h6⟩ := h2
  have hm : ∀ x ∈ S, x ∈ c1 ∨ x ∈ c2 := fun x hx => by simpa using hp.subset hx
  refine ⟨h1, List.pairwise_cons.2 ⟨fun d hd x hx y hy => ?_, h6⟩, fun c hc d hd x hx y hy => ?_⟩
  · rcases hm x hx with h | h
    · exact h4 d (by simp [hd]) x h y hy
    · exact h5 d hd x h y hy
  · rcases List.mem_cons.1 hd with rfl | hd
    · rcases hm y hy with h | h
      · exact h3 c hc c1 (by simp) x hx y h
      · exact h3 c hc c2 (by simp) x hx y h
    · exact h3 c hc d (by simp [hd]) x hx y hy
theorem Apart2.perm {ds cs : List (List Int)} {c S : List Int} (h : Apart2 (ds ++ c :: cs)) (hp : S.Perm c) : Apart2 (ds ++ S :: cs) := by
  unfold Apart2 at *
  rw [List.pairwise_append] at h ⊢
  obtain ⟨h1, h2, h3⟩ := h
  rw [List.pairwise_cons] at h2
  refine ⟨h1, List.pairwise_cons.2 ⟨fun d hd x hx y hy => h2.1 d hd x (hp.subset hx) y hy, h2.2⟩, fun c' hc d hd x hx y hy => ?_⟩
  rcases List.mem_cons.1 hd with rfl | hd
  · exact h3 c' hc c (by simp) x hx y (hp.subset hy)
  · exact h3 c' hc d (by simp [hd]) x hx y hy
theorem Apart2.nb {ds cs : List (List Int)} {c1 c2 : List Int} (h : Apart2 (ds ++ c1 :: c2 :: cs)) : ∀ x ∈ c1, ∀ y ∈ c2, x < y := by
  unfold Apart2 at h
  rw [List.pairwise_append] at h
  exact (List.pairwise_cons.1 h.2.1).1 c2 (by simp)
theorem flat_len (B : Nat) : ∀ (bs : List (List Int)), (∀ c ∈ bs, c.length = B) → bs.flatten.length = bs.length * B
  | [], _ => by simp
  | c :: bs, h => by
    have h1 := flat_len B bs (fun c hc => h c (by simp [hc]))
    have h2 := h c (by simp)
    rw [List.flatten_cons, List.length_append, h1, h2, List.length_cons, Nat.succ_mul]; omega

theorem iotaL_pw (n : Nat) : (iotaL n).Pairwise (· < ·) := by
  unfold iotaL
  rw [List.pairwise_map]
  exact List.pairwise_lt_range.imp (fun h => by simpa using h)
theorem iotaL_in (n : Nat) : ∀ x ∈ iotaL n, 0 ≤ x ∧ x < n := by
  intro x hx
  unfold iotaL at hx
  obtain ⟨i, hi, rfl⟩ := List.mem_map.1 hx
  have := List.mem_range.1 hi
  omega

/-- sorted chunks of one length and a shorter last one -/
structure Runs (K : Int → Int) (I : List Int) (B : Nat) (bs : List (List Int)) (t : List Int) : Prop where
  len : ∀ c ∈ bs, c.length = B
  sl : ∀ c ∈ bs, SL K c
  last : SL K t
  short : t.length < B
  perm : (bs.flatten ++ t).Perm I
  apart : Apart2 (bs ++ [t])
end Go.Proofs.Ytoloiingodigpaa
