import Derived.Test.YtoloiingodigpaaGD
import Derived.Test.YtoloiingodigpaaT
namespace Go.Proofs.Ytoloiingodigpaa
open Go.RowKit Go.Shelf
attribute [local go_sem] Oper.semAt_some litE
set_option maxRecDepth 100000
set_option maxHeartbeats 1000000

theorem nodup_len : ∀ (l m : List Int), l.Nodup → (∀ x ∈ l, x ∈ m) → l.length ≤ m.length
  | [], _, _, _ => by simp
  | x :: l, m, hn, hs => by
    obtain ⟨h1, h2⟩ := List.nodup_cons.1 hn
    have hx := hs x (by simp)
    have ih := nodup_len l (m.erase x) h2 fun y hy => (List.mem_erase_of_ne (fun e => h1 (by rw [← e]; exact hy))).2 (hs y (by simp [hy]))
    have hl := List.length_erase_of_mem hx
    have hp := List.length_pos_of_mem hx
    simp
    omega

theorem chk_facts {l : List Int} (h : chkErr l = 0) : l.Nodup ∧ ∀ x ∈ l, 0 ≤ x ∧ x < 64 := by
  unfold chkErr at h
  split at h
  · cases h
  · obtain ⟨h1, _, h3⟩ := setErr_nodup l [] h
    exact ⟨h1, h3⟩

theorem inS_nat {l : List Int} {x : Int} (h : 0 ≤ x) : inS l x.toNat = decide (x ∈ l) := by
  unfold inS
  rw [Int.toNat_of_nonneg h]

theorem pick_chosen {l m : List Int} (h : ∀ x ∈ l, 0 ≤ x) (b : Bool) : pickF (fun i => inS m (l.getD i 0).toNat == b) 0 l = chosenL l m b := by
  unfold chosenL
  refine pickF_filter' _ _ l 0 fun i hi => ?_
  rw [Nat.zero_add, inS_nat (h _ (by simp [List.getD, hi]))]
where
  pickF_filter' (p : Nat → Bool) (q : Int → Bool) : ∀ (l : List Int) (k : Nat), (∀ i, i < l.length → p (k + i) = q (l.getD i 0)) → pickF p k l = l.filter q
  | [], _, _ => rfl
  | x :: l, k, h => by
    have h0 := h 0 (by simp)
    have ih := pickF_filter' p q l (k + 1) fun i hi => by
      have := h (i + 1) (by simp; omega)
      rw [show k + 1 + i = k + (i + 1) by omega, this]; simp
    simp at h0
    unfold pickF
    rw [ih, h0, List.filter_cons]

theorem inter_eq (l m : List Int) : interL l m = refL l m (chosenL l m true) := by
  unfold interL pairL refL
  by_cases h : pairErr l m = 0
  · rw [if_pos h, if_pos h, ← pick_chosen (fun x hx => ((chk_facts (pairErr_zero h).1).2 x hx).1) true]
    congr 1
    funext i
    simp
  · rw [if_neg h, if_neg h]
theorem diff_eq (l m : List Int) : diffL l m = refL l m (chosenL l m false) := by
  unfold diffL pairL refL
  by_cases h : pairErr l m = 0
  · rw [if_pos h, if_pos h, ← pick_chosen (fun x hx => ((chk_facts (pairErr_zero h).1).2 x hx).1) false]
    congr 1
    funext i
    simp
  · rw [if_neg h, if_neg h]
theorem union_eq (l m : List Int) : unionL l m = refL l m (l ++ chosenL m l false) := by
  unfold unionL pairL refL
  by_cases h : pairErr l m = 0
  · rw [if_pos h, if_pos h, ← pick_chosen (fun x hx => ((chk_facts (pairErr_zero h).2).2 x hx).1) false]
    congr 2
    funext i
    simp
  · rw [if_neg h, if_neg h]

/-- how two groups compare, by the sets -/
def cmpC (l m : List Int) : Int := if l = m then 1 else if ((List.range 64).all fun i => pairF l m l i == pairF l m m i) = true then 2 else 3
/-- how two groups compare, by the lists -/
def cmpR (l m : List Int) : Int := if l = m then 1 else if l.length = m.length ∧ (chosenL l m false).length = 0 then 2 else 3

theorem cmp_eq {l m : List Int} (h : pairErr l m = 0) : cmpC l m = cmpR l m := by
  obtain ⟨hl, hm⟩ := pairErr_zero h
  obtain ⟨n1, r1⟩ := chk_facts hl
  obtain ⟨n2, r2⟩ := chk_facts hm
  have key : ((List.range 64).all fun i => pairF l m l i == pairF l m m i) = true ↔ (l.length = m.length ∧ (chosenL l m false).length = 0) := by
    rw [List.length_eq_zero_iff]
    unfold chosenL
    rw [List.filter_eq_nil_iff]
    constructor
    · intro hall
      have hs : ∀ x, 0 ≤ x → x < 64 → (x ∈ l ↔ x ∈ m) := fun x h0 h1 => by
        have := List.all_eq_true.1 hall x.toNat (by simp; omega)
        simp only [pairF, h, inS, Int.toNat_of_nonneg h0] at this
        simpa using this
      have s1 : ∀ x ∈ l, x ∈ m := fun x hx => (hs x (r1 x hx).1 (r1 x hx).2).1 hx
      have s2 : ∀ x ∈ m, x ∈ l := fun x hx => (hs x (r2 x hx).1 (r2 x hx).2).2 hx
      exact ⟨Nat.le_antisymm (nodup_len l m n1 s1) (nodup_len m l n2 s2), fun x hx => by simp [s1 x hx]⟩
    · rintro ⟨hlen, hc⟩
      have s1 : ∀ x ∈ l, x ∈ m := fun x hx => by simpa using hc x hx
      have s2 : ∀ x ∈ m, x ∈ l := fun x hx => by
        by_cases hxl : x ∈ l
        · exact hxl
        · have := nodup_len (x :: l) m (List.nodup_cons.2 ⟨hxl, n1⟩) (fun y hy => by rcases List.mem_cons.1 hy with rfl | hy; exact hx; exact s1 y hy)
          simp at this
          omega
      refine List.all_eq_true.2 fun i hi => ?_
      have : ((i : Int) ∈ l) ↔ ((i : Int) ∈ m) := ⟨s1 _, s2 _⟩
      simp [pairF, h, inS, this]
  unfold cmpC cmpR
  by_cases e : l = m
  · rw [if_pos e, if_pos e]
  · rw [if_neg e, if_neg e]
    by_cases k : l.length = m.length ∧ (chosenL l m false).length = 0
    · rw [if_pos k, if_pos (key.2 k)]
    · rw [if_neg k, if_neg (fun x => k (key.1 x))]
end Go.Proofs.Ytoloiingodigpaa
