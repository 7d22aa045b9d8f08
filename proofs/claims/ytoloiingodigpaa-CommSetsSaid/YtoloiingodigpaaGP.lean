import Derived.Test.YtoloiingodigpaaGM
namespace Go.Proofs.Ytoloiingodigpaa
open Go.RowKit Go.Shelf
attribute [local go_sem] Oper.semAt_some litE
set_option maxRecDepth 100000
set_option maxHeartbeats 1000000

theorem chosen_mem {l m : List Int} {b : Bool} {x : Int} : x ∈ chosenL l m b ↔ x ∈ l ∧ (decide (x ∈ m) == b) = true := by
  unfold chosenL; rw [List.mem_filter]
theorem chosen_nodup {l m : List Int} {b : Bool} (h : l.Nodup) : (chosenL l m b).Nodup := h.sublist List.filter_sublist

theorem chosen_len2 (l m : List Int) : (chosenL l m true).length + (chosenL l m false).length = l.length := by
  unfold chosenL
  induction l with
  | nil => rfl
  | cons x l ih =>
    rw [List.filter_cons, List.filter_cons]
    by_cases h : x ∈ m
    · simp [h] at ih ⊢; omega
    · simp [h] at ih ⊢; omega

theorem chosen_swap {l m : List Int} (h1 : l.Nodup) (h2 : m.Nodup) : (chosenL l m true).length = (chosenL m l true).length := by
  refine Nat.le_antisymm (nodup_len _ _ (chosen_nodup h1) fun x hx => ?_) (nodup_len _ _ (chosen_nodup h2) fun x hx => ?_)
  · have := chosen_mem.1 hx
    exact chosen_mem.2 ⟨by simpa using this.2, by simp [this.1]⟩
  · have := chosen_mem.1 hx
    exact chosen_mem.2 ⟨by simpa using this.2, by simp [this.1]⟩

def unL (l m : List Int) : List Int := l ++ chosenL m l false
theorem un_len {l m : List Int} (h1 : l.Nodup) (h2 : m.Nodup) : (unL l m).length = (chosenL l m false).length + m.length := by
  unfold unL
  rw [List.length_append]
  have := chosen_len2 l m
  have := chosen_len2 m l
  have := chosen_swap h1 h2
  omega
theorem un_mem {l m : List Int} {x : Int} : x ∈ unL l m ↔ x ∈ l ∨ x ∈ m := by
  unfold unL
  rw [List.mem_append, chosen_mem]
  by_cases h : x ∈ l <;> simp [h]
theorem un_nodup {l m : List Int} (h1 : l.Nodup) (h2 : m.Nodup) : (unL l m).Nodup := by
  unfold unL
  rw [List.nodup_append]
  refine ⟨h1, chosen_nodup h2, fun x hx y hy e => ?_⟩
  have := (chosen_mem.1 hy).2
  subst e
  simp [hx] at this

theorem setErr_none {n : Int} : ∀ (l seen : List Int), l.Nodup → (∀ x ∈ l, x ∉ seen) → (∀ x ∈ l, 0 ≤ x ∧ x < n) → setErr seen l n = 0
  | [], _, _, _, _ => rfl
  | x :: l, seen, hn, hs, hr => by
    obtain ⟨h1, h2⟩ := List.nodup_cons.1 hn
    rw [setErr_cons, if_neg (by have := hr x (by simp); omega), if_neg (hs x (by simp))]
    refine setErr_none l _ h2 (fun y hy => ?_) (fun y hy => hr y (by simp [hy]))
    simp only [List.mem_append, List.mem_singleton, not_or]
    exact ⟨hs y (by simp [hy]), fun e => h1 (by rw [← e]; exact hy)⟩
theorem chk_none {l : List Int} (hn : l.Nodup) (hr : ∀ x ∈ l, 0 ≤ x ∧ x < 64) : chkErr l = 0 := by
  unfold chkErr
  have := pigeon 64 l hn hr
  rw [if_neg (by omega)]
  exact setErr_none l [] hn (by simp) hr

theorem more_eq {l m : List Int} : chosenL (unL l m) m false = chosenL l m false := by
  unfold unL
  show ((l ++ chosenL m l false).filter _) = _
  rw [List.filter_append]
  have : (chosenL m l false).filter (fun x => decide (x ∈ m) == false) = [] := by
    rw [List.filter_eq_nil_iff]
    intro x hx
    have := (chosen_mem.1 hx).1
    simp [this]
  rw [this, List.append_nil]
  rfl

theorem cmp_un {l m : List Int} (h1 : l.Nodup) (h2 : m.Nodup) (hp : pairErr (unL l m) (unL m l) = 0) : cmpC (unL l m) (unL m l) = 1 ∨ cmpC (unL l m) (unL m l) = 2 := by
  rw [cmp_eq hp]
  unfold cmpR
  by_cases e : unL l m = unL m l
  · rw [if_pos e]; exact .inl rfl
  · have hl : (unL l m).length = (unL m l).length := Nat.le_antisymm (nodup_len _ _ (un_nodup h1 h2) fun x hx => un_mem.2 (Or.symm (un_mem.1 hx))) (nodup_len _ _ (un_nodup h2 h1) fun x hx => un_mem.2 (Or.symm (un_mem.1 hx)))
    have hz : (chosenL (unL l m) (unL m l) false).length = 0 := by
      rw [List.length_eq_zero_iff]
      unfold chosenL
      rw [List.filter_eq_nil_iff]
      intro x hx
      have : x ∈ unL m l := un_mem.2 (Or.symm (un_mem.1 hx))
      simp [this]
    refine .inr ?_
    rw [if_neg e, if_pos ⟨hl, hz⟩]

theorem iota_mem {n : Nat} {x : Int} : x ∈ iotaL n ↔ 0 ≤ x ∧ x < n := by
  unfold iotaL
  simp only [List.mem_map, List.mem_range]
  constructor
  · rintro ⟨i, h, rfl⟩; omega
  · intro h; exact ⟨x.toNat, by omega, by omega⟩
theorem iota_nodup (n : Nat) : (iotaL n).Nodup := by
  unfold iotaL
  rw [List.nodup_iff_pairwise_ne, List.pairwise_map]
  exact List.pairwise_lt_range.imp fun h => by omega
theorem iota_at {n : Nat} (i : Nat) (h : i < (iotaL n).length) : (iotaL n)[i] = i := by simp [iotaL]
theorem rank_iota {l : List Int} (h : chkErr l = 0) : rankErr l (iotaL l.length) = 0 := by
  unfold rankErr
  rw [if_pos h]
  exact setErr_none _ [] (iota_nodup _) (by simp) (fun x hx => iota_mem.1 hx)
theorem rank_nil {l : List Int} (h : chkErr l = 0) : rankErr l [] = 0 := by
  unfold rankErr
  rw [if_pos h]; rfl
theorem take_iota (l : List Int) : takeL l (iotaL l.length) = l := by
  unfold takeL iotaL
  apply List.ext_getElem
  · simp
  · intro i h1 h2
    simp [List.getD, h2]
theorem excl_nil (l : List Int) : ∀ k, pickF (fun i => !inS [] i) k l = l := by
  induction l with
  | nil => intro k; rfl
  | cons x l ih =>
    intro k
    unfold pickF
    rw [ih]
    simp [inS]

theorem idxGo_get (y : Int) : ∀ (l : List Int) (k : Nat), y ∈ l → ∃ j, j < l.length ∧ idxGo k l y = (k + j : Nat) ∧ l[j]? = some y ∧ ∀ i, i < j → l[i]? ≠ some y
  | [], _, h => by cases h
  | x :: l, k, h => by
    unfold idxGo
    by_cases e : x = y
    · rw [if_pos e]
      exact ⟨0, by simp, by simp, by simp [e], fun i hi => by omega⟩
    · rw [if_neg e]
      obtain ⟨j, h1, h2, h3, h4⟩ := idxGo_get y l (k + 1) (by rcases List.mem_cons.1 h with h | h; exact absurd h.symm e; exact h)
      refine ⟨j + 1, by simp; omega, by rw [h2]; omega, by simpa using h3, fun i hi => ?_⟩
      cases i with
      | zero => simp [e]
      | succ i => simpa using h4 i (by omega)
theorem idxL_get {l : List Int} {y : Int} (h : y ∈ l) : ∃ j, j < l.length ∧ idxL l y = (j : Int) ∧ l[j]? = some y := by
  obtain ⟨j, h1, h2, h3, _⟩ := idxGo_get y l 0 h
  exact ⟨j, h1, by unfold idxL; rw [h2]; simp, h3⟩
theorem idxL_nodup {l : List Int} (hn : l.Nodup) (i : Nat) (hi : i < l.length) : idxL l l[i] = i := by
  obtain ⟨j, h1, h2, h3⟩ := idxL_get (List.getElem_mem hi)
  rw [h2]
  rw [List.getElem?_eq_getElem h1, Option.some.injEq] at h3
  have hp := List.pairwise_iff_getElem.1 (List.nodup_iff_pairwise_ne.1 hn)
  rcases Nat.lt_trichotomy j i with h | h | h
  · exact absurd h3 (hp j i h1 hi h)
  · rw [h]
  · exact absurd h3.symm (hp i j hi h1 h)

/-- the ranks there -/
def toL (l m : List Int) : List Int := (iotaL l.length).map (trOne l m)
@[simp] theorem toL_len (l m : List Int) : (toL l m).length = l.length := by simp [toL]
theorem toL_at (l m : List Int) (i : Nat) (h : i < l.length) : (toL l m)[i]'(by simpa using h) = if l[i] ∈ m then idxL m l[i] else -2 := by
  have e0 : (toL l m)[i]'(by simpa using h) = trOne l m (i : Int) := by simp [toL, iotaL]
  rw [e0]
  unfold trOne
  rw [if_neg (by omega)]
  have e1 : l.getD ((i : Int)).toNat 0 = l[i] := by simp [List.getD, h]
  rw [e1]
  have := idxL_mem m l[i]
  by_cases hm : l[i] ∈ m
  · rw [if_pos hm, if_neg (by have := this.2 hm; omega)]
  · rw [if_neg hm, if_pos (Int.not_le.1 fun hh => hm (this.1 hh))]
theorem to_ok {l m : List Int} (h : pairErr l m = 0) : trE l m (iotaL l.length) = 0 ∧ trV l m (iotaL l.length) = toL l m := by
  have e : trE l m (iotaL l.length) = 0 := by
    unfold trE
    rw [if_pos h, if_neg]
    simp only [List.any_eq_true, not_exists, not_and]
    intro x hx
    have := iota_mem.1 hx
    simp [trBad]; omega
  exact ⟨e, by unfold trV; rw [if_pos e]; rfl⟩
theorem from_ok {l m : List Int} (h : pairErr m l = 0) : trE m l (toL l m) = 0 ∧ trV m l (toL l m) = (toL l m).map (trOne m l) := by
  have e : trE m l (toL l m) = 0 := by
    unfold trE
    rw [if_pos h, if_neg]
    simp only [List.any_eq_true, not_exists, not_and]
    intro x hx
    obtain ⟨i, hi, rfl⟩ := List.getElem_of_mem hx
    rw [toL_at l m i (by simpa using hi)]
    split
    · rename_i hm
      obtain ⟨j, h1, h2, _⟩ := idxL_get hm
      rw [h2]
      simp [trBad]; omega
    · simp [trBad]
  exact ⟨e, by unfold trV; rw [if_pos e]⟩
theorem from_at {l m : List Int} (hn : l.Nodup) (i : Nat) (h : i < l.length) (hm : l[i] ∈ m) : ((toL l m).map (trOne m l))[i]'(by simpa using h) = i ∧ ∃ j, j < m.length ∧ (toL l m)[i]'(by simpa using h) = (j : Int) ∧ m[j]? = some l[i] := by
  obtain ⟨j, h1, h2, h3⟩ := idxL_get hm
  have e : (toL l m)[i]'(by simpa using h) = (j : Int) := by rw [toL_at l m i h, if_pos hm, h2]
  refine ⟨?_, j, h1, e, h3⟩
  rw [List.getElem_map, e]
  unfold trOne
  rw [if_neg (by omega)]
  have e1 : m.getD ((j : Int)).toNat 0 = l[i] := by simp [List.getD, h3]
  rw [e1, idxL_nodup hn i h, if_neg (by omega)]
end Go.Proofs.Ytoloiingodigpaa
