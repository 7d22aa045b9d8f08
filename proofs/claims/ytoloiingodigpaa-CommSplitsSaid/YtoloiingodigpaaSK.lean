import Derived.Test.YtoloiingodigpaaSJ
namespace Go.Proofs.Ytoloiingodigpaa
open Go.RowKit Go.Shelf Go.Lib

/-! the mathematics of Split -/

theorem setAll_get (v : Int) : ∀ (rs out : List Int) (j : Nat), j < out.length → (∀ r ∈ rs, 0 ≤ r) → (setAll out rs v).getD j 0 = if (j : Int) ∈ rs then v else out.getD j 0
  | [], out, j, hj, h => by simp [setAll]
  | r :: rs, out, j, hj, h => by
    have ih := setAll_get v rs (out.set r.toNat v) j (by simpa using hj) (fun x hx => h x (by simp [hx]))
    have e : setAll out (r :: rs) v = setAll (out.set r.toNat v) rs v := rfl
    rw [e, ih]
    have h0 := h r (by simp)
    by_cases h1 : (j : Int) ∈ rs
    · simp [h1]
    · rw [if_neg h1]
      by_cases h2 : (j : Int) = r
      · have h3 : r.toNat = j := by omega
        rw [if_pos (by simp [h2]), h3]
        simp [List.getD, hj]
      · have h3 : r.toNat ≠ j := by omega
        rw [if_neg (by simp [h2, h1])]
        simp [List.getD, List.getElem?_set, h3]

theorem ranksOf_mem {C O : List Int} {n : Nat} (hO : O.Perm (iotaL n)) {c : Int} {x : Int} : x ∈ ranksOf C O c ↔ (0 ≤ x ∧ x < n) ∧ C.getD x.toNat 0 = c := by
  unfold ranksOf
  rw [List.mem_filter]
  constructor
  · rintro ⟨h1, h2⟩
    exact ⟨iotaL_in n x (hO.subset h1), by simpa using h2⟩
  · rintro ⟨⟨h0, h1⟩, h2⟩
    refine ⟨hO.symm.subset ?_, by simpa using h2⟩
    unfold iotaL
    exact List.mem_map.2 ⟨x.toNat, List.mem_range.2 (by omega), by simp; omega⟩

theorem fold_split {C O g : List Int} {n : Nat} (hO : O.Perm (iotaL n)) : ∀ (ds : List Int) (gs : List (List Int)) (out : List Int), ds.Nodup → out.length = n →
    (ds.foldl (splitStep C O g) (gs, out)).1 = gs ++ ds.map (fun c => takeL g (ranksOf C O c)) ∧ (ds.foldl (splitStep C O g) (gs, out)).2.length = n ∧
    ∀ j, j < n → (ds.foldl (splitStep C O g) (gs, out)).2.getD j 0 = if C.getD j 0 ∈ ds then ((gs.length + ds.idxOf (C.getD j 0) : Nat) : Int) else out.getD j 0
  | [], gs, out, hd, ho => ⟨by simp, by simpa using ho, fun j hj => by simp⟩
  | c :: ds, gs, out, hd, ho => by
    obtain ⟨hc, hd'⟩ := List.nodup_cons.1 hd
    have ih := fold_split (C := C) (g := g) hO ds (gs ++ [takeL g (ranksOf C O c)]) (setAll out (ranksOf C O c) gs.length) hd' (by simpa using ho)
    have e : (c :: ds).foldl (splitStep C O g) (gs, out) = ds.foldl (splitStep C O g) (gs ++ [takeL g (ranksOf C O c)], setAll out (ranksOf C O c) gs.length) := rfl
    rw [e]
    refine ⟨by rw [ih.1]; simp, ih.2.1, fun j hj => ?_⟩
    rw [ih.2.2 j hj, setAll_get _ _ _ _ (by omega) (fun r hr => (ranksOf_mem hO).1 hr |>.1.1)]
    have hrk : (j : Int) ∈ ranksOf C O c ↔ C.getD j 0 = c := by
      rw [ranksOf_mem hO]
      constructor
      · intro h; simpa using h.2
      · intro h; exact ⟨⟨by omega, by omega⟩, by simpa using h⟩
    simp only [hrk]
    generalize C.getD j 0 = cj at *
    clear hrk
    by_cases h1 : cj ∈ ds
    · have h2 : cj ≠ c := fun e => hc (e ▸ h1)
      rw [if_pos h1, if_pos (by simp [h1]), List.idxOf_cons]
      have : (c == cj) = false := by simp; exact fun e => h2 e.symm
      rw [this]
      simp; omega
    · rw [if_neg h1]
      by_cases h2 : cj = c
      · rw [if_pos h2, if_pos (by simp [h2]), List.idxOf_cons]
        have : (c == cj) = true := by simp [h2]
        rw [this]
        simp
      · rw [if_neg h2, if_neg (by simp [h1, h2])]

/-! Compact of a sorted list: strictly ascending, the same elements -/
theorem compact_pw (s : List Int) (h : s.Pairwise (· ≤ ·)) : (Lib.compact s).Pairwise (· < ·) := by
  unfold Lib.compact Lib.compactUpTo
  rw [List.pairwise_map, List.pairwise_filter]
  refine List.pairwise_lt_range.imp_of_mem ?_
  intro i j hi hj hij _ hk
  have hi' := List.mem_range.1 hi
  have hj' := List.mem_range.1 hj
  have g : ∀ k (hk : k < s.length), s.toArray[k]! = s[k] := fun k hk => by simp [getElem!_pos, hk]
  unfold Lib.keeps at hk
  rw [decide_eq_true_eq] at hk
  rcases hk with hk | hk
  · omega
  · rw [g j hj', g (j - 1) (by omega)] at hk
    rw [g i hi', g j hj']
    rw [List.pairwise_iff_getElem] at h
    have h1 := h (j - 1) j (by omega) hj' (by omega)
    have h2 : s[i] ≤ s[j - 1] := by
      by_cases e : i = j - 1
      · subst e; exact Int.le_refl _
      · exact h i (j - 1) hi' (by omega) (by omega)
    omega
theorem compact_has (s : List Int) : ∀ i (h : i < s.length), s[i] ∈ Lib.compact s
  | 0, h => by
    unfold Lib.compact Lib.compactUpTo
    exact List.mem_map.2 ⟨0, List.mem_filter.2 ⟨List.mem_range.2 h, by simp [Lib.keeps]⟩, by simp [getElem!_pos, h]⟩
  | i + 1, h => by
    by_cases e : s[i + 1] = s[i]
    · rw [e]; exact compact_has s i (by omega)
    · unfold Lib.compact Lib.compactUpTo
      refine List.mem_map.2 ⟨i + 1, List.mem_filter.2 ⟨List.mem_range.2 h, ?_⟩, by simp [getElem!_pos, h]⟩
      have g : ∀ k (hk : k < s.length), s.toArray[k]! = s[k] := fun k hk => by simp [getElem!_pos, hk]
      unfold Lib.keeps
      rw [decide_eq_true_eq, g _ h]
      right
      have : i + 1 - 1 = i := rfl
      rw [this, g i (by omega)]
      exact e
theorem compact_mem (s : List Int) (x : Int) : x ∈ Lib.compact s ↔ x ∈ s := by
  constructor
  · intro h
    unfold Lib.compact Lib.compactUpTo at h
    obtain ⟨i, hi, rfl⟩ := List.mem_map.1 h
    have hi' : i < s.length := List.mem_range.1 (List.mem_filter.1 hi).1
    simp [getElem!_pos, hi']
  · intro h
    obtain ⟨i, hi, rfl⟩ := List.getElem_of_mem h
    exact compact_has s i hi
theorem sortL_pw (l : List Int) : (sortL l).Pairwise (· ≤ ·) := by
  have := List.pairwise_mergeSort (le := fun x y : Int => decide (x ≤ y)) (fun a b c h1 h2 => by simp at *; omega) (fun a b => by simp; omega) l
  unfold sortL
  exact this.imp (fun h => by simpa using h)
theorem sortL_mem (l : List Int) (x : Int) : x ∈ sortL l ↔ x ∈ l := by unfold sortL; simp
theorem colorsOf_pw (C : List Int) : (colorsOf C).Pairwise (· < ·) := compact_pw _ (sortL_pw _)
theorem colorsOf_mem (C : List Int) (x : Int) : x ∈ colorsOf C ↔ x ∈ C ∧ x ≠ -2 := by
  unfold colorsOf
  rw [compact_mem, sortL_mem, List.mem_filter]
  simp
theorem asc_len : ∀ (l : List Int) (a : Int) (k : Nat), l.Pairwise (· < ·) → (∀ x ∈ l, a ≤ x ∧ x < a + k) → l.length ≤ k
  | [], a, k, h, hx => Nat.zero_le _
  | x :: l, a, k, h, hx => by
    obtain ⟨h1, h2⟩ := List.pairwise_cons.1 h
    have h3 := hx x (by simp)
    have := asc_len l (a + 1) (k - 1) h2 (fun y hy => by have := h1 y hy; have := hx y (by simp [hy]); omega)
    simp; omega
theorem colorsOf_len (C : List Int) (h : ∀ x ∈ C, x = -2 ∨ (1 ≤ x ∧ x ≤ 4)) : (colorsOf C).length ≤ 4 :=
  asc_len _ 1 4 (colorsOf_pw C) (fun x hx => by
    obtain ⟨h1, h2⟩ := (colorsOf_mem C x).1 hx
    rcases h x h1 with h3 | h3
    · exact absurd h3 h2
    · omega)

theorem pw_filter_next {R : Int → Int → Prop} {l : List Int} (h : l.Pairwise R) (p : Int → Bool) (j : Nat) (hj : j + 1 < (l.filter p).length) : R (l.filter p)[j] (l.filter p)[j + 1] := by
  have := h.filter p
  rw [List.pairwise_iff_getElem] at this
  exact this j (j + 1) (by omega) hj (by omega)

/-- what the law asks of Split: M the contexts, G the groups; N how many there were -/
structure SplitSays (C : List Int) (K : Int → Int) (n N : Nat) (M : List Int) (G : List (List Int)) : Prop where
  len : M.length = n
  old : ∀ i, i < N → G[i]? = some (iotaL n)
  one : ∀ i, i < n → (M.getD i 0 = -2 ∧ C.getD i 0 = -2) ∨
    (C.getD i 0 ≠ -2 ∧ ∃ (x : Nat) (g : List Int), M.getD i 0 = x ∧ N ≤ x ∧ G[x]? = some g ∧ (i : Int) ∈ g ∧
      (∀ p ∈ g, 0 ≤ p ∧ p < n ∧ M.getD p.toNat 0 = x ∧ C.getD p.toNat 0 = C.getD i 0) ∧
      (∀ j, j + 1 < g.length → LexLt K (g.getD j 0) (g.getD (j + 1) 0)) ∧
      (∀ p, p < n → ((C.getD p 0 = C.getD i 0) ↔ (M.getD p 0 = x))) ∧ (∀ p : Nat, p < n → C.getD p 0 = C.getD i 0 → (p : Int) ∈ g))

theorem split_says (C O : List Int) (K : Int → Int) (n N : Nat) (hC : C.length = n) (hO : O.Perm (iotaL n)) (hS : SL K O) (hn : 1 ≤ n) (gs : List (List Int)) (hgs : gs = List.replicate N (iotaL n)) :
    SplitSays C K n N (splitG C O (iotaL n) gs).2 (splitG C O (iotaL n) gs).1 := by
  have hnd : (colorsOf C).Nodup := (colorsOf_pw C).imp (fun h => by omega)
  obtain ⟨f1, f2, f3⟩ := fold_split (C := C) (g := iotaL n) hO (colorsOf C) gs (List.replicate (iotaL n).length (-2)) hnd (by simp)
  change (splitG C O (iotaL n) gs).1 = _ at f1
  change (splitG C O (iotaL n) gs).2.length = _ at f2
  change ∀ j, j < n → (splitG C O (iotaL n) gs).2.getD j 0 = _ at f3
  have hgl : gs.length = N := by rw [hgs]; simp
  have htake : ∀ c, takeL (iotaL n) (ranksOf C O c) = ranksOf C O c := by
    intro c
    unfold takeL
    conv => rhs; rw [← List.map_id (ranksOf C O c)]
    refine List.map_congr_left fun x hx => ?_
    obtain ⟨⟨h0, h1⟩, _⟩ := (ranksOf_mem hO).1 hx
    have : x.toNat < n := by omega
    simp [iotaL, List.getD, this]; omega
  have hCm : ∀ j, j < n → C.getD j 0 ∈ C := fun j hj => getD_mem' _ _ (by omega)
  have hM : ∀ j, j < n → (splitG C O (iotaL n) gs).2.getD j 0 = if C.getD j 0 = -2 then -2 else ((N + (colorsOf C).idxOf (C.getD j 0) : Nat) : Int) := by
    intro j hj
    rw [f3 j hj, hgl]
    by_cases e : C.getD j 0 = -2
    · rw [if_pos e, if_neg (fun h => ((colorsOf_mem C _).1 h).2 e)]
      simp [List.getD, hj]
    · rw [if_neg e, if_pos ((colorsOf_mem C _).2 ⟨hCm j hj, e⟩)]
  refine ⟨f2, fun i hi => ?_, fun i hi => ?_⟩
  · rw [f1, List.getElem?_append_left (by omega), hgs]
    simp [hi]
  · by_cases e : C.getD i 0 = -2
    · exact .inl ⟨by rw [hM i hi, if_pos e], e⟩
    · have hmem := (colorsOf_mem C _).2 ⟨hCm i hi, e⟩
      have hlt : (colorsOf C).idxOf (C.getD i 0) < (colorsOf C).length := List.idxOf_lt_length_of_mem hmem
      refine .inr ⟨e, N + (colorsOf C).idxOf (C.getD i 0), ranksOf C O (C.getD i 0), by rw [hM i hi, if_neg e], Nat.le_add_right _ _, ?_, ?_, ?_, ?_, ?_, ?_⟩
      · rw [f1, List.getElem?_append_right (by omega), hgl]
        have : N + (colorsOf C).idxOf (C.getD i 0) - N = (colorsOf C).idxOf (C.getD i 0) := by omega
        rw [this, List.getElem?_map, List.getElem?_eq_getElem hlt, List.getElem_idxOf hlt]
        simp [htake]
      · exact (ranksOf_mem hO).2 ⟨⟨by omega, by omega⟩, by simp⟩
      · intro p hp
        obtain ⟨⟨h0, h1⟩, h2⟩ := (ranksOf_mem hO).1 hp
        refine ⟨h0, h1, ?_, h2⟩
        rw [hM _ (by omega), h2, if_neg e]
      · intro j hj
        have := pw_filter_next hS (fun r => C.getD r.toNat 0 == C.getD i 0) j hj
        change LexLt K (ranksOf C O (C.getD i 0))[j] (ranksOf C O (C.getD i 0))[j + 1] at this
        have g : ∀ (l : List Int) (k : Nat) (h : k < l.length), l.getD k 0 = l[k] := fun l k h => by simp [List.getD, h]
        rw [g _ j (by omega), g _ (j + 1) hj]
        exact this
      · intro p hp
        rw [hM p hp]
        constructor
        · intro h; rw [h, if_neg e]
        · intro h
          by_cases e2 : C.getD p 0 = -2
          · rw [if_pos e2] at h; omega
          · rw [if_neg e2] at h
            have hmem2 := (colorsOf_mem C _).2 ⟨hCm p hp, e2⟩
            have hlt2 : (colorsOf C).idxOf (C.getD p 0) < (colorsOf C).length := List.idxOf_lt_length_of_mem hmem2
            have h3 : (colorsOf C).idxOf (C.getD p 0) = (colorsOf C).idxOf (C.getD i 0) := by omega
            have h4 := List.getElem_idxOf hlt2
            have h5 := List.getElem_idxOf hlt
            rw [← h4, ← h5]
            congr 1
      · intro p hp h
        exact (ranksOf_mem hO).2 ⟨⟨by omega, by omega⟩, by simpa using h⟩
end Go.Proofs.Ytoloiingodigpaa
