import Derived.Test.YtoloiingodigpaaPA
namespace Go.Proofs.Ytoloiingodigpaa
open Go.RowKit Go.Shelf

/-- none is above the one before -/
def Down : Int → List Int → Prop
  | _, [] => True
  | m, s :: l => s ≤ m ∧ Down s l
theorem Down.at_ : ∀ {l : List Int} {m : Int}, Down m l → ∀ i (h : i + 1 < l.length), l[i + 1] ≤ l[i]
  | [], _, _, i, h => by simp at h
  | [_], _, _, i, h => by simp at h
  | a :: b :: l, m, hd, 0, _ => hd.2.1
  | a :: b :: l, m, hd, i + 1, h => by
    show (b :: l)[i + 1]'(by simpa using h) ≤ (b :: l)[i]'(by simp at h ⊢; omega)
    exact Down.at_ hd.2 i (by simpa using h)

theorem facGo_spec (f : Int → Int → Option (List Int)) (hf : ∀ n s r, 1 ≤ n → f n s = some r → (∀ x ∈ r, 1 ≤ x) ∧ prodL r = n ∧ Down s r) {n : Int} (h1 : 1 ≤ n) : ∀ (m : Nat) (s : Int) (l : List Int), 1 ≤ s → facGo f n m s = some l → (∀ x ∈ l, 1 ≤ x) ∧ prodL l = n ∧ Down (s + m - 1) l
  | 0, _, _, _, h => by cases h
  | m + 1, s, l, hs, h => by
    unfold facGo at h
    split at h
    · obtain ⟨a, b, c⟩ := facGo_spec f hf h1 m (s + 1) l (by omega) h
      exact ⟨a, b, by rw [show s + ((m + 1 : Nat) : Int) - 1 = s + 1 + m - 1 by omega]; exact c⟩
    · rename_i hq
      have hq : n % s = 0 := by omega
      have hmul := Int.ediv_mul_cancel (Int.dvd_of_emod_eq_zero hq)
      have hd1 : 1 ≤ n / s := by
        have h0 : 0 ≤ n / s := Int.ediv_nonneg (by omega) (by omega)
        by_cases h6 : n / s = 0
        · rw [h6] at hmul; omega
        · omega
      split at h
      · rename_i r hr
        cases h
        obtain ⟨a, b, c⟩ := hf _ _ _ hd1 hr
        refine ⟨fun x hx => ?_, ?_, ?_, c⟩
        · rcases List.mem_cons.1 hx with rfl | hx
          · exact hs
          · exact a x hx
        · unfold prodL; rw [b, Int.mul_comm]; exact hmul
        · omega
      · obtain ⟨a, b, c⟩ := facGo_spec f hf h1 m (s + 1) l (by omega) h
        exact ⟨a, b, by rw [show s + ((m + 1 : Nat) : Int) - 1 = s + 1 + m - 1 by omega]; exact c⟩
theorem factL_spec : ∀ (d : Nat) (n most : Int) (l : List Int), 1 ≤ n → factL d n most = some l → (∀ x ∈ l, 1 ≤ x) ∧ prodL l = n ∧ Down most l
  | 0, n, most, l, h1, h => by
    unfold factL at h
    split at h
    · rename_i hn
      cases h
      exact ⟨fun x hx => (by cases hx), by rw [hn]; rfl, trivial⟩
    · cases h
  | d + 1, n, most, l, h1, h => by
    obtain ⟨a, b, c⟩ := facGo_spec (factL d) (fun n s r hn hr => factL_spec d n s r hn hr) h1 _ _ _ (Int.le_refl _) h
    by_cases hm : 0 ≤ most
    · refine ⟨a, b, ?_⟩
      rw [show (1 : Int) + (most.toNat : Int) - 1 = most by omega] at c
      exact c
    · have : factL (d + 1) n most = none := by
        show facGo (factL d) n most.toNat 1 = none
        rw [show most.toNat = 0 by omega]; rfl
      rw [this] at h; cases h
theorem facGo_some (f : Int → Int → Option (List Int)) (n t : Int) (ht : n % t = 0) (hf : (f (n / t) t).isSome = true) : ∀ (m : Nat) (s : Int), s ≤ t → t < s + m → (facGo f n m s).isSome = true
  | 0, s, h1, h2 => by omega
  | m + 1, s, h1, h2 => by
    unfold facGo
    by_cases e : s = t
    · subst e
      rw [if_neg (by omega)]
      cases h : f (n / s) s with
      | none => rw [h] at hf; cases hf
      | some r => rfl
    · have ih := facGo_some f n t ht hf m (s + 1) (by omega) (by omega)
      split
      · exact ih
      · split
        · rfl
        · exact ih
theorem factL_one : ∀ (k : Nat) (most : Int), 1 ≤ most → (factL k 1 most).isSome = true
  | 0, _, _ => by unfold factL; rw [if_pos rfl]; rfl
  | k + 1, most, h => facGo_some (factL k) 1 1 (by decide) (by rw [show (1 : Int) / 1 = 1 by decide]; exact factL_one k 1 (by decide)) _ _ (Int.le_refl _) (by omega)
/-- the sizes of a grid: so many, with this product, none above the one before -/
theorem factor_facts (n : Int) (d : Nat) (h1 : 1 ≤ n) (h2 : n ≤ 64) (hd : 1 ≤ d) (hd4 : d ≤ 4) : factorE n d = 0 ∧ (factorR n d).length = d ∧ (∀ x ∈ factorR n d, 1 ≤ x) ∧ prodL (factorR n d) = n ∧ Down n (factorR n d) := by
  have he : factorE n d = 0 := by unfold factorE; rw [if_neg (by omega)]
  have hs : (factL d n n).isSome = true := by
    obtain ⟨k, rfl⟩ : ∃ k, d = k + 1 := ⟨d - 1, by omega⟩
    exact facGo_some (factL k) n n (by simp) (by rw [Int.ediv_self (by omega)]; exact factL_one k n h1) _ _ h1 (by omega)
  cases hl : factL d n n with
  | none => rw [hl] at hs; cases hs
  | some l =>
    have hr : factorR n d = l := by unfold factorR; rw [if_pos he, Int.toNat_natCast, hl]; rfl
    obtain ⟨a, b, c⟩ := factL_spec d n n l h1 hl
    rw [hr]
    exact ⟨he, factL_len d n n l hl, a, b, c⟩

theorem near_bd (sizes : List Int) (wrap : List Bool) (d : Nat) (by' : Int) (h1 : 1 ≤ sizes.getD d 0) (h2 : sizes.getD d 0 ≤ 64) : -64 ≤ nearL sizes wrap d by' ∧ nearL sizes wrap d by' ≤ 64 := by
  unfold nearL
  split
  · have := Int.emod_nonneg by' (show sizes.getD d 0 ≠ 0 by omega)
    have := Int.emod_lt_of_pos by' (show 0 < sizes.getD d 0 by omega)
    omega
  · omega

/-- a grid of n processes -/
structure PGrid (sizes : List Int) (wrap : List Bool) (n : Int) : Prop where
  pos : ∀ s ∈ sizes, 1 ≤ s
  prod : prodL sizes = n
  le : n ≤ 64
  wl : wrap.length = sizes.length

theorem PGrid.size_le {sizes : List Int} {wrap : List Bool} {n : Int} (g : PGrid sizes wrap n) (d : Nat) (hd : d < sizes.length) : 1 ≤ sizes.getD d 0 ∧ sizes.getD d 0 ≤ 64 := by
  have e : sizes.getD d 0 = sizes[d] := by simp [List.getD, hd]
  rw [e]
  have h1 := g.pos _ (List.getElem_mem hd)
  refine ⟨h1, ?_⟩
  have : ∀ (l : List Int), (∀ s ∈ l, 1 ≤ s) → ∀ x ∈ l, x ≤ prodL l := by
    intro l
    induction l with
    | nil => intro _ x hx; cases hx
    | cons s l ih =>
      intro hp x hx
      have hs := hp s (by simp)
      have hl := prodL_pos l fun y hy => hp y (by simp [hy])
      unfold prodL
      rcases List.mem_cons.1 hx with rfl | hx
      · have := Int.mul_le_mul_of_nonneg_left hl (show 0 ≤ x by omega)
        omega
      · have h5 := ih (fun y hy => hp y (by simp [hy])) x hx
        have := Int.mul_le_mul_of_nonneg_right hs (show 0 ≤ prodL l by omega)
        omega
  have := this sizes g.pos _ (List.getElem_mem hd)
  have h3 := g.prod
  have h4 := g.le
  omega

theorem PGrid.coords {sizes : List Int} {wrap : List Bool} {n : Int} (g : PGrid sizes wrap n) {r : Int} (h0 : 0 ≤ r) (h1 : r < n) : Digits sizes (coordsL sizes r) ∧ rankV 0 sizes (coordsL sizes r) = r := by
  rw [coordsL_eq]
  refine ⟨coords_digits sizes r g.pos, ?_⟩
  have hq := coordsS_quot sizes r g.pos
  rw [g.prod, Int.ediv_eq_zero_of_lt h0 h1] at hq
  have := rankV_coords sizes r g.pos
  rw [hq] at this
  exact this
theorem PGrid.rankV_lt {sizes : List Int} {wrap : List Bool} {n : Int} (g : PGrid sizes wrap n) {xs : List Int} (h : Digits sizes xs) : 0 ≤ rankV 0 sizes xs ∧ rankV 0 sizes xs < n := by
  have := rankV_bd sizes xs 0 h (Int.le_refl _)
  rw [g.prod] at this
  omega
theorem PGrid.coordsV {sizes : List Int} {wrap : List Bool} {n : Int} (_ : PGrid sizes wrap n) {xs : List Int} (h : Digits sizes xs) : coordsL sizes (rankV 0 sizes xs) = xs := by
  rw [coordsL_eq, coords_rankV sizes xs 0 h]
theorem PGrid.rank_set {sizes : List Int} {wrap : List Bool} {n : Int} (g : PGrid sizes wrap n) {xs : List Int} (h : Digits sizes xs) (d : Nat) (hd : d < sizes.length) (x : Int) : rankL 0 sizes wrap (xs.set d x) = match nx (wrap.getD d false) (sizes.getD d 0) x with | some y => rankV 0 sizes (xs.set d y) | none => -2 :=
  rankL_set sizes wrap xs 0 d x h g.wl (Int.le_refl _) (by rw [g.prod]; have := g.le; omega) g.pos hd
theorem PGrid.rank_coords {sizes : List Int} {wrap : List Bool} {n : Int} (g : PGrid sizes wrap n) {r : Int} (h0 : 0 ≤ r) (h1 : r < n) : rankL 0 sizes wrap (coordsL sizes r) = r := by
  obtain ⟨hD, hV⟩ := g.coords h0 h1
  rw [rankL_digits sizes wrap _ 0 hD g.wl (Int.le_refl _) (by rw [g.prod]; have := g.le; omega) g.pos, hV]

theorem wrap_small {x : Int} (h1 : -1000 ≤ x) (h2 : x ≤ 1000) : wrap64 x = x := by unfold wrap64; omega

theorem PGrid.shiftQ {sizes : List Int} {wrap : List Bool} {n : Int} (g : PGrid sizes wrap n) {xs : List Int} (h : Digits sizes xs) (d : Nat) (hd : d < sizes.length) (by' : Int) :
    shiftQ sizes wrap (rankV 0 sizes xs) d by' = match nx (wrap.getD d false) (sizes.getD d 0) (xs.getD d 0 + nearL sizes wrap d by') with | some y => rankV 0 sizes (xs.set d y) | none => -2 := by
  unfold Go.Proofs.Ytoloiingodigpaa.shiftQ shiftB
  rw [g.coordsV h]
  obtain ⟨s1, s2⟩ := g.size_le d hd
  have := near_bd sizes wrap d by' s1 s2
  have := h.at_ d hd
  rw [wrap_small (by omega) (by omega)]
  exact g.rank_set h d hd _
theorem PGrid.shiftP {sizes : List Int} {wrap : List Bool} {n : Int} (g : PGrid sizes wrap n) {xs : List Int} (h : Digits sizes xs) (d : Nat) (hd : d < sizes.length) (by' : Int) :
    shiftP sizes wrap (rankV 0 sizes xs) d by' = match nx (wrap.getD d false) (sizes.getD d 0) (xs.getD d 0 - nearL sizes wrap d by') with | some y => rankV 0 sizes (xs.set d y) | none => -2 := by
  unfold Go.Proofs.Ytoloiingodigpaa.shiftP shiftA
  rw [g.coordsV h]
  obtain ⟨s1, s2⟩ := g.size_le d hd
  have := near_bd sizes wrap d by' s1 s2
  have := h.at_ d hd
  rw [wrap_small (by omega) (by omega)]
  exact g.rank_set h d hd _

theorem set_back {xs : List Int} {d : Nat} (hd : d < xs.length) (y : Int) : (xs.set d y).set d (xs.getD d 0) = xs := by
  rw [List.set_set]
  have : xs.getD d 0 = xs[d] := by simp [List.getD, hd]
  rw [this, List.set_getElem_self]

/-- a shift leads back -/
theorem PGrid.leads {sizes : List Int} {wrap : List Bool} {n : Int} (g : PGrid sizes wrap n) {r : Int} (h0 : 0 ≤ r) (h1 : r < n) (d : Nat) (hd : d < sizes.length) (by' : Int) (hb : -9223372036854775808 ≤ by' ∧ by' ≤ 9223372036854775807) :
    (wrap.getD d false = true → Go.Proofs.Ytoloiingodigpaa.shiftP sizes wrap r d by' ≠ -2 ∧ Go.Proofs.Ytoloiingodigpaa.shiftQ sizes wrap r d by' ≠ -2) ∧
    (Go.Proofs.Ytoloiingodigpaa.shiftQ sizes wrap r d by' ≠ -2 → 0 ≤ Go.Proofs.Ytoloiingodigpaa.shiftQ sizes wrap r d by' ∧ Go.Proofs.Ytoloiingodigpaa.shiftQ sizes wrap r d by' < n ∧
      Go.Proofs.Ytoloiingodigpaa.shiftP sizes wrap (Go.Proofs.Ytoloiingodigpaa.shiftQ sizes wrap r d by') d by' = r ∧
      (by' ≠ wrap64 (-by') → Go.Proofs.Ytoloiingodigpaa.shiftQ sizes wrap (Go.Proofs.Ytoloiingodigpaa.shiftQ sizes wrap r d by') d (wrap64 (-by')) = r)) := by
  obtain ⟨hD, hV⟩ := g.coords h0 h1
  have hQ := g.shiftQ hD d hd by'
  have hP := g.shiftP hD d hd by'
  rw [hV] at hQ hP
  generalize coordsL sizes r = C at *
  obtain ⟨s1, s2⟩ := g.size_le d hd
  obtain ⟨c0, c1⟩ := hD.at_ d hd
  have hdl : d < C.length := by rw [hD.len]; exact hd
  have hsame : ∀ y, (C.set d y).getD d 0 = y := fun y => by simp [List.getD, hdl]
  cases hw : wrap.getD d false with
  | true =>
    rw [hw] at hQ hP
    have hnr : ∀ b, nearL sizes wrap d b = b % sizes.getD d 0 := fun b => by unfold nearL; rw [hw]; rfl
    have m0 : ∀ x : Int, 0 ≤ x % sizes.getD d 0 ∧ x % sizes.getD d 0 < sizes.getD d 0 := fun x => ⟨Int.emod_nonneg _ (by omega), Int.emod_lt_of_pos _ (by omega)⟩
    have hnx : ∀ x, nx true (sizes.getD d 0) x = some (x % sizes.getD d 0) := fun x => rfl
    rw [hnx] at hQ hP
    simp only at hQ hP
    have dq := hD.set d _ (m0 (C.getD d 0 + nearL sizes wrap d by')).1 (m0 (C.getD d 0 + nearL sizes wrap d by')).2
    have dp := hD.set d _ (m0 (C.getD d 0 - nearL sizes wrap d by')).1 (m0 (C.getD d 0 - nearL sizes wrap d by')).2
    have bq := g.rankV_lt dq
    have bp := g.rankV_lt dp
    refine ⟨fun _ => ⟨by rw [hP]; omega, by rw [hQ]; omega⟩, fun _ => ?_⟩
    rw [hQ]
    refine ⟨bq.1, bq.2, ?_, fun hne => ?_⟩
    · rw [g.shiftP dq d hd by', hw, hnx]
      simp only [hsame]
      rw [List.set_set]
      have e : ((C.getD d 0 + nearL sizes wrap d by') % sizes.getD d 0 - nearL sizes wrap d by') % sizes.getD d 0 = C.getD d 0 := by
        rw [Int.emod_sub_emod, Int.add_sub_cancel, Int.emod_eq_of_lt c0 c1]
      rw [e]
      have := set_back hdl 0
      rw [List.set_set] at this
      rw [this, hV]
    · have hneg : wrap64 (-by') = -by' := by unfold wrap64 at hne ⊢; omega
      rw [hneg, g.shiftQ dq d hd (-by'), hw, hnx]
      simp only [hsame]
      rw [List.set_set]
      have e : ((C.getD d 0 + nearL sizes wrap d by') % sizes.getD d 0 + nearL sizes wrap d (-by')) % sizes.getD d 0 = C.getD d 0 := by
        have hX : (by' % sizes.getD d 0 + -by' % sizes.getD d 0) % sizes.getD d 0 = 0 := by rw [← Int.add_emod, Int.add_right_neg]; simp
        rw [hnr, hnr, Int.emod_add_emod, Int.add_assoc, Int.add_emod, hX, Int.add_zero, Int.emod_emod, Int.emod_eq_of_lt c0 c1]
      rw [e]
      have := set_back hdl 0
      rw [List.set_set] at this
      rw [this, hV]
  | false =>
    rw [hw] at hQ hP
    have hnr : ∀ b, nearL sizes wrap d b = min (max b (-sizes.getD d 0)) (sizes.getD d 0) := fun b => by unfold nearL; rw [hw]; rfl
    refine ⟨fun h => (by cases h), fun hq => ?_⟩
    by_cases hin : 0 ≤ C.getD d 0 + nearL sizes wrap d by' ∧ C.getD d 0 + nearL sizes wrap d by' < sizes.getD d 0
    · have hnx : nx false (sizes.getD d 0) (C.getD d 0 + nearL sizes wrap d by') = some (C.getD d 0 + nearL sizes wrap d by') := by unfold nx; rw [if_neg (by decide), if_pos hin]
      have hnc : nx false (sizes.getD d 0) (C.getD d 0) = some (C.getD d 0) := by unfold nx; rw [if_neg (by decide), if_pos ⟨c0, c1⟩]
      rw [hnx] at hQ
      simp only at hQ
      have dq := hD.set d _ hin.1 hin.2
      have bq := g.rankV_lt dq
      rw [hQ]
      refine ⟨bq.1, bq.2, ?_, fun hne => ?_⟩
      · rw [g.shiftP dq d hd by', hw]
        simp only [hsame]
        rw [Int.add_sub_cancel, hnc]
        simp only
        rw [set_back hdl, hV]
      · have hneg : wrap64 (-by') = -by' := by unfold wrap64 at hne ⊢; omega
        have e2 : nearL sizes wrap d (-by') = - nearL sizes wrap d by' := by
          rw [hnr, hnr]
          rw [hnr] at hin
          omega
        rw [hneg, g.shiftQ dq d hd (-by'), hw]
        simp only [hsame]
        rw [e2, show C.getD d 0 + nearL sizes wrap d by' + -nearL sizes wrap d by' = C.getD d 0 by omega, hnc]
        simp only
        rw [set_back hdl, hV]
    · have hnx : nx false (sizes.getD d 0) (C.getD d 0 + nearL sizes wrap d by') = none := by unfold nx; rw [if_neg (by decide), if_neg hin]
      rw [hnx] at hQ
      exact absurd hQ hq
end Go.Proofs.Ytoloiingodigpaa
