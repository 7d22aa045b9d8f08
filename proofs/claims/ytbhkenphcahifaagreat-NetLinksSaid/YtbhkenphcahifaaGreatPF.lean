import Derived.Test.YtbhkenphcahifaaGreatOG
import Derived.Test.YtbhkenphcahifaaGreatPC
namespace Go.Proofs.YtbhkenphcahifaaGreat
open Go.RowKit Go.Shelf
set_option maxRecDepth 100000
set_option maxHeartbeats 4000000

/-- the channels of a list of steps have ranks that rise, from r on -/
def asc (rk : N3 → Nat) : Int → Nat → List (Int × Int) → Prop
  | _, _, [] => True
  | x, r, s :: L => r ≤ rk (x, s.1, s.2) ∧ asc rk s.1 (rk (x, s.1, s.2) + 1) L
theorem asc_mono {rk : N3 → Nat} {x : Int} {r r' : Nat} {L : List (Int × Int)} (h : asc rk x r L) (hr : r' ≤ r) : asc rk x r' L := by
  cases L with
  | nil => trivial
  | cons s L => exact ⟨by have := h.1; omega, h.2⟩
theorem asc_rises {rk : N3 → Nat} : ∀ (L : List (Int × Int)) (x : Int) (r : Nat), asc rk x r L → Rises rk (x :: L.map (·.1)) (L.map (·.2))
  | [], _, _, _ => fun i hi => by simp at hi
  | [s], _, _, _ => fun i hi => by simp at hi; omega
  | s :: t :: L, x, r, h => fun i hi => by
    cases i with
    | zero => exact h.2.1
    | succ i =>
      have := asc_rises (t :: L) s.1 _ h.2 i (by simpa using hi)
      simpa using this

/-- the digits of a number lead back -/
theorem cfold_num {l c : List Int} (hc : InT l c) : ∀ m, m ≤ l.length → (cfold l (numI l c) ((List.range l.length).reverse.take m)).1 = numK l c (l.length - m) ∧ ∀ j, l.length - m ≤ j → j < l.length → (cfold l (numI l c) ((List.range l.length).reverse.take m)).2.getD j 0 = c.getD j 0 := by
  intro m
  induction m with
  | zero => intro _; exact ⟨rfl, fun j h1 h2 => by omega⟩
  | succ m ih =>
    intro hm
    obtain ⟨i1, i2⟩ := ih (by omega)
    obtain ⟨k, hk⟩ : ∃ k, l.length = k + 1 + m := ⟨l.length - m - 1, by omega⟩
    have hs : cfold l (numI l c) ((List.range l.length).reverse.take (m + 1)) = cstep l (cfold l (numI l c) ((List.range l.length).reverse.take m)) k := by
      rw [List.take_succ_eq_append_getElem (by simp; omega), cfold_snoc]
      congr 1
      simp only [List.getElem_reverse, List.getElem_range, List.length_range]
      omega
    have e1 : l.length - m = k + 1 := by omega
    have e2 : l.length - (m + 1) = k := by omega
    rw [e1] at i1 i2
    rw [hs, e2]
    obtain ⟨c0, c1⟩ := hc.2 k (by omega)
    have hlen := cfold_len l (numI l c) ((List.range l.length).reverse.take m)
    have hdiv : numK l c (k + 1) / l.getD k 0 = numK l c k ∧ numK l c (k + 1) % l.getD k 0 = c.getD k 0 := by
      rw [numK]
      constructor
      · rw [Int.add_comm, Int.add_mul_ediv_right _ _ (by omega), Int.ediv_eq_zero_of_lt c0 c1, Int.zero_add]
      · rw [Int.add_comm, Int.add_mul_emod_self_right, Int.emod_eq_of_lt c0 c1]
    generalize cfold l (numI l c) ((List.range l.length).reverse.take m) = st at *
    unfold cstep
    refine ⟨by show st.1 / _ = _; rw [i1]; exact hdiv.1, fun j h1 h2 => ?_⟩
    show (st.2.set k (st.1 % l.getD k 0)).getD j 0 = _
    rw [i1, hdiv.2]
    by_cases hjk : k = j
    · subst hjk
      exact getD_set_same _ _ _ _ (by omega)
    · rw [getD_set_other _ _ _ _ _ hjk]
      exact i2 j (by omega) h2
theorem coords_num {l c : List Int} (hc : InT l c) : coordsL l (numI l c) = c := by
  have h := (cfold_num hc l.length (Nat.le_refl _)).2
  rw [List.take_of_length_le (by simp)] at h
  have hlen := cfold_len l (numI l c) (List.range l.length).reverse
  unfold coordsL
  refine List.ext_getElem (by rw [hlen, hc.1]) fun j h1 h2 => ?_
  have := h j (by omega) (by rw [hlen] at h1; exact h1)
  simpa [List.getD, h1, h2] using this

/-- the rank of a channel of a torus, by coordinates -/
def rkI (l a b : List Int) (c : Int) (i : Nat) : Int := 32 * (i : Int) + 16 * c + (if b.getD i 0 = (a.getD i 0 + 1) % l.getD i 0 then b.getD i 0 else l.getD i 0 - 1 - b.getD i 0)
def OneDiff (l a b : List Int) (i : Nat) : Prop := i < l.length ∧ a.getD i 0 ≠ b.getD i 0 ∧ ∀ j, j ≠ i → a.getD j 0 = b.getD j 0
open Classical in
noncomputable def rkTorus (l : List Int) (t : N3) : Nat := if h : ∃ i, OneDiff l (coordsL l t.1) (coordsL l t.2.1) i then (rkI l (coordsL l t.1) (coordsL l t.2.1) t.2.2 h.choose).toNat else 0
theorem rk_at {l a b : List Int} {x y c : Int} {i : Nat} (hx : coordsL l x = a) (hy : coordsL l y = b) (h : OneDiff l a b i) : rkTorus l (x, y, c) = (rkI l a b c i).toNat := by
  have hex : ∃ i, OneDiff l (coordsL l x) (coordsL l y) i := ⟨i, by rw [hx, hy]; exact h⟩
  have hc := hex.choose_spec
  have e : hex.choose = i := by
    rcases Nat.decEq hex.choose i with hne | he
    · exact absurd (h.2.2 _ hne) (by rw [← hx, ← hy]; exact hc.2.1)
    · exact he
  unfold rkTorus
  rw [dif_pos hex, e, hx, hy]

/-- where a way around a ring stands -/
def posI (s b v : Int) : Int := if b = 1 then v else s - 1 - v
theorem cl_cases {s c b cl : Int} (hb : b = 1 ∨ b = -1) (h0 : 0 ≤ c) (h1 : c < s) : clI s (c + b) cl = if b = 1 then (if c + 1 = s then 1 else cl) else (if c = 0 then 1 else cl) := by
  unfold clI
  rcases hb with rfl | rfl
  · rw [if_pos rfl]
    by_cases h : c + 1 = s
    · rw [if_neg (by omega), if_pos h]
    · rw [if_pos (by omega), if_neg h]
  · simp only [show ((-1 : Int) = 1) = False by decide, if_false]
    by_cases h : c = 0
    · subst h
      rw [if_neg (by omega), if_pos rfl]
    · rw [if_pos (by omega), if_neg h]
/-- one step in a ring -/
theorem ring_step {s b c t cl : Int} (hb : b = 1 ∨ b = -1 ∧ 3 ≤ s) (hs : 2 ≤ s) (hs2 : s ≤ 16) (h0 : 0 ≤ c) (h1 : c < s) (t0 : 0 ≤ t) (t1 : t < s) (hne : c ≠ t) (hcl : cl = 0 ∨ cl = 1) (hw : cl = 1 → (b = 1 → c ≤ t) ∧ (b = -1 → t ≤ c)) :
    nxI s (c + b) ≠ c ∧ (clI s (c + b) cl = 0 ∨ clI s (c + b) cl = 1) ∧ (clI s (c + b) cl = 1 → (b = 1 → nxI s (c + b) ≤ t) ∧ (b = -1 → t ≤ nxI s (c + b))) ∧
      16 * cl + posI s b c + 1 ≤ 16 * clI s (c + b) cl + posI s b (nxI s (c + b)) ∧
      (if nxI s (c + b) = (c + 1) % s then nxI s (c + b) else s - 1 - nxI s (c + b)) = posI s b (nxI s (c + b)) ∧ 0 ≤ posI s b (nxI s (c + b)) ∧ posI s b (nxI s (c + b)) ≤ 15 := by
  have hb' : b = 1 ∨ b = -1 := by rcases hb with h | h; exact .inl h; exact .inr h.1
  rw [nx_cases hb' h0 h1, cl_cases hb' h0 h1]
  have hm : (c + 1) % s = if c + 1 = s then 0 else c + 1 := by
    split
    · rename_i h; rw [h, Int.emod_self]
    · exact Int.emod_eq_of_lt (by omega) (by omega)
  rw [hm]
  unfold posI
  rcases hb with rfl | ⟨rfl, h3⟩
  · simp only [if_true]
    by_cases h : c + 1 = s
    · simp only [h, if_true]
      have : cl = 0 := by
        rcases hcl with h' | h'
        · exact h'
        · have := (hw h').1 rfl; omega
      refine ⟨by omega, .inr trivial, fun _ => ⟨fun _ => by omega, fun h' => by omega⟩, by omega, trivial, by omega, by omega⟩
    · simp only [h, if_false, if_true]
      refine ⟨by omega, hcl, fun hc => ⟨fun _ => ?_, fun h' => by omega⟩, by omega, trivial, by omega, by omega⟩
      have := (hw hc).1 rfl; omega
  · simp only [show ((-1 : Int) = 1) = False by decide, if_false]
    by_cases h : c = 0
    · simp only [h, if_true]
      have : cl = 0 := by
        rcases hcl with h' | h'
        · exact h'
        · have := (hw h').2 rfl; omega
      have hne2 : (s - 1 = if (0 : Int) + 1 = s then 0 else 0 + 1) = False := by
        simp; split <;> omega
      rw [if_neg (by rw [hne2]; exact fun h => h)]
      refine ⟨by omega, .inr trivial, fun _ => ⟨fun h' => h'.elim, fun _ => by omega⟩, by omega, rfl, by omega, by omega⟩
    · simp only [h, if_false]
      have hne2 : (c - 1 = if c + 1 = s then 0 else c + 1) = False := by
        simp; split <;> omega
      rw [if_neg (by rw [hne2]; exact fun h => h)]
      refine ⟨by omega, hcl, fun hc => ⟨fun h' => h'.elim, fun _ => ?_⟩, by omega, rfl, by omega, by omega⟩
      have := (hw hc).2 rfl; omega

theorem mvK_asc {l : List Int} (hl : ∀ i, i < l.length → 2 ≤ l.getD i 0 ∧ l.getD i 0 ≤ 16) {i : Nat} (hi : i < l.length) {b t : Int} (hb : b = 1 ∨ b = -1 ∧ 3 ≤ l.getD i 0) (t0 : 0 ≤ t) (t1 : t < l.getD i 0) (K : List Int → List (Int × Int))
    (hK : ∀ c, InT l c → ∀ x, coordsL l x = c → asc (rkTorus l) x (32 * (i + 1)) (K c)) :
    ∀ (f : Nat) (c : List Int) (cl : Int) (x : Int) (r : Nat), InT l c → coordsL l x = c → (cl = 0 ∨ cl = 1) → (cl = 1 → (b = 1 → c.getD i 0 ≤ t) ∧ (b = -1 → t ≤ c.getD i 0)) → (r : Int) ≤ 32 * (i : Int) + 16 * cl + posI (l.getD i 0) b (c.getD i 0) + 1 → r ≤ 32 * (i + 1) →
      asc (rkTorus l) x r (mvK l i (l.getD i 0) b t K f c cl)
  | 0, c, cl, x, r, hc, hx, _, _, _, hr2 => by
    rw [mvK]
    exact asc_mono (hK c hc x hx) hr2
  | f + 1, c, cl, x, r, hc, hx, hcl, hw, hr, hr2 => by
    rw [mvK]
    obtain ⟨s0, s1⟩ := hl i hi
    obtain ⟨c0, c1⟩ := hc.2 i hi
    have hb' : b = 1 ∨ b = -1 := by rcases hb with h | h; exact .inl h; exact .inr h.1
    split
    · rename_i hne
      obtain ⟨g1, g2, g3, g4, g5, g6, g7⟩ := ring_step hb s0 s1 c0 c1 t0 t1 hne hcl hw
      obtain ⟨n0, n1⟩ := nx_in hb' c0 c1
      have hc2 := hc.set hi n0 n1
      have hxy := coords_num hc2
      have hgi : (c.set i (nxI (l.getD i 0) (c.getD i 0 + b))).getD i 0 = nxI (l.getD i 0) (c.getD i 0 + b) := getD_set_same _ _ _ _ (by rw [hc.1]; exact hi)
      have hod : OneDiff l c (c.set i (nxI (l.getD i 0) (c.getD i 0 + b))) i := ⟨hi, by rw [hgi]; exact Ne.symm g1, fun j hj => (getD_set_other _ _ _ _ _ (Ne.symm hj)).symm⟩
      have hrk := rk_at (c := clI (l.getD i 0) (c.getD i 0 + b) cl) hx hxy hod
      have hv : rkI l c (c.set i (nxI (l.getD i 0) (c.getD i 0 + b))) (clI (l.getD i 0) (c.getD i 0 + b) cl) i = 32 * (i : Int) + 16 * clI (l.getD i 0) (c.getD i 0 + b) cl + posI (l.getD i 0) b (nxI (l.getD i 0) (c.getD i 0 + b)) := by
        unfold rkI; rw [hgi, g5]
      rw [hv] at hrk
      refine ⟨by show r ≤ rkTorus l (x, numI l _, _); rw [hrk]; omega, ?_⟩
      refine mvK_asc hl hi hb t0 t1 K hK f _ _ _ _ hc2 hxy g2 (fun h => by rw [hgi]; exact g3 h) ?_ ?_
      · show ((rkTorus l (x, numI l _, _) + 1 : Nat) : Int) ≤ _
        rw [hrk, hgi]; omega
      · show rkTorus l (x, numI l _, _) + 1 ≤ _
        rw [hrk]; omega
    · exact asc_mono (hK c hc x hx) hr2
theorem by_ok {s c t : Int} (hs : 2 ≤ s) : byI s c t = 1 ∨ byI s c t = -1 ∧ 3 ≤ s := by
  unfold byI
  split
  · rename_i h
    refine .inr ⟨rfl, ?_⟩
    have := Int.emod_lt_of_pos (t - c) (show 0 < s by omega)
    have : s ≠ 2 := by
      rintro rfl
      have e : (2 : Int) / 2 = 1 := by decide
      rw [e] at h; omega
    omega
  · exact .inl rfl
theorem dimK_asc {l e : List Int} (hl : ∀ i, i < l.length → 2 ≤ l.getD i 0 ∧ l.getD i 0 ≤ 16) (he : InT l e) : ∀ (r : Nat), r ≤ l.length → ∀ c, InT l c → ∀ x, coordsL l x = c → asc (rkTorus l) x (32 * (l.length - r)) (dimK l e r c)
  | 0, _, _, _, _, _ => by rw [dimK]; trivial
  | r + 1, hr, c, hc, x, hx => by
    rw [dimK]
    have hi : l.length - (r + 1) < l.length := by omega
    obtain ⟨s0, s1⟩ := hl _ hi
    obtain ⟨t0, t1⟩ := he.2 _ hi
    obtain ⟨c0, c1⟩ := hc.2 _ hi
    have hbk := by_ok (c := c.getD (l.length - (r + 1)) 0) (t := e.getD (l.length - (r + 1)) 0) s0
    refine mvK_asc hl hi hbk t0 t1 _ (fun c' hc' x' hx' => ?_) _ _ _ _ _ hc hx (.inl rfl) (fun h => by cases h) ?_ (by omega)
    · have := dimK_asc hl he r (by omega) c' hc' x' hx'
      rwa [show l.length - (r + 1) + 1 = l.length - r by omega]
    · have : 0 ≤ posI (l.getD (l.length - (r + 1)) 0) (byI (l.getD (l.length - (r + 1)) 0) (c.getD (l.length - (r + 1)) 0) (e.getD (l.length - (r + 1)) 0)) (c.getD (l.length - (r + 1)) 0) := by
        unfold posI; split <;> omega
      omega
theorem torus_asc {l : List Int} (hl : ∀ i, i < l.length → 2 ≤ l.getD i 0 ∧ l.getD i 0 ≤ 16) (x y : Int) : asc (rkTorus l) x 0 (torusL l x y) := by
  unfold torusL
  have := dimK_asc hl (coords_in hl y) l.length (Nat.le_refl _) (coordsL l x) (coords_in hl x) x rfl
  rwa [Nat.sub_self] at this
end Go.Proofs.YtbhkenphcahifaaGreat
