import Derived.Test.YtbhkenphcahifaaGreatOC
namespace Go.Proofs.YtbhkenphcahifaaGreat
open Go.RowKit Go.Shelf
set_option maxRecDepth 100000
set_option maxHeartbeats 4000000

/-- a step in a ring, its class -/
def nxI (s v : Int) : Int := if 0 ≤ v ∧ v ≤ s - 1 then v else v % s
def clI (s v cl : Int) : Int := if 0 ≤ v ∧ v ≤ s - 1 then cl else 1
/-- around a ring, then on -/
def mvK (l : List Int) (i : Nat) (s b t : Int) (K : List Int → List (Int × Int)) : Nat → List Int → Int → List (Int × Int)
  | 0, c, _ => K c
  | f + 1, c, cl => if c.getD i 0 ≠ t then (numI l (c.set i (nxI s (c.getD i 0 + b))), clI s (c.getD i 0 + b) cl) :: mvK l i s b t K f (c.set i (nxI s (c.getD i 0 + b))) (clI s (c.getD i 0 + b) cl) else K c
def byI (s c t : Int) : Int := if s / 2 < (t - c) % s then -1 else 1
/-- through the dimensions that remain -/
def dimK (l e : List Int) : Nat → List Int → List (Int × Int)
  | 0, _ => []
  | r + 1, c => mvK l (l.length - (r + 1)) (l.getD (l.length - (r + 1)) 0) (byI (l.getD (l.length - (r + 1)) 0) (c.getD (l.length - (r + 1)) 0) (e.getD (l.length - (r + 1)) 0)) (e.getD (l.length - (r + 1)) 0) (dimK l e r) (l.getD (l.length - (r + 1)) 0).toNat c 0
/-- a route in a torus -/
def torusL (l : List Int) (x y : Int) : List (Int × Int) := dimK l (coordsL l y) l.length (coordsL l x)
theorem torus_example : torusL [3, 4] 0 7 = [(4, 0), (7, 1)] := by decide

def dstI (s b c t : Int) : Int := if b = 1 then (if c ≤ t then t - c else t - c + s) else (if t ≤ c then c - t else c - t + s)
theorem by_or (s c t : Int) : byI s c t = 1 ∨ byI s c t = -1 := by unfold byI; split <;> simp
theorem nx_cases {s c b : Int} (hb : b = 1 ∨ b = -1) (h0 : 0 ≤ c) (h1 : c < s) : nxI s (c + b) = if b = 1 then (if c + 1 = s then 0 else c + 1) else (if c = 0 then s - 1 else c - 1) := by
  unfold nxI
  rcases hb with rfl | rfl
  · rw [if_pos rfl]
    by_cases h : c + 1 = s
    · rw [if_neg (by omega), if_pos h, h, Int.emod_self]
    · rw [if_pos (by omega), if_neg h]
  · simp only [show ((-1 : Int) = 1) = False by decide, if_false]
    by_cases h : c = 0
    · subst h
      rw [if_neg (by omega), if_pos rfl]
      rw [show (0 : Int) + -1 = -1 by decide, ← Int.add_emod_right, Int.emod_eq_of_lt (by omega) (by omega)]; omega
    · rw [if_pos (by omega), if_neg h]; omega
theorem nx_in {s c b : Int} (hb : b = 1 ∨ b = -1) (h0 : 0 ≤ c) (h1 : c < s) : 0 ≤ nxI s (c + b) ∧ nxI s (c + b) < s := by
  rw [nx_cases hb h0 h1]
  split <;> split <;> omega
theorem dst_in {s b c t : Int} (h0 : 0 ≤ c) (h1 : c < s) (t0 : 0 ≤ t) (t1 : t < s) : 0 ≤ dstI s b c t ∧ dstI s b c t < s ∧ (c ≠ t → 1 ≤ dstI s b c t) := by
  unfold dstI
  split <;> split <;> omega
theorem dst_step {s b c t : Int} (hb : b = 1 ∨ b = -1) (h0 : 0 ≤ c) (h1 : c < s) (t0 : 0 ≤ t) (t1 : t < s) (hne : c ≠ t) : dstI s b (nxI s (c + b)) t = dstI s b c t - 1 := by
  rw [nx_cases hb h0 h1]
  unfold dstI
  rcases hb with rfl | rfl
  · simp only [if_pos rfl]
    repeat' split
    all_goals omega
  · simp only [show ((-1 : Int) = 1) = False by decide, if_false]
    repeat' split
    all_goals omega
/-- coordinates that lie in a torus -/
def InT (l c : List Int) : Prop := c.length = l.length ∧ ∀ i, i < l.length → 0 ≤ c.getD i 0 ∧ c.getD i 0 < l.getD i 0
theorem InT.set {l c : List Int} (h : InT l c) {i : Nat} {v : Int} (hi : i < l.length) (h0 : 0 ≤ v) (h1 : v < l.getD i 0) : InT l (c.set i v) := by
  refine ⟨by rw [List.length_set]; exact h.1, fun j hj => ?_⟩
  by_cases hij : i = j
  · subst hij
    have : (c.set i v).getD i 0 = v := by simp [List.getD, h.1, hi]
    rw [this]; exact ⟨h0, h1⟩
  · have : (c.set i v).getD j 0 = c.getD j 0 := by simp [List.getD, List.getElem?_set, hij]
    rw [this]; exact h.2 j hj
theorem cfold_in {l : List Int} (hb : ∀ i, i < l.length → 2 ≤ l.getD i 0 ∧ l.getD i 0 ≤ 16) : ∀ (L : List Nat) (r : Int) (c : List Int), (∀ i ∈ L, i < l.length) → InT l c → InT l (L.foldl (cstep l) (r, c)).2
  | [], _, _, _, h => h
  | i :: L, r, c, hL, h => by
    rw [List.foldl_cons]
    have hi := hL i (by simp)
    obtain ⟨b1, b2⟩ := hb i hi
    exact cfold_in hb L _ _ (fun j hj => hL j (by simp [hj])) (h.set hi (Int.emod_nonneg _ (by omega)) (Int.emod_lt_of_pos _ (by omega)))
theorem coords_in {l : List Int} (hb : ∀ i, i < l.length → 2 ≤ l.getD i 0 ∧ l.getD i 0 ≤ 16) (x : Int) : InT l (coordsL l x) := by
  unfold coordsL cfold
  refine cfold_in hb _ _ _ (fun i hi => by simpa using hi) ⟨by simp, fun i hi => ?_⟩
  obtain ⟨b1, b2⟩ := hb i hi
  have : (List.replicate l.length (0 : Int)).getD i 0 = 0 := by simp [List.getD, hi]
  rw [this]; omega
theorem mvK_len (l : List Int) (i : Nat) (s b t : Int) (K : List Int → List (Int × Int)) (n : Nat) (hK : ∀ c, (K c).length ≤ n) : ∀ (f : Nat) (c : List Int) (cl : Int), (mvK l i s b t K f c cl).length ≤ f + n
  | 0, c, _ => by rw [mvK]; have := hK c; omega
  | f + 1, c, cl => by
    rw [mvK]
    split
    · rw [List.length_cons]; have := mvK_len l i s b t K n hK f (c.set i (nxI s (c.getD i 0 + b))) (clI s (c.getD i 0 + b) cl); omega
    · have := hK c; omega
theorem dimK_len {l : List Int} (e : List Int) (hb : ∀ i, i < l.length → 2 ≤ l.getD i 0 ∧ l.getD i 0 ≤ 16) : ∀ (r : Nat), r ≤ l.length → ∀ c, (dimK l e r c).length ≤ 16 * r
  | 0, _, _ => by rw [dimK]; simp
  | r + 1, hr, c => by
    rw [dimK]
    obtain ⟨b1, b2⟩ := hb (l.length - (r + 1)) (by omega)
    have := mvK_len l (l.length - (r + 1)) (l.getD (l.length - (r + 1)) 0) (byI (l.getD (l.length - (r + 1)) 0) (c.getD (l.length - (r + 1)) 0) (e.getD (l.length - (r + 1)) 0)) (e.getD (l.length - (r + 1)) 0) (dimK l e r) (16 * r) (dimK_len e hb r (by omega)) (l.getD (l.length - (r + 1)) 0).toNat c 0
    omega
/-- a store into a block of the iterator's own -/
theorem Cap.store {J : World → Prop} {n0 o : Nat} {cs : List (Nat × Obj)} {W : World} (h : Cap n0 o cs W) (P : Priv J (Fq n0 o)) (hJ : J W) {c i : Nat} {v : Value} (hc : Fq n0 o c W) (hne : ∀ p ∈ cs, p.1 ≠ c) : Cap n0 o cs (W.setCell ⟨c, i, none⟩ v) :=
  fun p hp => ⟨P.store _ _ _ _ _ hJ (h p hp).1 hc, (heap_setCell_other _ _ _ _ (hne p hp)).trans (h p hp).2⟩
end Go.Proofs.YtbhkenphcahifaaGreat
