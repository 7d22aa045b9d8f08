/-
  NetLinks returns true at every description of a network and switch, and its arguments read afterwards as they read before. Conditions: none.
-/
import Derived.Test.YtbhkenphcahifaaGreatQNC
import Derived.Test.YtbhkenphcahifaaGreatQXA
import Derived.Test.YtbhkenphcahifaaGreatPI
import Derived.Test.YtbhkenphcahifaaGreatOH
import Derived.Test.YtbhkenphcahifaaGreatRows
import Derived.Test.YtbhkenphcahifaaGreatOI
import Derived.WalkKit
import Derived.ProofKit
import Derived.OpenShut
import Derived.Carry
import Derived.SizedLaws
namespace Go.Proofs.YtbhkenphcahifaaGreat
open Go.RowKit Go.Shelf
set_option maxRecDepth 100000
set_option maxHeartbeats 4000000

/-- two lists that rise and have the same elements are equal -/
theorem rise_eq : ∀ {a b : List Int}, a.Pairwise (· < ·) → b.Pairwise (· < ·) → (∀ x, x ∈ a ↔ x ∈ b) → a = b
  | [], [], _, _, _ => rfl
  | [], y :: b, _, _, h => by have := (h y).2 (by simp); simp at this
  | x :: a, [], _, _, h => by have := (h x).1 (by simp); simp at this
  | x :: a, y :: b, ha, hb, h => by
    obtain ⟨a1, a2⟩ := List.pairwise_cons.1 ha
    obtain ⟨b1, b2⟩ := List.pairwise_cons.1 hb
    have hxy : x = y := by
      rcases List.mem_cons.1 ((h x).1 (by simp)) with e | e
      · exact e
      · rcases List.mem_cons.1 ((h y).2 (by simp)) with e2 | e2
        · exact e2.symm
        · have := b1 x e; have := a1 y e2; omega
    subst hxy
    rw [rise_eq a2 b2 fun z => ?_]
    constructor
    · intro hz
      rcases List.mem_cons.1 ((h z).1 (by simp [hz])) with e | e
      · have := a1 z hz; omega
      · exact e
    · intro hz
      rcases List.mem_cons.1 ((h z).2 (by simp [hz])) with e | e
      · have := b1 z hz; omega
      · exact e
theorem rise_of {l : List Int} (h : l.Pairwise (· ≤ ·)) (hn : l.Nodup) : l.Pairwise (· < ·) := by
  induction l with
  | nil => exact List.Pairwise.nil
  | cons x l ih =>
    obtain ⟨a1, a2⟩ := List.pairwise_cons.1 h
    obtain ⟨b1, b2⟩ := List.nodup_cons.1 hn
    refine List.pairwise_cons.2 ⟨fun y hy => ?_, ih a2 b2⟩
    have := a1 y hy
    have : x ≠ y := fun e => b1 (e ▸ hy)
    omega
/-! the torus -/
theorem compact_sorted {l : List Int} (h : l.Pairwise (· ≤ ·)) : (Lib.compact l).Pairwise (· ≤ ·) := by
  unfold Lib.compact Lib.compactUpTo
  refine List.pairwise_map.2 ?_
  have hr : (List.range l.length).Pairwise (· < ·) := List.pairwise_lt_range
  refine (hr.filter _).imp_of_mem ?_
  intro a b ha hb hab
  have hal : a < l.length := List.mem_range.1 (List.mem_filter.1 ha).1
  have hbl : b < l.length := List.mem_range.1 (List.mem_filter.1 hb).1
  simp only [List.getElem!_toArray, getElem!_pos, hal, hbl]
  exact (List.pairwise_iff_getElem.1 h) a b hal hbl hab
theorem nbL_rise (l : List Int) (x : Int) : (nbL l x).Pairwise (· < ·) := rise_of (compact_sorted (sort_sorted _)) (nbL_nodup l x)
theorem torus_linked {l : List Int} (hb : ∀ i, i < l.length → 2 ≤ l.getD i 0 ∧ l.getD i 0 ≤ 16) {x y : Int} (hx : 0 ≤ x) (hx2 : x < prodI l) (hy : 0 ≤ y) (hy2 : y < prodI l) :
    (difK (coordsL l x) (coordsL l y) l.length = 1 ∧ neaK l (coordsL l x) (coordsL l y) l.length = true) ↔ y ∈ nbL l x := by
  obtain ⟨d, hd, rfl⟩ := num_of hb hx hx2
  obtain ⟨e, he, rfl⟩ := num_of hb hy hy2
  rw [coords_num hd, coords_num he, dif_one, mem_nbL hd]
  have hmod : ∀ i, i < l.length → ∀ s, s = 1 ∨ s = -1 → (d.getD i 0 + s) % l.getD i 0 = if s = 1 then (if d.getD i 0 + 1 = l.getD i 0 then 0 else d.getD i 0 + 1) else (if d.getD i 0 = 0 then l.getD i 0 - 1 else d.getD i 0 - 1) := fun i hi s hs => by
    obtain ⟨c0, c1⟩ := hd.2 i hi
    rcases hs with rfl | rfl
    · rw [if_pos rfl]; split
      · rename_i h; rw [h, Int.emod_self]
      · exact Int.emod_eq_of_lt (by omega) (by omega)
    · rw [if_neg (by decide)]; split
      · rename_i h; rw [h, ← Int.add_emod_right, Int.emod_eq_of_lt (by omega) (by omega)]; omega
      · rw [Int.emod_eq_of_lt (by omega) (by omega)]; omega
  constructor
  · rintro ⟨i, i1, i2, i3, i4⟩
    obtain ⟨c0, c1⟩ := hd.2 i i1
    obtain ⟨g0, g1⟩ := he.2 i i1
    have hm := (hb i i1).1
    have key : ∀ s, s = 1 ∨ s = -1 → e.getD i 0 = (d.getD i 0 + s) % l.getD i 0 → ∃ i s, i < l.length ∧ (s = 1 ∨ s = -1) ∧ numI l e = numI l (d.set i ((d.getD i 0 + s) % l.getD i 0)) := fun s hs hq => by
      refine ⟨i, s, i1, hs, ?_⟩
      congr 1
      refine list_eq (by rw [List.length_set, hd.1, he.1]) fun j hj => ?_
      by_cases hji : i = j
      · subst hji; rw [getD_set_same _ _ _ _ (by rw [hd.1]; exact i1)]; exact hq
      · rw [getD_set_other _ _ _ _ _ hji]; exact (i4 j (by rw [he.1] at hj; exact hj) (fun q => hji q.symm)).symm
    by_cases h1 : e.getD i 0 = (d.getD i 0 + 1) % l.getD i 0
    · exact key 1 (.inl rfl) h1
    · refine key (-1) (.inr rfl) ?_
      rw [hmod i i1 1 (.inl rfl), if_pos rfl] at h1
      rw [hmod i i1 (-1) (.inr rfl), if_neg (by decide)]
      split at h1 <;> split <;> omega
  · rintro ⟨i, s, hi, hs, hq⟩
    obtain ⟨c0, c1⟩ := hd.2 i hi
    obtain ⟨e1, e2⟩ := emod_in (a := d.getD i 0 + s) (hb i hi).1
    have hm := (hb i hi).1
    have hee : e = d.set i ((d.getD i 0 + s) % l.getD i 0) := by rw [← coords_num he, hq, coords_num (hd.set hi e1 e2)]
    have hei : e.getD i 0 = (d.getD i 0 + s) % l.getD i 0 := by rw [hee]; exact getD_set_same _ _ _ _ (by rw [hd.1]; exact hi)
    rw [hmod i hi s hs] at hei
    refine ⟨i, hi, ?_, ?_, fun j hj hji => by rw [hee, getD_set_other _ _ _ _ _ (fun q => hji q.symm)]⟩
    · rcases hs with rfl | rfl
      · rw [if_pos rfl] at hei; split at hei <;> omega
      · rw [if_neg (by decide)] at hei; split at hei <;> omega
    · rcases hs with rfl | rfl
      · rw [if_pos rfl] at hei; split at hei <;> omega
      · rw [if_neg (by decide)] at hei; split at hei <;> omega
end Go.Proofs.YtbhkenphcahifaaGreat

namespace Go.Proofs.YtbhkenphcahifaaGreat
open Go.RowKit Go.Shelf
set_option maxRecDepth 100000
set_option maxHeartbeats 4000000

theorem tree_lt {k lv : Nat} {x y : Int} {l m : Nat} {wd wd' : Int} (hx : InTr k lv x l wd) (hy : InTr k lv y m wd') (h : l < m) : x < y := by
  obtain ⟨rfl, h1, h2, h3⟩ := hx
  obtain ⟨rfl, g1, g2, g3⟩ := hy
  have e1 : ((l + 1 : Nat) : Int) * ((k ^ (lv - 1) : Nat) : Int) ≤ (m : Int) * ((k ^ (lv - 1) : Nat) : Int) := Int.mul_le_mul_of_nonneg_right (by omega) (by omega)
  rw [show ((l + 1 : Nat) : Int) = (l : Int) + 1 by omega, Int.add_mul, Int.one_mul] at e1
  omega
theorem tree_linked_lt {k lv : Nat} (hk : 1 ≤ k) {x y : Int} {l m : Nat} {wd wd' : Int} (hx : InTr k lv x l wd) (hy : InTr k lv y m wd') (hlt : x < y) : (m = l + 1 ∧ wthI k l wd 0 = wthI k l wd' 0) ↔ y ∈ nbT k lv x := by
  rw [hx.nb, mem_lvT]
  constructor
  · rintro ⟨rfl, hw⟩
    obtain ⟨d0, d1⟩ := dig_bound (k := k) (i := l) (x := wd') hk
    refine .inr ⟨by have := hy.2.1; omega, (digI k l wd').toNat, by omega, ?_⟩
    rw [Int.toNat_of_nonneg d0]
    have e1 : wthI k l wd (digI k l wd') = wd' := by
      rw [← wth_wth hk wd (d := 0) (by omega) (by omega), hw, wth_wth hk wd' (by omega) (by omega), wth_own]
    rw [e1]
    exact hy.1
  · rintro (⟨h0, d, hd, he⟩ | ⟨h0, d, hd, he⟩)
    · exfalso
      have g := InTr.with_ (lv := lv) (l' := l - 1) hk (show l - 1 < lv - 1 by have := hx.2.1; omega) (by have := hx.2.1; omega) hx.2.2.1 hx.2.2.2 (show (0 : Int) ≤ (d : Int) by omega) (by omega)
      rw [← he] at g
      have := tree_lt g hx (by omega)
      omega
    · have g := InTr.with_ (lv := lv) (l' := l + 1) hk (show l < lv - 1 by omega) (by omega) hx.2.2.1 hx.2.2.2 (show (0 : Int) ≤ (d : Int) by omega) (by omega)
      rw [← he] at g
      obtain ⟨e1, e2⟩ := hy.unique g
      exact ⟨e1, by rw [e2, wth_wth hk wd (by omega) (by omega)]⟩
theorem tree_linked {k lv : Nat} (hk : 1 ≤ k) (hlv : 1 ≤ lv) {x y : Int} (hx : 0 ≤ x) (hx2 : x < (lv : Int) * ((k ^ (lv - 1) : Nat) : Int)) (hy : 0 ≤ y) (hy2 : y < (lv : Int) * ((k ^ (lv - 1) : Nat) : Int)) (hne : x ≠ y) :
    (max x y / ((k ^ (lv - 1) : Nat) : Int) = min x y / ((k ^ (lv - 1) : Nat) : Int) + 1 ∧ wthI k (min x y / ((k ^ (lv - 1) : Nat) : Int)).toNat (min x y % ((k ^ (lv - 1) : Nat) : Int)) 0 = wthI k (min x y / ((k ^ (lv - 1) : Nat) : Int)).toNat (max x y % ((k ^ (lv - 1) : Nat) : Int)) 0) ↔ y ∈ nbT k lv x := by
  have tx := InTr.of hk hlv hx hx2
  have ty := InTr.of hk hlv hy hy2
  have px := tx.parts
  have py := ty.parts
  rcases Int.lt_or_gt_of_ne hne with h | h
  · rw [show max x y = y by omega, show min x y = x by omega, ← tree_linked_lt hk tx ty h]
    refine and_congr ?_ Iff.rfl
    omega
  · have hs : y ∈ nbT k lv x ↔ x ∈ nbT k lv y := ⟨fun q => (tree_sym hk tx y q).1, fun q => (tree_sym hk ty x q).1⟩
    rw [show max x y = x by omega, show min x y = y by omega, hs, ← tree_linked_lt hk ty tx h]
    refine and_congr ?_ Iff.rfl
    omega
theorem wth_rise {k i : Nat} (hk : 1 ≤ k) (w : Int) {d e : Nat} (h : d < e) : wthI k i w (d : Int) < wthI k i w (e : Int) := by
  unfold wthI
  have hP : (1 : Int) ≤ ((k ^ i : Nat) : Int) := by have := pow_pos' (i := i) hk; omega
  have := Int.mul_lt_mul_of_pos_right (show (d : Int) - digI k i w < (e : Int) - digI k i w by omega) (show (0 : Int) < ((k ^ i : Nat) : Int) by omega)
  omega
theorem nbT_rise {k lv : Nat} (hk : 1 ≤ k) {x : Int} {l : Nat} {wd : Int} (hx : InTr k lv x l wd) : (nbT k lv x).Pairwise (· < ·) := by
  rw [hx.nb]
  unfold lvT
  refine List.pairwise_append.2 ⟨?_, ?_, ?_⟩
  · split
    · unfold dnT
      refine List.pairwise_map.2 (List.pairwise_lt_range.imp fun h => ?_)
      have := wth_rise (i := l - 1) hk wd h
      omega
    · exact List.Pairwise.nil
  · split
    · unfold upT
      refine List.pairwise_map.2 (List.pairwise_lt_range.imp fun h => ?_)
      have := wth_rise (i := l) hk wd h
      omega
    · exact List.Pairwise.nil
  · intro a ha b hb
    have h1 := mem_lvT (k := k) (lv := lv) (ww := ((k ^ (lv - 1) : Nat) : Int)) (l := l) (wx := wd) (z := a)
    by_cases h0 : 0 < l
    · by_cases h2 : l < lv - 1
      · rw [if_pos h0] at ha
        rw [if_pos h2] at hb
        unfold dnT at ha
        unfold upT at hb
        obtain ⟨d, hd, rfl⟩ := List.mem_map.1 ha
        obtain ⟨e, he, rfl⟩ := List.mem_map.1 hb
        have hd2 := List.mem_range.1 hd
        have he2 := List.mem_range.1 he
        have g1 := InTr.with_ (lv := lv) (l' := l - 1) hk (show l - 1 < lv - 1 by omega) (by omega) hx.2.2.1 hx.2.2.2 (show (0 : Int) ≤ (d : Int) by omega) (by omega)
        have g2 := InTr.with_ (lv := lv) (l' := l + 1) hk (show l < lv - 1 by omega) (by omega) hx.2.2.1 hx.2.2.2 (show (0 : Int) ≤ (e : Int) by omega) (by omega)
        have := tree_lt g1 g2 (by omega)
        rw [show ((l + 1 : Nat) : Int) = (l : Int) + 1 by omega] at this
        exact this
      · rw [if_neg h2] at hb; simp at hb
    · rw [if_neg h0] at ha; simp at ha
/-! dragonflies -/
theorem port_to {g gr P : Int} (h0 : 0 ≤ gr) (h1 : gr < g) (p0 : 0 ≤ P) (p1 : P ≤ g - 2) : ((gr + P + 1) % g - gr - 1) % g = P := by
  have e : (gr + P + 1) % g = if gr + P + 1 < g then gr + P + 1 else gr + P + 1 - g := by
    split
    · exact Int.emod_eq_of_lt (by omega) (by omega)
    · rw [← Int.sub_emod_right]; exact Int.emod_eq_of_lt (by omega) (by omega)
  rw [e]
  split
  · rw [show gr + P + 1 - gr - 1 = P by omega, Int.emod_eq_of_lt p0 (by omega)]
  · rw [← Int.add_emod_right, show gr + P + 1 - g - gr - 1 + g = P by omega, Int.emod_eq_of_lt p0 (by omega)]
theorem drag_linked {a h : Nat} (ha : 1 ≤ a) (hh : 1 ≤ h) {x y : Int} (hx0 : 0 ≤ x) (hx1 : x < (a : Int) * ((a : Int) * h + 1)) (hy0 : 0 ≤ y) (hy1 : y < (a : Int) * ((a : Int) * h + 1)) (hne : x ≠ y) :
    (x / (a : Int) = y / (a : Int) ∨ (x / (a : Int) * a + ((y / (a : Int) - x / (a : Int) - 1 + ((a : Int) * h + 1)) % ((a : Int) * h + 1)) / h = x ∧ y / (a : Int) * a + ((a : Int) * h + 1 - 2 - (y / (a : Int) - x / (a : Int) - 1 + ((a : Int) * h + 1)) % ((a : Int) * h + 1)) / h = y)) ↔ y ∈ nbD a h x := by
  have hx := InDr.of (a := a) (g := (a : Int) * h + 1) (by omega) hx0 hx1
  have hy := InDr.of (a := a) (g := (a : Int) * h + 1) (by omega) hy0 hy1
  rw [Int.add_emod_right]
  generalize x / (a : Int) = gx at *
  generalize y / (a : Int) = gy at *
  generalize x % (a : Int) = px at *
  generalize y % (a : Int) = py at *
  obtain ⟨a0, a1, a2, a3⟩ := hx.2
  obtain ⟨b0, b1, b2, b3⟩ := hy.2
  rw [mem_nbD hx]
  by_cases hg : gx = gy
  · refine ⟨fun _ => .inl ⟨py, b2, b3, ?_, by rw [hg]; exact hy.1⟩, fun _ => .inl hg⟩
    rintro rfl
    exact hne (by rw [hx.1, hy.1, hg])
  · constructor
    · rintro (h1 | ⟨h1, h2⟩)
      · exact absurd h1 hg
      · right
        obtain ⟨po, hpo⟩ : ∃ po, po = (gy - gx - 1) % ((a : Int) * h + 1) := ⟨_, rfl⟩
        rw [← hpo] at h1 h2
        have h5 : po = if gx < gy then gy - gx - 1 else gy - gx - 1 + ((a : Int) * h + 1) := by
          rw [hpo]
          split
          · exact Int.emod_eq_of_lt (by omega) (by omega)
          · rw [← Int.add_emod_right]; exact Int.emod_eq_of_lt (by omega) (by omega)
        have hp0 : 0 ≤ po := by rw [h5]; split <;> omega
        have hp1 : po ≤ (a : Int) * h + 1 - 2 := by rw [h5]; split <;> omega
        have h6 : (gx + po + 1) % ((a : Int) * h + 1) = gy := by
          rw [h5]
          split
          · rw [show gx + (gy - gx - 1) + 1 = gy by omega]; exact Int.emod_eq_of_lt b0 b1
          · rw [show gx + (gy - gx - 1 + ((a : Int) * h + 1)) + 1 = gy + ((a : Int) * h + 1) by omega, Int.add_emod_right]; exact Int.emod_eq_of_lt b0 b1
        obtain ⟨q0, q1, q2, q3, q4⟩ := place_in (a := a) (h := h) (P := po) (by omega) hp0 hp1
        have hx2 : InDr a ((a : Int) * h + 1) x gx (po / h) := ⟨h1.symm, a0, a1, q0, q1⟩
        have e9 : po / (h : Int) = px := hx2.parts.2.symm.trans hx.parts.2
        refine ⟨po % h, q2, q3, ?_⟩
        rw [← e9, q4, h6]
        exact h2.symm
    · rintro (⟨i, i0, i1, i2, i3⟩ | ⟨p, p0, p1, he⟩)
      · exfalso
        have : InDr a ((a : Int) * h + 1) y gx i := ⟨i3, a0, a1, i0, i1⟩
        exact hg (this.parts.1.symm.trans hy.parts.1)
      · right
        obtain ⟨t0, t1, t2, t3⟩ := port_in (a := a) (show 1 ≤ (h : Int) by omega) a2 a3 p0 p1
        generalize hP : px * (h : Int) + p = P at *
        obtain ⟨f0, f1, _, f2, f3⟩ := port_far a0 a1 t0 t1
        obtain ⟨s0, s1, s2, s3, s4⟩ := place_in (a := a) (h := h) (P := (a : Int) * h + 1 - 2 - P) (by omega) (by omega) (by omega)
        have hy2 : InDr a ((a : Int) * h + 1) y ((gx + P + 1) % ((a : Int) * h + 1)) (((a : Int) * h + 1 - 2 - P) / h) := ⟨he, f0, f1, s0, s1⟩
        have hgy : gy = (gx + P + 1) % ((a : Int) * h + 1) := hy.parts.1.symm.trans hy2.parts.1
        have hm : (gy - gx - 1) % ((a : Int) * h + 1) = P := by rw [hgy]; exact port_to a0 a1 t0 t1
        rw [hm, t2]
        exact ⟨hx.1.symm, by rw [hgy]; exact he.symm⟩
theorem dgA_rise (a gr pl : Int) : ∀ m, (dgA a gr pl m).Pairwise (· < ·)
  | 0 => List.Pairwise.nil
  | m + 1 => by
    rw [dgA]
    refine List.pairwise_append.2 ⟨dgA_rise a gr pl m, by split <;> simp, fun u hu v hv => ?_⟩
    obtain ⟨i, hi, _, rfl⟩ := (mem_dgA m).1 hu
    split at hv
    · obtain rfl : v = gr * a + (m : Int) := by simpa using hv
      omega
    · simp at hv
theorem nbD_rise {a h : Nat} (hh : 1 ≤ h) {x gr pl : Int} (hx : InDr a ((a : Int) * h + 1) x gr pl) : (nbD a h x).Pairwise (· < ·) := by
  unfold nbD
  rw [hx.parts.1, hx.parts.2]
  obtain ⟨a0, a1, a2, a3⟩ := hx.2
  refine rise_of (sort_sorted _) ?_
  have hp : (sortL (dgA a gr pl a ++ dgB a h ((a : Int) * h + 1) gr pl h)).Perm (dgA a gr pl a ++ dgB a h ((a : Int) * h + 1) gr pl h) := by unfold sortL; exact List.mergeSort_perm _ _
  rw [hp.nodup_iff, List.nodup_append]
  have hfar : ∀ p : Nat, p < h → ∃ P, P = pl * (h : Int) + (p : Int) ∧ InDr a ((a : Int) * h + 1) ((gr + (pl * (h : Int) + (p : Int)) + 1) % ((a : Int) * h + 1) * a + ((a : Int) * h + 1 - 2 - (pl * (h : Int) + (p : Int))) / h) ((gr + P + 1) % ((a : Int) * h + 1)) (((a : Int) * h + 1 - 2 - P) / h) ∧ (gr + P + 1) % ((a : Int) * h + 1) ≠ gr ∧ ((gr + P + 1) % ((a : Int) * h + 1) - gr - 1) % ((a : Int) * h + 1) = P := fun p hp => by
    obtain ⟨t0, t1, t2, t3⟩ := port_in (a := a) (pl := pl) (p := (p : Int)) (show 1 ≤ (h : Int) by omega) a2 a3 (by omega) (by omega)
    refine ⟨_, rfl, ?_⟩
    generalize pl * (h : Int) + (p : Int) = P at *
    obtain ⟨f0, f1, f4, f2, f3⟩ := port_far a0 a1 t0 t1
    obtain ⟨s0, s1, s2, s3, s4⟩ := place_in (a := a) (h := h) (P := (a : Int) * h + 1 - 2 - P) (by omega) (by omega) (by omega)
    exact ⟨⟨rfl, f0, f1, s0, s1⟩, f4, port_to a0 a1 t0 t1⟩
  refine ⟨(dgA_rise a gr pl a).imp fun h => by omega, ?_, ?_⟩
  · unfold dgB
    refine List.pairwise_map.2 ((List.pairwise_lt_range (n := h)).imp_of_mem ?_)
    intro p q hp hq hpq he
    obtain ⟨P, rfl, i1, i2, i3⟩ := hfar p (List.mem_range.1 hp)
    obtain ⟨Q, rfl, j1, j2, j3⟩ := hfar q (List.mem_range.1 hq)
    rw [he] at i1
    have e1 := i1.parts.1.symm.trans j1.parts.1
    rw [e1, j3] at i3
    omega
  · intro u hu v hv he
    obtain ⟨i, hi, _, rfl⟩ := (mem_dgA a).1 hu
    unfold dgB at hv
    obtain ⟨p, hp, rfl⟩ := List.mem_map.1 hv
    obtain ⟨P, rfl, i1, i2, i3⟩ := hfar p (List.mem_range.1 hp)
    have hu2 : InDr a ((a : Int) * h + 1) (gr * a + (i : Int)) gr i := ⟨rfl, a0, a1, by omega, by omega⟩
    rw [he] at hu2
    exact i2 (i1.parts.1.symm.trans hu2.parts.1)
/-- the neighbors of a switch rise -/
theorem nbS_rise {kind : Int} {l : List Int} {hosts : Int} (hv : vOk kind l hosts) {x : Int} (h0 : 0 ≤ x) (h1 : x < swI kind l) : (nbS kind l x).Pairwise (· < ·) := by
  rcases v_kind hv with rfl | rfl | rfl
  · have e : nbS 1 l x = nbL l x := by simp [nbS]
    rw [e]; exact nbL_rise l x
  · obtain ⟨k, lv, hk, hlv, e0, e1, e2, e3⟩ := tree_nums hv
    have e : nbS 2 l x = nbT k lv x := by simp [nbS, -List.getD_eq_getElem?_getD, e0, e1]
    rw [e2] at h1
    rw [e]; exact nbT_rise hk (InTr.of hk hlv h0 h1)
  · obtain ⟨a, h, ha, hh, e0, e1, e2, e3⟩ := drag_nums hv
    have e : nbS 3 l x = nbD a h x := by simp [nbS, -List.getD_eq_getElem?_getD, e0, e1]
    rw [e2] at h1
    rw [e]; exact nbD_rise hh (InDr.of (by omega) h0 h1)
/-- the neighbors, chosen from all switches -/
theorem nbS_filter {kind : Int} {l : List Int} {hosts : Int} (hv : vOk kind l hosts) {x : Int} (h0 : 0 ≤ x) (h1 : x < swI kind l) : ((List.range (swI kind l).toNat).map (fun (y : Nat) => (y : Int))).filter (fun y => decide (y ∈ nbS kind l x)) = nbS kind l x := by
  refine rise_eq (List.Pairwise.filter _ (List.pairwise_map.2 (List.pairwise_lt_range.imp fun h => by omega))) (nbS_rise hv h0 h1) fun z => ?_
  rw [List.mem_filter, decide_eq_true_eq]
  refine ⟨fun h => h.2, fun h => ⟨?_, h⟩⟩
  obtain ⟨⟨z0, z1⟩, _⟩ := net_sym hv h0 h1 z h
  obtain ⟨zn, rfl⟩ := Int.eq_ofNat_of_zero_le z0
  exact List.mem_map.2 ⟨zn, List.mem_range.2 (by omega), rfl⟩
end Go.Proofs.YtbhkenphcahifaaGreat

namespace Go.Proofs.YtbhkenphcahifaaGreat
open Go.RowKit Go.Shelf
set_option maxRecDepth 100000
set_option maxHeartbeats 4000000

theorem difK_self (a : List Int) : ∀ k, difK a a k = 0
  | 0 => rfl
  | k + 1 => by rw [difK, if_pos rfl, difK_self a k]
theorem drag_self {a h : Nat} (hh : 1 ≤ h) {x gr pl : Int} (hx : InDr a ((a : Int) * h + 1) x gr pl) : x ∉ nbD a h x := by
  rw [mem_nbD hx]
  rintro (⟨i, h1, h2, h3, h4⟩ | ⟨p, p0, p1, hz⟩)
  · have := hx.1; omega
  · obtain ⟨a0, a1, a2, a3⟩ := hx.2
    have e1 : (pl + 1) * (h : Int) ≤ (a : Int) * h := Int.mul_le_mul_of_nonneg_right (by omega) (by omega)
    rw [Int.add_mul, Int.one_mul] at e1
    have e2 := Int.mul_nonneg a2 (show (0 : Int) ≤ h by omega)
    have g := port_to (g := (a : Int) * h + 1) (gr := gr) (P := pl * h + p) a0 a1 (by omega) (by omega)
    have hG : (0 : Int) < (a : Int) * h + 1 := by omega
    have m0 := Int.emod_nonneg (gr + (pl * h + p) + 1) (show (a : Int) * h + 1 ≠ 0 by omega)
    have m1 := Int.emod_lt_of_pos (gr + (pl * h + p) + 1) hG
    have q0 : 0 ≤ ((a : Int) * h + 1 - 2 - (pl * h + p)) / h := Int.ediv_nonneg (by omega) (by omega)
    have q1 : ((a : Int) * h + 1 - 2 - (pl * h + p)) / h < a := Int.ediv_lt_of_lt_mul (by omega) (by omega)
    have t : InDr a ((a : Int) * h + 1) x ((gr + (pl * h + p) + 1) % ((a : Int) * h + 1)) (((a : Int) * h + 1 - 2 - (pl * h + p)) / h) := ⟨hz, m0, m1, q0, q1⟩
    have e3 := t.parts.1.symm.trans hx.parts.1
    rw [e3, show gr - gr - 1 = -1 by omega] at g
    have e4 : (-1 : Int) % ((a : Int) * h + 1) = (a : Int) * h + 1 - 1 := by
      rw [← Int.add_emod_right]; exact Int.emod_eq_of_lt (by omega) (by omega)
    rw [e4] at g
    omega
theorem tree_self {k lv : Nat} (hk : 1 ≤ k) {x : Int} {l : Nat} {wd : Int} (hx : InTr k lv x l wd) : x ∉ nbT k lv x := by
  rw [hx.nb, mem_lvT]
  rintro (⟨h0, d, hd, he⟩ | ⟨h0, d, hd, he⟩)
  · have g := InTr.with_ (lv := lv) (l' := l - 1) hk (show l - 1 < lv - 1 by have := hx.2.1; omega) (by have := hx.2.1; omega) hx.2.2.1 hx.2.2.2 (show (0 : Int) ≤ (d : Int) by omega) (by omega)
    rw [← he] at g
    have := (hx.unique g).1
    omega
  · have g := InTr.with_ (lv := lv) (l' := l + 1) hk (show l < lv - 1 by omega) (by omega) hx.2.2.1 hx.2.2.2 (show (0 : Int) ≤ (d : Int) by omega) (by omega)
    rw [← he] at g
    have := (hx.unique g).1
    omega
theorem nbS_self {kind : Int} {l : List Int} {hosts : Int} (hv : vOk kind l hosts) {x : Int} (h0 : 0 ≤ x) (h1 : x < swI kind l) : x ∉ nbS kind l x := by
  rcases v_kind hv with rfl | rfl | rfl
  · have e : nbS 1 l x = nbL l x := by simp [nbS]
    obtain ⟨_, hb⟩ := tOk_sides (torus_v hv)
    rw [e, ← torus_linked hb h0 h1 h0 h1, difK_self]
    simp
  · obtain ⟨k, lv, hk, hlv, e0, e1, e2, e3⟩ := tree_nums hv
    have e : nbS 2 l x = nbT k lv x := by simp [nbS, -List.getD_eq_getElem?_getD, e0, e1]
    rw [e2] at h1
    rw [e]; exact tree_self hk (InTr.of hk hlv h0 h1)
  · obtain ⟨a, h, ha, hh, e0, e1, e2, e3⟩ := drag_nums hv
    have e : nbS 3 l x = nbD a h x := by simp [nbS, -List.getD_eq_getElem?_getD, e0, e1]
    rw [e2] at h1
    rw [e]; exact drag_self hh (InDr.of (by omega) h0 h1)
theorem tree_v {l : List Int} {hosts : Int} (hv : vOk 2 l hosts) : rOk l hosts := by
  rcases hv with ⟨h0, h1⟩ | ⟨h0, h1⟩ | ⟨h0, h1⟩
  · cases h0
  · exact h1
  · cases h0
theorem drag_v {l : List Int} {hosts : Int} (hv : vOk 3 l hosts) : dOk l hosts := by
  rcases hv with ⟨h0, h1⟩ | ⟨h0, h1⟩ | ⟨h0, h1⟩
  · cases h0
  · cases h0
  · exact h1
theorem coords_rng {l : List Int} (hb : ∀ i, i < l.length → 2 ≤ l.getD i 0 ∧ l.getD i 0 ≤ 16) {x : Int} (h0 : 0 ≤ x) (h1 : x < prodI l) : ∀ i, i < l.length → 0 ≤ (coordsL l x).getD i 0 ∧ (coordsL l x).getD i 0 ≤ 1000 := by
  obtain ⟨d, hd, rfl⟩ := num_of hb h0 h1
  rw [coords_num hd]
  intro i hi
  have h2 := hd.2 i hi
  have h3 := hb i hi
  omega
/-- are two switches linked: just when one is the other's neighbor -/
theorem rLinked_any {w : World} {sa : Option Addr} {l : List Int} (h : Ints w sa l) (sc : Nat) {kind hosts x y : Int} (hv : vOk kind l hosts) (hx : 0 ≤ x) (hx2 : x < swI kind l) (hy : 0 ≤ y) (hy2 : y < swI kind l) :
    Calls Tryz.prog 96 #[.agg #[.int .i64 kind, .slice sa l.length sc, .int .i64 hosts], .int .i64 x, .int .i64 y] w fun e w' => e = .returned (.bool (decide (y ∈ nbS kind l x))) ∧ Below w.heap.size w w' := by
  have hsw := sw_max hv
  by_cases hxy : x = y
  · subst hxy
    have e : decide (x ∈ nbS kind l x) = false := decide_eq_false (nbS_self hv hx hx2)
    rw [e]
    exact rLinked_same l.length sc kind hosts x
  · rcases v_kind hv with rfl | rfl | rfl
    · obtain ⟨⟨k1, k2⟩, hb⟩ := tOk_sides (torus_v hv)
      have e : nbS 1 l x = nbL l x := by simp [nbS]
      have hs : swI 1 l = prodI l := rfl
      rw [hs] at hx2 hy2
      have hp : ∀ s ∈ l, 1 ≤ s ∧ s ≤ 64 := fun s hs => by have := (torus_v hv).2.2.1 s hs; omega
      have hr := rLinked1_any h (by omega) hp sc hosts x y hx (by omega) hy (by omega) hxy (coords_rng hb hx hx2) (coords_rng hb hy hy2)
      have e2 : (difK (coordsL l x) (coordsL l y) l.length == 1 && neaK l (coordsL l x) (coordsL l y) l.length) = decide (y ∈ nbL l x) := by
        rw [Bool.eq_iff_iff, decide_eq_true_eq, ← torus_linked hb hx hx2 hy hy2]; simp
      rw [e, ← e2]
      exact hr
    · obtain ⟨k, lv, hk, hlv, e0, e1, e2, e3⟩ := tree_nums hv
      have e : nbS 2 l x = nbT k lv x := by simp [nbS, -List.getD_eq_getElem?_getD, e0, e1]
      obtain ⟨hl, hk8, hlv4, _⟩ := tree_v hv
      obtain ⟨ka, lb, rfl⟩ := two_of hl
      obtain rfl : ka = (k : Int) := e0
      obtain rfl : lb = (lv : Int) := e1
      obtain ⟨g, o, rfl, ht⟩ := h.two
      rw [e2] at hx2 hy2 hsw
      have hw1 : (1 : Int) ≤ ((k ^ (lv - 1) : Nat) : Int) := by have := pow_pos' (i := lv - 1) hk; omega
      have hww : wordsI [(k : Int), (lv : Int)] = ((k ^ (lv - 1) : Nat) : Int) := rfl
      have hmx : max x y / ((k ^ (lv - 1) : Nat) : Int) < lv := Int.ediv_lt_of_lt_mul (by omega) (by omega)
      have hmn : min x y / ((k ^ (lv - 1) : Nat) : Int) < lv := Int.ediv_lt_of_lt_mul (by omega) (by omega)
      have hk16 : k ≤ 16 := by have := hk8.2; simp at this; omega
      have hlv5 : lv ≤ 4 := by have := hlv4.2; simp at this; omega
      have hr := rLinked2_any k lv hk hk16 hlv (by omega) ht sc hosts x y hx (by omega) hy (by omega) hxy hww hw1 rfl rfl rfl rfl (by omega) (by omega)
      have e4 : (max x y / ((k ^ (lv - 1) : Nat) : Int) == min x y / ((k ^ (lv - 1) : Nat) : Int) + 1 && wthI k (min x y / ((k ^ (lv - 1) : Nat) : Int)).toNat (min x y % ((k ^ (lv - 1) : Nat) : Int)) 0 == wthI k (min x y / ((k ^ (lv - 1) : Nat) : Int)).toNat (max x y % ((k ^ (lv - 1) : Nat) : Int)) 0) = decide (y ∈ nbT k lv x) := by
        rw [Bool.eq_iff_iff, decide_eq_true_eq, ← tree_linked hk hlv hx hx2 hy hy2 hxy, Bool.and_eq_true, beq_iff_eq, beq_iff_eq]
      rw [e, ← e4]
      exact hr
    · obtain ⟨a, hh', ha, hh, e0, e1, e2, e3⟩ := drag_nums hv
      have e : nbS 3 l x = nbD a hh' x := by simp [nbS, -List.getD_eq_getElem?_getD, e0, e1]
      obtain ⟨hl, _, ha16, hh4, _⟩ := drag_v hv
      obtain ⟨ka, lb, rfl⟩ := two_of hl
      obtain rfl : ka = (a : Int) := e0
      obtain rfl : lb = (hh' : Int) := e1
      obtain ⟨g, o, rfl, ht⟩ := h.two
      rw [e2] at hx2 hy2 hsw
      have ha17 : (a : Int) ≤ 16 := by have := ha16.2; simp at this; omega
      have hh5 : (hh' : Int) ≤ 4 := by have := hh4.2; simp at this; omega
      have hr := rLinked3_any (a : Int) (hh' : Int) (by omega) ha17 (by omega) hh5 ht sc hosts x y hx hx2 hy hy2 hxy rfl rfl rfl rfl
      have e4 : (x / (a : Int) == y / (a : Int) || (x / (a : Int) * a + ((y / (a : Int) - x / (a : Int) - 1 + ((a : Int) * hh' + 1)) % ((a : Int) * hh' + 1)) / hh' == x && y / (a : Int) * a + ((a : Int) * hh' + 1 - 2 - (y / (a : Int) - x / (a : Int) - 1 + ((a : Int) * hh' + 1)) % ((a : Int) * hh' + 1)) / hh' == y)) = decide (y ∈ nbD a hh' x) := by
        rw [Bool.eq_iff_iff, decide_eq_true_eq, ← drag_linked ha hh hx hx2 hy hy2 hxy, Bool.or_eq_true, Bool.and_eq_true, beq_iff_eq, beq_iff_eq, beq_iff_eq]
      rw [e, ← e4]
      exact hr
end Go.Proofs.YtbhkenphcahifaaGreat

namespace Go.Proofs.YtbhkenphcahifaaGreat
open Go.RowKit Go.Shelf
attribute [local go_sem] Oper.semAt_some
set_option maxRecDepth 100000
set_option maxHeartbeats 4000000

/-- the neighbors below i -/
def fltS (kind : Int) (l : List Int) (x : Int) (i : Nat) : List Int := ((List.range i).map fun (y : Nat) => (y : Int)).filter fun y => decide (y ∈ nbS kind l x)
theorem flt_succ (kind : Int) (l : List Int) (x : Int) (i : Nat) : fltS kind l x (i + 1) = fltS kind l x i ++ (if decide ((i : Int) ∈ nbS kind l x) = true then [(i : Int)] else []) := by
  unfold fltS
  rw [List.range_succ, List.map_append, List.filter_append]
  congr 1
  simp only [List.map_cons, List.map_nil, List.filter_cons, List.filter_nil]
theorem flt_len (kind : Int) (l : List Int) (x : Int) (i : Nat) : (fltS kind l x i).length ≤ i := by
  unfold fltS
  refine Nat.le_trans (List.length_filter_le _ _) ?_
  simp
/-- the reference's neighbors -/
theorem rNeighbors_any {w : World} {sa : Option Addr} {l : List Int} (h : Ints w sa l) (sc : Nat) {kind hosts x : Int} (hv : vOk kind l hosts) (hx : 0 ≤ x) (hx2 : x < swI kind l) :
    Calls Tryz.prog 52 #[.agg #[.int .i64 kind, .slice sa l.length sc, .int .i64 hosts], .int .i64 x] w fun e w' => ∃ v, e = .returned v ∧ NewInts w.heap.size w' v (nbS kind l x) ∧ Below w.heap.size w w' := by
  have HB := Lib.hid ((Below.refl w.heap.size w).alloc (Nat.le_refl _) (.cells #[.int .i64 kind, .slice sa l.length sc, .int .i64 hosts] 34))
  have Q0 := Lib.hid (heap_alloc_new w (.cells #[.int .i64 kind, .slice sa l.length sc, .int .i64 hosts] 34))
  have hz : (w.alloc (.cells #[.int .i64 kind, .slice sa l.length sc, .int .i64 hosts] 34)).heap.size = w.heap.size + 1 := by simp
  obtain ⟨N, hN⟩ := Int.eq_ofNat_of_zero_le (show 0 ≤ swI kind l by have := v_bound hv; omega)
  have hsw := sw_max hv
  have HSW : Hid (∀ W, Below w.heap.size w W → Calls Tryz.prog 51 #[.agg #[.int .i64 kind, .slice sa l.length sc, .int .i64 hosts]] W fun e w' => e = .returned (.int .i64 (N : Int)) ∧ Below W.heap.size W w') := fun W hb => by
    have := rSwitches_any (h.keep hb) sc kind hosts hv
    rwa [hN] at this
  have HLK : Hid (∀ W, Below w.heap.size w W → ∀ i : Nat, i < N → Calls Tryz.prog 96 #[.agg #[.int .i64 kind, .slice sa l.length sc, .int .i64 hosts], .int .i64 x, .int .i64 (i : Int)] W fun e w' => e = .returned (.bool (decide ((i : Int) ∈ nbS kind l x))) ∧ Below W.heap.size W w') := fun W hb i hi => rLinked_any (h.keep hb) sc hv hx hx2 (by omega) (by omega)
  have HEND : Hid (fltS kind l x N = nbS kind l x) := by
    have := nbS_filter hv hx hx2
    rw [hN, Int.toNat_natCast] at this
    exact this
  have HN : Hid (N ≤ 256) := by show _ ≤ _; omega
  clear h hv hx hx2 hN hsw
  go_enter Tryz.func52, Tryz.ntmps52
  go_wp2_with fail
  have HS0 : Hid (NewInts (w.heap.size + 1) (w.alloc (.cells #[.int .i64 kind, .slice sa l.length sc, .int .i64 hosts] 34)) (.slice none 0 0) (fltS kind l x 0) ∧ Below w.heap.size w (w.alloc (.cells #[.int .i64 kind, .slice sa l.length sc, .int .i64 hosts] 34)) ∧ (w.alloc (.cells #[.int .i64 kind, .slice sa l.length sc, .int .i64 hosts] 34)).heap[w.heap.size]? = some (.cells #[.int .i64 kind, .slice sa l.length sc, .int .i64 hosts] 34 (0, 0)) ∧ w.heap.size < (w.alloc (.cells #[.int .i64 kind, .slice sa l.length sc, .int .i64 hosts] 34)).heap.size) :=
    ⟨⟨World.ownsRow_nil _ _ _ _, by simp [fltS]⟩, HB.out, Q0.out, by omega⟩
  clear HB Q0 hz
  generalize w.alloc (.cells #[.int .i64 kind, .slice sa l.length sc, .int .i64 hosts] 34) = X at *
  go_loopw [5, 6] (fun v iv wr => ∃ (i : Nat), i ≤ N ∧ iv = .int .i64 (i : Int) ∧ Hid (NewInts (w.heap.size + 1) wr v (fltS kind l x i) ∧ Below w.heap.size w wr ∧ wr.heap[w.heap.size]? = some (.cells #[.int .i64 kind, .slice sa l.length sc, .int .i64 hosts] 34 (0, 0)) ∧ w.heap.size < wr.heap.size)) (fun _ iv _ => N - (intOf iv).toNat)
  case atStart => exact ⟨0, Nat.zero_le _, rfl, HS0⟩
  case round =>
    clear HS0
    obtain ⟨i, hi, rfl, HI⟩ := hrel
    have c0 := cellR 0 HI.out.2.2.1 rfl
    have c1 := cellR 1 HI.out.2.2.1 rfl
    have c2 := cellR 2 HI.out.2.2.1 rfl
    go_wp2_with fail
    refine (HSW.out _ HI.out.2.1).mono ?_
    rintro e W2 ⟨rfl, hb⟩
    replace HI : Hid (NewInts (w.heap.size + 1) W2 u5 (fltS kind l x i) ∧ Below w.heap.size w W2 ∧ W2.heap[w.heap.size]? = some (.cells #[.int .i64 kind, .slice sa l.length sc, .int .i64 hosts] 34 (0, 0)) ∧ w.heap.size < W2.heap.size) := ⟨HI.out.1.keep2 hb, HI.out.2.1.trans (hb.mono HI.out.2.1.size), heapB hb HI.out.2.2.1, Nat.lt_of_lt_of_le HI.out.2.2.2 hb.size⟩
    clear hb c0 c1 c2
    have c0 := cellR 0 HI.out.2.2.1 rfl
    have c1 := cellR 1 HI.out.2.2.1 rfl
    have c2 := cellR 2 HI.out.2.2.1 rfl
    by_cases hlt : i < N
    · have d1 : decide ((i : Int) < (N : Int)) = true := decide_eq_true (by omega)
      have HWI := Lib.hid (wrap_small ((i : Int) + 1) (by omega) (by have := HN.out; omega))
      have HCS : Hid (((i : Int) + 1) = ((i + 1 : Nat) : Int)) := by show _ = _; rw [Int.natCast_add]; rfl
      have HME : Hid (N - (intOf (.int .i64 ((i : Int) + 1))).toNat < N - (intOf (.int .i64 (i : Int))).toNat) := by show _ < _; simp [intOf]; omega
      have HMO : Hid (N - (intOf (.int .i64 (wrap64 ((i : Int) + 1)))).toNat < N - (intOf (.int .i64 (i : Int))).toNat) := by show _ < _; rw [HWI.out]; exact HME.out
      have HK1 : Hid (i + 1 ≤ N) := hlt
      go_wp2_with fail
      refine (HLK.out _ HI.out.2.1 i hlt).mono ?_
      rintro e W3 ⟨rfl, hb⟩
      replace HI : Hid (NewInts (w.heap.size + 1) W3 u5 (fltS kind l x i) ∧ Below w.heap.size w W3 ∧ W3.heap[w.heap.size]? = some (.cells #[.int .i64 kind, .slice sa l.length sc, .int .i64 hosts] 34 (0, 0)) ∧ w.heap.size < W3.heap.size) := ⟨HI.out.1.keep2 hb, HI.out.2.1.trans (hb.mono HI.out.2.1.size), heapB hb HI.out.2.2.1, Nat.lt_of_lt_of_le HI.out.2.2.2 hb.size⟩
      clear hb c0 c1 c2
      by_cases hm : decide ((i : Int) ∈ nbS kind l x) = true
      · obtain ⟨v', w2, hr, hn2, hb2⟩ := appOne HI.out.1 (i : Int) (by have := flt_len kind l x i; have := HN.out; omega) HI.out.2.2.2
        have HI2 : Hid (NewInts (w.heap.size + 1) w2 v' (fltS kind l x (i + 1)) ∧ Below w.heap.size w w2 ∧ w2.heap[w.heap.size]? = some (.cells #[.int .i64 kind, .slice sa l.length sc, .int .i64 hosts] 34 (0, 0)) ∧ w.heap.size < w2.heap.size) := by
          refine ⟨?_, HI.out.2.1.trans (hb2.mono (by omega)), (hb2.block _ (by omega)).trans HI.out.2.2.1, Nat.lt_of_lt_of_le HI.out.2.2.2 hb2.size⟩
          rw [flt_succ, if_pos hm]; exact hn2
        have HR := Lib.hid hr
        clear hr hn2 hb2
        go_wp2_with (at_builtin; refine Lib.wpList_append_run _ rfl (.tmp 17) (.tmp 19) 22 22 rfl _ _ rfl rfl _ _ HR.out ?_)
        go_roundw
        case rel => exact ⟨i + 1, HK1.out, by first | rw [HWI.out, HCS.out] | rw [HCS.out], HI2⟩
        case measure => first | exact HMO.out | exact HME.out
      · have hm2 : decide ((i : Int) ∈ nbS kind l x) = false := by simpa using hm
        have HI2 : Hid (NewInts (w.heap.size + 1) W3 u5 (fltS kind l x (i + 1)) ∧ Below w.heap.size w W3 ∧ W3.heap[w.heap.size]? = some (.cells #[.int .i64 kind, .slice sa l.length sc, .int .i64 hosts] 34 (0, 0)) ∧ w.heap.size < W3.heap.size) := by
          rw [flt_succ, if_neg hm, List.append_nil]; exact HI
        clear hm
        go_wp2_with fail
        go_roundw
        case rel => exact ⟨i + 1, HK1.out, by first | rw [HWI.out, HCS.out] | rw [HCS.out], HI2⟩
        case measure => first | exact HMO.out | exact HME.out
    · have hin : i = N := by omega
      have d1 : decide ((i : Int) < (N : Int)) = false := decide_eq_false (by omega)
      have HF : Hid (NewInts w.heap.size W2 u5 (nbS kind l x) ∧ Below w.heap.size w W2) := ⟨by
        have := HI.out.1
        rw [hin, HEND.out] at this
        exact ⟨ownsRow_low this.own (by omega), this.len⟩, HI.out.2.1⟩
      go_wp2_with fail
      go_ret
      exact ⟨_, rfl, HF.out.1, HF.out.2⟩
end Go.Proofs.YtbhkenphcahifaaGreat

namespace Go.Proofs.YtbhkenphcahifaaGreat
open Go.RowKit Go.Shelf
attribute [local go_sem] Oper.semAt_some
set_option maxRecDepth 100000
set_option maxHeartbeats 4000000

theorem u8_range {a : Int} (h : (Lit.int .u8 a).wf = true) : 0 ≤ a ∧ a ≤ 255 := by
  simp only [Lit.wf, Bool.and_eq_true, decide_eq_true_eq] at h; exact h
end Go.Proofs.YtbhkenphcahifaaGreat

namespace Go.Proofs.YtbhkenphcahifaaGreat
open Go.RowKit Go.Shelf
attribute [local go_sem] Oper.semAt_some
set_option maxRecDepth 100000
set_option maxHeartbeats 4000000

theorem nbS_len {kind : Int} {l : List Int} {hosts : Int} (hv : vOk kind l hosts) (x : Int) : (nbS kind l x).length ≤ 100000 := by
  rcases v_kind hv with rfl | rfl | rfl
  · obtain ⟨⟨k1, k2⟩, hs⟩ := tOk_sides (torus_v hv)
    have e : nbS 1 l x = nbL l x := by simp [nbS]
    rw [e]
    have h2 : (nbL l x).length ≤ (sortL (nbK l x l.length)).length := Lib.compact_length_le _
    rw [sort_len, nbK_len] at h2
    omega
  · have e : nbS 2 l x = nbT (l.getD 0 0).toNat (l.getD 1 0).toNat x := by unfold nbS; rw [if_neg (by decide), if_pos rfl]
    rw [e]
    obtain ⟨k, lv, hk, hlv, e0, e1, e2, e3⟩ := tree_nums hv
    have hr : rOk l hosts := by
      rcases hv with ⟨q0, q1⟩ | ⟨q0, q1⟩ | ⟨q0, q1⟩
      · cases q0
      · exact q1
      · cases q0
    have hk8 := hr.2.1
    rw [e0, e1]
    rw [e0] at hk8
    simp only [Int.toNat_natCast]
    unfold nbT lvT
    rw [List.length_append]
    have a1 : (if 0 < (x / ((k ^ (lv - 1) : Nat) : Int)).toNat then dnT k ((k ^ (lv - 1) : Nat) : Int) ((x / ((k ^ (lv - 1) : Nat) : Int)).toNat - 1) (x % ((k ^ (lv - 1) : Nat) : Int)) k else []).length ≤ k := by
      split
      · rw [dnT_len]; exact Nat.le_refl _
      · simp
    have a2 : (if (x / ((k ^ (lv - 1) : Nat) : Int)).toNat < lv - 1 then upT k ((k ^ (lv - 1) : Nat) : Int) (x / ((k ^ (lv - 1) : Nat) : Int)).toNat (x % ((k ^ (lv - 1) : Nat) : Int)) k else []).length ≤ k := by
      split
      · rw [upT_len]; exact Nat.le_refl _
      · simp
    omega
  · have e : nbS 3 l x = nbD (l.getD 0 0).toNat (l.getD 1 0).toNat x := by unfold nbS; rw [if_neg (by decide), if_neg (by decide)]
    rw [e]
    obtain ⟨a, hh, _, _, e0, e1, _, _⟩ := drag_nums hv
    have hr : dOk l hosts := by
      rcases hv with ⟨q0, q1⟩ | ⟨q0, q1⟩ | ⟨q0, q1⟩
      · cases q0
      · cases q0
      · exact q1
    have h8 := hr.2.2.1
    have h9 := hr.2.2.2.1
    rw [e0] at h8
    rw [e1] at h9
    rw [e0, e1]
    simp only [Int.toNat_natCast]
    unfold nbD
    rw [sort_len, List.length_append, dgB_len]
    have := dgA_len a (x / (a : Int)) (x % (a : Int)) a
    omega
/-- networks are connected -/
theorem net_walk {kind : Int} {l : List Int} {hosts : Int} (hv : vOk kind l hosts) {x y : Int} (h0 : 0 ≤ x) (h1 : x < swI kind l) (g0 : 0 ≤ y) (g1 : y < swI kind l) : ∃ k, k ≤ 200000 ∧ Walk (nbS kind l) y x k := by
  have hb := v_bound hv
  have hS : ∀ a, (0 ≤ a ∧ a < swI kind l) → ∀ z ∈ nbS kind l a, (0 ≤ z ∧ z < swI kind l) ∧ a ∈ nbS kind l z := fun a ha z hz => net_sym hv ha.1 ha.2 z hz
  have key : ∀ a, 0 ≤ a → a < swI kind l → ∃ k, k ≤ 100000 ∧ Walk (nbS kind l) 0 a k := fun a a0 a1 => by
    obtain ⟨an, rfl⟩ := Int.eq_ofNat_of_zero_le a0
    have hE := rte_zero hv (x := an) (y := 0) a1 (by omega)
    have hr := (net_route hv (x := (an : Int)) (y := 0) a0 a1 (by omega) (by omega)).1
    have hw := Chain.back hS _ (an : Int) ⟨a0, a1⟩ hr
    rw [List.length_map] at hw
    exact ⟨_, stepsL_len hE, hw⟩
  obtain ⟨k, hk, wk⟩ := key x h0 h1
  obtain ⟨j, hj, wj⟩ := key y g0 g1
  exact ⟨j + k, by omega, (wj.turn hS ⟨by omega, by omega⟩).trans wk⟩
theorem dist_small {kind : Int} {l : List Int} {hosts : Int} (hv : vOk kind l hosts) {x y d : Int} (h0 : 0 ≤ x) (h1 : x < swI kind l) (g0 : 0 ≤ y) (g1 : y < swI kind l) (hd : DistAt (nbS kind l) y x d) : ∃ k : Nat, d = (k : Int) ∧ k ≤ 200000 ∧ Walk (nbS kind l) y x k ∧ ∀ j, Walk (nbS kind l) y x j → k ≤ j := by
  obtain ⟨k, hk, wk⟩ := net_walk hv h0 h1 g0 g1
  rcases hd with ⟨_, hno⟩ | ⟨j, rfl, hj, hm⟩
  · exact absurd wk (hno _)
  · exact ⟨j, rfl, by have := hm _ wk; omega, hj, hm⟩
/-- the neighbors that are nearer -/
def nearL (dl : List Int) (x : Nat) (L : List Int) : List Int := L.filter fun z => dl.getD z.toNat 0 == dl.getD x 0 - 1
theorem nearL_snoc (dl : List Int) (x : Nat) (L : List Int) (z : Int) : nearL dl x (L ++ [z]) = nearL dl x L ++ (if (dl.getD z.toNat 0 == dl.getD x 0 - 1) = true then [z] else []) := by
  unfold nearL
  rw [List.filter_append]
  congr 1
  by_cases h : (dl.getD z.toNat 0 == dl.getD x 0 - 1) = true
  · simp only [h, List.filter_cons, List.filter_nil, if_true]
  · simp only [h, List.filter_cons, List.filter_nil, if_false]
theorem Hops_ok {w : World} {sa : Option Addr} {l : List Int} (h : Ints w sa l) (sc : Nat) (kind hosts : Int) {xn yn : Nat} (hv : vOk kind l hosts) (h1 : (xn : Int) < swI kind l) (g1 : (yn : Int) < swI kind l) :
    Calls Tryz.prog 18 #[.agg #[.int .i64 kind, .slice sa l.length sc, .int .i64 hosts], .int .i64 (xn : Int), .int .i64 (yn : Int)] w fun e w' => ∃ v dl, e = .returned (.tuple #[v, .int .i64 0]) ∧ (∀ a : Nat, (a : Int) < swI kind l → DistAt (nbS kind l) (yn : Int) (a : Int) (dl.getD a 0)) ∧ NewInts w.heap.size w' v (nearL dl xn (nbS kind l (xn : Int))) ∧ Below w.heap.size w w' := by
  obtain ⟨X, hX⟩ : ∃ X, X = ((w.alloc (.cells #[.int .i64 kind, .slice sa l.length sc, .int .i64 hosts] 24)).alloc (.cells #[.int .i64 (xn : Int)] 3)).alloc (.cells #[.int .i64 (xn : Int), .int .i64 (yn : Int)] 3) := ⟨_, rfl⟩
  have hb2 : Below w.heap.size w ((w.alloc (.cells #[.int .i64 kind, .slice sa l.length sc, .int .i64 hosts] 24)).alloc (.cells #[.int .i64 (xn : Int)] 3)) := ((Below.refl _ _).alloc (Nat.le_refl _) _).alloc (by simp) _
  have hbx : Below w.heap.size w X := by rw [hX]; exact hb2.alloc (by simp <;> omega) _
  have q0 : ((w.alloc (.cells #[.int .i64 kind, .slice sa l.length sc, .int .i64 hosts] 24)).alloc (.cells #[.int .i64 (xn : Int)] 3)).heap[w.heap.size]? = some (.cells #[.int .i64 kind, .slice sa l.length sc, .int .i64 hosts] 24 (0, 0)) := (Below.heap_alloc _ _ _ (by simp)).trans (heap_alloc_new w _)
  have q1 : ((w.alloc (.cells #[.int .i64 kind, .slice sa l.length sc, .int .i64 hosts] 24)).alloc (.cells #[.int .i64 (xn : Int)] 3)).heap[w.heap.size + 1]? = some (.cells #[.int .i64 (xn : Int)] 3 (0, 0)) := by
    have := heap_alloc_new (w.alloc (.cells #[.int .i64 kind, .slice sa l.length sc, .int .i64 hosts] 24)) (.cells #[.int .i64 (xn : Int)] 3)
    rwa [World.size_alloc] at this
  have p1 : X.heap[w.heap.size + 1]? = some (.cells #[.int .i64 (xn : Int)] 3 (0, 0)) := by rw [hX]; exact (Below.heap_alloc _ _ _ (by simp)).trans q1
  have p2 : X.heap[w.heap.size + 2]? = some (.cells #[.int .i64 (xn : Int), .int .i64 (yn : Int)] 3 (0, 0)) := by
    rw [hX]
    have := heap_alloc_new ((w.alloc (.cells #[.int .i64 kind, .slice sa l.length sc, .int .i64 hosts] 24)).alloc (.cells #[.int .i64 (xn : Int)] 3)) (.cells #[.int .i64 (xn : Int), .int .i64 (yn : Int)] 3)
    rwa [World.size_alloc, World.size_alloc] at this
  have c0 := cellR 0 (heap_alloc_new w (.cells #[.int .i64 kind, .slice sa l.length sc, .int .i64 hosts] 24)) rfl
  have k0 := cellR 0 q0 rfl
  have k1 := cellR 1 q0 rfl
  have k2 := cellR 2 q0 rfl
  have k3 := cellR 0 q1 rfl
  obtain ⟨ty, fs, fn, rcv, sw, hnv, hse, hsl, hnk⟩ := netK (h.keep hbx) sc hv
  have hin : inB (swI kind l) [(xn : Int), (yn : Int)] = true := by simp [inB]; omega
  have hi : Ints X (some ⟨w.heap.size + 2, 0, none⟩) [(xn : Int), (yn : Int)] := by
    have hra : RowAt X (w.heap.size + 2) [(xn : Int), (yn : Int)] := by
      unfold RowAt; rw [p2]; rw [show rowA [(xn : Int), (yn : Int)] = #[.int .i64 (xn : Int), .int .i64 (yn : Int)] by unfold rowA; rfl]
    exact hra.ints (by simp)
  have HC := Lib.hid (networkWith_any (h.keep hbx) hi sc 2 kind hosts)
  rw [show withV kind sa sc l hosts [(xn : Int), (yn : Int)] = .tuple #[.iface ty rcv, .int .i64 0] by unfold withV; rw [if_pos hv, if_pos hin, hnv]] at HC
  have hsy : ∀ a : Nat, a < sw → ∀ z ∈ nbS kind l (a : Int), 0 ≤ z ∧ z < (sw : Int) := fun a ha z hz => by
    have := (net_sym hv (x := (a : Int)) (by omega) (by omega) z hz).1
    omega
  rw [← hse] at h1 g1
  have HXL : Hid (xn < sw) := by show _ < _; omega
  have HYL : Hid (yn < sw) := by show _ < _; omega
  have HK := Lib.hid hnk
  have HSY := Lib.hid hsy
  have HSL := Lib.hid hsl
  have HB := Lib.hid hbx
  have HP1 := Lib.hid p1
  have hmn := hnk.mn
  have hen := hnk.en
  have HSE := Lib.hid hse
  have HLN := Lib.hid (nbS_len hv (xn : Int))
  have HDS : Hid (∀ (a : Nat) d, a < sw → DistAt (nbS kind l) (yn : Int) (a : Int) d → 0 ≤ d ∧ d ≤ 200000) := fun a d ha hd => by
    obtain ⟨k, rfl, hk, _⟩ := dist_small hv (x := (a : Int)) (y := (yn : Int)) (by omega) (by omega) (by omega) (by omega) hd
    omega
  have hz : Hid (X.heap.size = w.heap.size + 3) := by show _ = _; rw [hX]; simp
  simp only [List.length_cons, List.length_nil, Nat.reduceAdd] at HC
  rw [hX] at HC
  have HXE := Lib.hid hX
  clear h hbx q0 q1 hi hv hin hnv hse hnk hsy h1 g1 hsl hb2 p1 p2 hX
  generalize l.length = M at *
  refine (callsIn_wide (n := 4)).1 ?_
  refine callsIn_of_wp_marks Tryz.func18 rfl trivial ?_ rfl
  simp only [Tryz.ntmps18, List.size_toArray, List.length_cons, List.length_nil, Nat.reduceAdd, Nat.reduceSub, Array.replicate_succ, Array.replicate_zero, List.push_toArray, List.append_toArray, List.nil_append, List.cons_append]
  gi_wp2
  refine ⟨trivial, callsIn_wide.2 (HC.out.mono ?_)⟩
  rw [← HXE.out]
  rintro e w1 ⟨rfl, hb1⟩
  have HB1 := Lib.hid (HB.out.trans (hb1.mono (by rw [hz.out]; omega)))
  have HP2 := Lib.hid (heapB hb1 HP1.out)
  have HK1 := Lib.hid (HK.out.later hb1)
  have HZ1 : Hid (X.heap.size ≤ w1.heap.size) := hb1.size
  have HD := Lib.hid (distances_any (lo := X.heap.size) hb1.size (by have := HSL.out; omega) (HK.out.later hb1) HSY.out HYL.out)
  clear HC hb1 c0 k0 k1 k2 k3 HP1 HXE
  gi_wp2
  refine ⟨trivial, callsIn_wide.2 (HD.out.mono ?_)⟩
  rintro e w2 ⟨g, dl, rfl, hr, hg, hlen, hdi, hb2⟩
  obtain ⟨b4, hb4⟩ : ∃ b, b = w2.heap.size := ⟨_, rfl⟩
  obtain ⟨Y, hY⟩ : ∃ Y, Y = (w2.alloc (.cells #[.slice (some ⟨g, 0, none⟩) sw sw] 22)).alloc (.cells #[.slice none 0 0] 22) := ⟨_, rfl⟩
  have hbY : Below w2.heap.size w2 Y := by rw [hY]; exact ((Below.refl _ _).alloc (Nat.le_refl _) _).alloc (by simp) _
  have r1 : Y.heap[b4]? = some (.cells #[.slice (some ⟨g, 0, none⟩) sw sw] 22 (0, 0)) := by rw [hY, hb4]; exact (Below.heap_alloc _ _ _ (by simp)).trans (heap_alloc_new w2 _)
  have r2 : Y.heap[b4 + 1]? = some (.cells #[.slice none 0 0] 22 (0, 0)) := by
    rw [hY, hb4]
    have := heap_alloc_new (w2.alloc (.cells #[.slice (some ⟨g, 0, none⟩) sw sw] 22)) (.cells #[.slice none 0 0] 22)
    rwa [World.size_alloc] at this
  have r3 : Y.heap[w.heap.size + 1]? = some (.cells #[.int .i64 (xn : Int)] 3 (0, 0)) := heapB hbY (heapB hb2 HP2.out)
  have HYF : Hid (RowAt Y g dl ∧ Y.heap[b4]? = some (.cells #[.slice (some ⟨g, 0, none⟩) sw sw] 22 (0, 0)) ∧ Y.heap[b4 + 1]? = some (.cells #[.slice none 0 0] 22 (0, 0)) ∧ Y.heap[w.heap.size + 1]? = some (.cells #[.int .i64 (xn : Int)] 3 (0, 0)) ∧ Below w.heap.size w Y ∧ w1.heap.size ≤ g ∧ g < b4 ∧ w.heap.size + 1 < g ∧ NetK Y X.heap.size ty fs fn rcv sw (hoI kind l) (nbS kind l) ∧ Below X.heap.size Y Y ∧ X.heap.size ≤ Y.heap.size ∧ b4 + 1 < Y.heap.size) := by
    have h7 := HZ1.out
    have h8 := hz.out
    refine ⟨(hr.keep hbY), r1, r2, r3, HB1.out.trans ((hb2.mono HB1.out.size).trans (hbY.mono (by have := HB1.out.size; have := hb2.size; omega))), hg, by rw [hb4]; exact hr.lt, by omega, HK1.out.later ((hb2.mono h7).trans (hbY.mono (by have := hb2.size; omega))), Below.refl _ _, by have := hb2.size; have := hbY.size; omega, (Array.getElem?_eq_some_iff.1 r2).1⟩
  have HDI := Lib.hid (And.intro hlen hdi)
  have kx : Y.cell? ⟨w.heap.size + 1, 0, none⟩ = some (.int .i64 (xn : Int)) := cellR 0 r3 rfl
  rw [hY] at kx
  have HYE := Lib.hid hY
  have HB4 := Lib.hid hb4
  clear HD hr hg hlen hdi hb2 hbY r1 r2 r3 hY HK1 HB1 HP2 hb4
  gi_wp2
  rw [← HYE.out, ← HB4.out]
  clear kx
  refine ⟨trivial, callsIn_wide.2 ((HYF.out.2.2.2.2.2.2.2.2.1.nb xn HXL.out Y (Below.refl _ _)).mono ?_)⟩
  rintro e w3 ⟨gf, lb, rfl, ⟨heg, Nd, hNd, hSq⟩, hb3⟩
  have HDF : Hid (∀ b ∈ g :: b4 :: (w.heap.size + 1) :: Nd, Fq w.heap.size (b4 + 1) b w3) := by
    obtain ⟨y1, y2, y3, y4, y5, y6, y7, y8, y9, y10, y11, y12⟩ := HYF.out
    have hown : w3.cell? ⟨b4 + 1, 0, none⟩ = some (.slice none 0 0) := cellR 0 (heapB hb3 y3) rfl
    have hfq : ∀ b, w.heap.size ≤ b → b ≠ b4 + 1 → (∃ o, w3.heap[b]? = some o ∧ o.isCells = true) → Fq w.heap.size (b4 + 1) b w3 := fun b h1 h2 h3 => ⟨h3, h1, h2, fun v hv => by rw [hown] at hv; cases hv; simp [Value.ownBlock]⟩
    intro b hb
    simp only [List.mem_cons] at hb
    rcases hb with rfl | rfl | rfl | hb
    · exact hfq _ (by omega) (by omega) ⟨_, heapB hb3 y1, rfl⟩
    · exact hfq _ (by omega) (by omega) ⟨_, heapB hb3 y2, rfl⟩
    · exact hfq _ (by omega) (by omega) ⟨_, heapB hb3 y4, rfl⟩
    · obtain ⟨h1, h2⟩ := hNd b hb
      exact hfq _ (by omega) (by omega) h2
  have H3 : Hid (OutI w.heap.size (b4 + 1) (nearL dl xn []) w3 ∧ Below w.heap.size w w3 ∧ RowAt w3 g dl ∧ w3.heap[b4]? = some (.cells #[.slice (some ⟨g, 0, none⟩) sw sw] 22 (0, 0)) ∧ w3.heap[w.heap.size + 1]? = some (.cells #[.int .i64 (xn : Int)] 3 (0, 0)) ∧ b4 + 1 < w3.heap.size ∧ g < b4 ∧ w.heap.size + 1 < g) := by
    obtain ⟨y1, y2, y3, y4, y5, y6, y7, y8, y9, y10, y11, y12⟩ := HYF.out
    exact ⟨⟨_, heapB hb3 y3, ⟨rfl, .inl ⟨rfl, rfl⟩⟩, by simp [nearL]⟩, y5.trans (hb3.mono y5.size), y1.keep hb3, heapB hb3 y2, heapB hb3 y4, Nat.lt_of_lt_of_le y12 hb3.size, y7, y8⟩
  obtain ⟨NX, hNX⟩ : ∃ NX, NX = g :: b4 :: (w.heap.size + 1) :: Nd := ⟨_, rfl⟩
  have HNX : Hid (g ∈ NX ∧ b4 ∈ NX ∧ w.heap.size + 1 ∈ NX ∧ ∀ b ∈ Nd, b ∈ NX) := by rw [hNX]; exact ⟨by simp, by simp, by simp, fun b hb => by simp [hb]⟩
  rw [← hNX] at HDF
  clear hNX
  have HNL : Hid (∀ b ∈ NX, b < w3.heap.size) := fun b hb => by
    obtain ⟨ob, h1, _⟩ := (HDF.out b hb).1
    exact (Array.getElem?_eq_some_iff.1 h1).1
  have HSQ := Lib.hid (fun n => hSq n)
  have HLS : Hid ((nbS kind l (xn : Int)).length ≤ 100000) := HLN.out
  clear HYF hNd hSq hb3 HYE HB4 HK hmn hen
  gi_wp2
  refine range_r (L := nbS kind l (xn : Int)) (Nd := Nd) (by omega) rfl heg (HSQ.out _) (fun b hb => HNL.out b (HNX.out.2.2.2 b hb)) (fun _ => rfl) (fun pre W9 => ((OutI w.heap.size (b4 + 1) (nearL dl xn pre) W9 ∧ Below w.heap.size w W9) ∧ (b4 + 1 < W9.heap.size ∧ ∀ b ∈ NX, Fq w.heap.size (b4 + 1) b W9)) ∧ (RowAt W9 g dl ∧ W9.heap[b4]? = some (.cells #[.slice (some ⟨g, 0, none⟩) sw sw] 22 (0, 0)) ∧ W9.heap[w.heap.size + 1]? = some (.cells #[.int .i64 (xn : Int)] 3 (0, 0)))) ?hI ?grow ⟨⟨⟨H3.out.1, H3.out.2.1⟩, H3.out.2.2.2.2.2.1, HDF.out⟩, H3.out.2.2.1, H3.out.2.2.2.1, H3.out.2.2.2.2.1⟩ (fun z => ⟨#[Value.agg #[Value.int IntKind.i64 kind, Value.slice sa M sc, Value.int IntKind.i64 hosts], Value.int IntKind.i64 ((xn : Int)), Value.int IntKind.i64 ((yn : Int)), Value.pointer (some ⟨w.heap.size, 0, none⟩), Value.pointer (some ⟨w.heap.size + 1, 0, none⟩), undef, Value.slice none 0 0, Value.int IntKind.i64 (0), Value.iface ty rcv, Value.int IntKind.i64 (0), Value.pointer (some ⟨b4, 0, none⟩), Value.pointer (some ⟨b4 + 1, 0, none⟩), Value.int IntKind.i64 (z), Value.tuple #[Value.iface ty rcv, Value.int IntKind.i64 0], Value.agg #[Value.int IntKind.i64 kind, Value.slice sa M sc, Value.int IntKind.i64 hosts], Value.int IntKind.i64 ((xn : Int)), Value.int IntKind.i64 ((yn : Int)), Value.slice (some ⟨w.heap.size + 1 + 1, 0, none⟩) 2 2, Value.tuple #[Value.iface ty rcv, Value.int IntKind.i64 0], Value.iface ty rcv, Value.int IntKind.i64 (0), Value.int IntKind.i64 (0), Value.bool false, undef, Value.iface ty rcv, Value.int IntKind.i64 ((yn : Int)), Value.slice (some ⟨g, 0, none⟩) sw sw, Value.iface ty rcv, Value.int IntKind.i64 ((xn : Int)), Value.func (Fn.func gf) #[] lb, Value.int IntKind.i64 (z), undef, undef, undef, undef, undef, undef, undef, undef, undef, undef, undef, undef, undef, undef, undef], []⟩) ?assign ?body ?done
  case hI =>
    have h7 := H3.out.2.2.2.2.2.1
    have h8 := H3.out.2.1.size
    refine OwnFrom.and (OwnFrom.and (OwnFrom.and (OutI.own fun pre : List Int => nearL dl xn pre) (ownFrom_below (by omega) (by omega))) (Fq.own _ (by omega))) (own_of ?_ ?_)
    · rintro pre A B ⟨i1, i2, i3⟩ hb
      exact ⟨i1.keep hb, heapB hb i2, heapB hb i3⟩
    · rintro pre A b o o' ⟨i1, i2, i3⟩ hB ho hc
      have h9 := H3.out.2.2.2.2.2.2
      exact ⟨(World.putObj_heap_other (by omega)).trans i1, (World.putObj_heap_other (by omega)).trans i2, (World.putObj_heap_other (by omega)).trans i3⟩
  case grow =>
    rintro pre A B ⟨⟨⟨j1, j2⟩, j3, j4⟩, i1, i2, i3⟩ hb
    exact ⟨⟨⟨j1.below hb, j2.trans (hb.mono (by have := j2.size; omega))⟩, Nat.lt_of_lt_of_le j3 hb.size, fun b hm => (j4 b hm).grow j3 hb⟩, i1.keep hb, heapB hb i2, heapB hb i3⟩
  case assign =>
    intro q9 z W9 K hK
    gi_wp2
    exact hK
  case body =>
    rintro q9 pre z W8 ⟨⟨⟨j1, j2⟩, j3, j4⟩, i1, i2, i3⟩ hpre
    have hzm : z ∈ nbS kind l (xn : Int) := by obtain ⟨r, hr⟩ := hpre; rw [← hr]; simp
    obtain ⟨z0, z1⟩ := HSY.out xn HXL.out z hzm
    obtain ⟨zn, rfl⟩ := Int.eq_ofNat_of_zero_le z0
    have hzl : zn < sw := by omega
    have hxl := HXL.out
    obtain ⟨hdl, hdi⟩ := HDI.out
    obtain ⟨dx, hdx⟩ : ∃ dx, dx = dl.getD xn 0 := ⟨_, rfl⟩
    obtain ⟨dz, hdz⟩ : ∃ dz, dz = dl.getD zn 0 := ⟨_, rfl⟩
    have hb9 := HDS.out xn dx hxl (by rw [hdx]; exact hdi xn hxl)
    have cz := i1.cell zn (by rw [hdl]; exact hzl)
    have cx := i1.cell xn (by rw [hdl]; exact hxl)
    rw [show dl[zn]'(by rw [hdl]; exact hzl) = dz by rw [hdz]; simp [List.getD, hdl, hzl]] at cz
    rw [show dl[xn]'(by rw [hdl]; exact hxl) = dx by rw [hdx]; simp [List.getD, hdl, hxl]] at cx
    have HNS : Hid (nearL dl xn (pre ++ [(zn : Int)]) = nearL dl xn pre ++ (if (dz == dx - 1) = true then [(zn : Int)] else [])) := by
      show _ = _
      rw [nearL_snoc, hdx, hdz]; rfl
    have HES := Lib.hid (fun W => i64_sub dx 1 (by omega) (by omega) W)
    have HRL : Hid ((nearL dl xn pre).length ≤ 200000) := by
      have h1 : (nearL dl xn pre).length ≤ pre.length := List.length_filter_le _ _
      have h2 := hpre.length_le
      have h3 := HLS.out
      simp at h2
      show _ ≤ _
      omega
    have c4 := cellR 0 i2 rfl
    have cX := cellR 0 i3 rfl
    have HALL := Lib.hid (And.intro (And.intro (And.intro j1 j2) (And.intro j3 j4)) (And.intro i1 (And.intro i2 i3)))
    clear j1 j2 j3 j4 i1 i2 i3 hpre hzm z0 z1 hdx hdz hdi hdl hb9
    gi_wp2
    refine region_det (by kernel_rfl) (I := fun listed a' w' => w' = W8.drew ∧ a' = ⟨#[Value.agg #[Value.int IntKind.i64 kind, Value.slice sa M sc, Value.int IntKind.i64 hosts], Value.int IntKind.i64 ((xn : Int)), Value.int IntKind.i64 ((yn : Int)), Value.pointer (some ⟨w.heap.size, 0, none⟩), Value.pointer (some ⟨w.heap.size + 1, 0, none⟩), undef, Value.slice none 0 0, Value.int IntKind.i64 (0), Value.iface ty rcv, Value.int IntKind.i64 (0), Value.pointer (some ⟨b4, 0, none⟩), Value.pointer (some ⟨b4 + 1, 0, none⟩), Value.int IntKind.i64 ((zn : Int)), Value.tuple #[Value.iface ty rcv, Value.int IntKind.i64 0], Value.agg #[Value.int IntKind.i64 kind, Value.slice sa M sc, Value.int IntKind.i64 hosts], Value.int IntKind.i64 ((xn : Int)), Value.int IntKind.i64 ((yn : Int)), Value.slice (some ⟨w.heap.size + 1 + 1, 0, none⟩) 2 2, Value.tuple #[Value.iface ty rcv, Value.int IntKind.i64 0], Value.iface ty rcv, Value.int IntKind.i64 (0), Value.int IntKind.i64 (0), Value.bool false, undef, Value.iface ty rcv, Value.int IntKind.i64 ((yn : Int)), Value.slice (some ⟨g, 0, none⟩) sw sw, Value.iface ty rcv, Value.int IntKind.i64 ((xn : Int)), Value.func (Fn.func gf) #[] lb, Value.int IntKind.i64 ((zn : Int)), (if listed.getD 0 false = true then Value.slice (some ⟨g, 0, none⟩) sw sw else undef), (if listed.getD 1 false = true then Value.int IntKind.i64 ((zn : Int)) else undef), (if listed.getD 2 false = true then Value.pointer (some ⟨g, zn, none⟩) else undef), (if listed.getD 3 false = true then Value.int IntKind.i64 (dz) else undef), (if listed.getD 4 false = true then Value.slice (some ⟨g, 0, none⟩) sw sw else undef), (if listed.getD 5 false = true then Value.int IntKind.i64 ((xn : Int)) else undef), (if listed.getD 6 false = true then Value.pointer (some ⟨g, xn, none⟩) else undef), (if listed.getD 7 false = true then Value.int IntKind.i64 (dx) else undef), (if listed.getD 8 false = true then Value.int IntKind.i64 (dx - 1) else undef), (if listed.getD 9 false = true then Value.bool (dz == dx - 1) else undef), undef, undef, undef, undef, undef], []⟩) (hup_check (by kernel_rfl)) ?h0 ?step ?fin
    case h0 => exact ⟨rfl, rfl⟩
    case step =>
      intro listed a' w' i hs hbi hdep hi ⟨IW, ha⟩
      obtain ⟨ls⟩ := listed
      match ls, hs with
      | [x0, x1, x2, x3, x4, x5, x6, x7, x8, x9], _ =>
      subst ha
      have hi' : i = 0 ∨ i = 1 ∨ i = 2 ∨ i = 3 ∨ i = 4 ∨ i = 5 ∨ i = 6 ∨ i = 7 ∨ i = 8 ∨ i = 9 := by simp at hi; omega
      subst IW
      rcases hi' with rfl | rfl | rfl | rfl | rfl | rfl | rfl | rfl | rfl | rfl
      · obtain rfl : x0 = false := by simpa using hbi
        refine wpOpR_plain (v := Value.slice (some ⟨g, 0, none⟩) sw sw) (w' := W8.drew) rfl rfl (fun c hc => by cases hc) ?_ ?_
        · go_simp
        exact ⟨rfl, rfl⟩
      · obtain rfl : x1 = false := by simpa using hbi
        refine wpOpR_plain (v := Value.int IntKind.i64 ((zn : Int))) (w' := W8.drew) rfl rfl (fun c hc => by cases hc) ?_ ?_
        · go_simp
        exact ⟨rfl, rfl⟩
      · obtain rfl : x2 = false := by simpa using hbi
        obtain rfl : x0 = true := hdep _ rfl ⟨0, .data⟩ (by simp) rfl
        obtain rfl : x1 = true := hdep _ rfl ⟨1, .data⟩ (by simp) rfl
        refine wpOpR_plain (v := Value.pointer (some ⟨g, zn, none⟩)) (w' := W8.drew) rfl rfl (fun c hc => by cases hc) ?_ ?_
        · go_simp
        exact ⟨rfl, rfl⟩
      · obtain rfl : x3 = false := by simpa using hbi
        obtain rfl : x2 = true := hdep _ rfl ⟨2, .data⟩ (by simp) rfl
        refine wpOpR_plain (v := Value.int IntKind.i64 (dz)) (w' := W8.drew) rfl rfl (fun c hc => by cases hc) ?_ ?_
        · go_simp
        exact ⟨rfl, rfl⟩
      · obtain rfl : x4 = false := by simpa using hbi
        refine wpOpR_plain (v := Value.slice (some ⟨g, 0, none⟩) sw sw) (w' := W8.drew) rfl rfl (fun c hc => by cases hc) ?_ ?_
        · go_simp
        exact ⟨rfl, rfl⟩
      · obtain rfl : x5 = false := by simpa using hbi
        refine wpOpR_plain (v := Value.int IntKind.i64 ((xn : Int))) (w' := W8.drew) rfl rfl (fun c hc => by cases hc) ?_ ?_
        · go_simp
        exact ⟨rfl, rfl⟩
      · obtain rfl : x6 = false := by simpa using hbi
        obtain rfl : x4 = true := hdep _ rfl ⟨4, .data⟩ (by simp) rfl
        obtain rfl : x5 = true := hdep _ rfl ⟨5, .data⟩ (by simp) rfl
        refine wpOpR_plain (v := Value.pointer (some ⟨g, xn, none⟩)) (w' := W8.drew) rfl rfl (fun c hc => by cases hc) ?_ ?_
        · go_simp
        exact ⟨rfl, rfl⟩
      · obtain rfl : x7 = false := by simpa using hbi
        obtain rfl : x6 = true := hdep _ rfl ⟨6, .data⟩ (by simp) rfl
        refine wpOpR_plain (v := Value.int IntKind.i64 (dx)) (w' := W8.drew) rfl rfl (fun c hc => by cases hc) ?_ ?_
        · go_simp
        exact ⟨rfl, rfl⟩
      · obtain rfl : x8 = false := by simpa using hbi
        obtain rfl : x7 = true := hdep _ rfl ⟨7, .data⟩ (by simp) rfl
        refine wpOpR_plain (v := Value.int IntKind.i64 (dx - 1)) (w' := W8.drew) rfl rfl (fun c hc => by cases hc) (sem_bin (vx := Value.int IntKind.i64 (dx)) (vy := Value.int IntKind.i64 (1)) rfl rfl rfl rfl (HES.out _)) ?_
        exact ⟨rfl, rfl⟩
      · obtain rfl : x9 = false := by simpa using hbi
        obtain rfl : x3 = true := hdep _ rfl ⟨3, .data⟩ (by simp) rfl
        obtain rfl : x8 = true := hdep _ rfl ⟨8, .data⟩ (by simp) rfl
        refine wpOpR_plain (v := Value.bool (dz == dx - 1)) (w' := W8.drew) rfl rfl (fun c hc => by cases hc) ?_ ?_
        · go_simp
        exact ⟨rfl, rfl⟩
    case fin =>
    intro listed a' W9 hs hall ⟨IW, ha⟩
    obtain ⟨ls⟩ := listed
    match ls, hs with
    | [x0, x1, x2, x3, x4, x5, x6, x7, x8, x9], _ =>
    obtain rfl : x0 = true := hall 0 (by simp)
    obtain rfl : x1 = true := hall 1 (by simp)
    obtain rfl : x2 = true := hall 2 (by simp)
    obtain rfl : x3 = true := hall 3 (by simp)
    obtain rfl : x4 = true := hall 4 (by simp)
    obtain rfl : x5 = true := hall 5 (by simp)
    obtain rfl : x6 = true := hall 6 (by simp)
    obtain rfl : x7 = true := hall 7 (by simp)
    obtain rfl : x8 = true := hall 8 (by simp)
    obtain rfl : x9 = true := hall 9 (by simp)
    subst ha
    subst IW
    have HD8 : Hid (((OutI w.heap.size (b4 + 1) (nearL dl xn pre) W8.drew ∧ Below w.heap.size w W8.drew) ∧ (b4 + 1 < W8.drew.heap.size ∧ ∀ b ∈ NX, Fq w.heap.size (b4 + 1) b W8.drew)) ∧ (RowAt W8.drew g dl ∧ W8.drew.heap[b4]? = some (.cells #[.slice (some ⟨g, 0, none⟩) sw sw] 22 (0, 0)) ∧ W8.drew.heap[w.heap.size + 1]? = some (.cells #[.int .i64 (xn : Int)] 3 (0, 0)))) := by
      obtain ⟨⟨⟨j1, j2⟩, j3, j4⟩, i1, i2, i3⟩ := HALL.out
      have hb : Below W8.heap.size W8 W8.drew := (Below.refl _ _).drew
      exact ⟨⟨⟨j1.below hb, j2.drew⟩, j3, fun b hm => (j4 b hm).grow j3 hb⟩, i1, i2, i3⟩
    have HKD : Hid (KeepsFrom w3.heap.size W8 W8.drew ∧ ∀ b : Nat, W8.drew.heap[b]? = W8.heap[b]?) := ⟨(KeepsOthers.drew W8).from _, fun _ => rfl⟩
    clear HALL c4 cX cz cx hs hall
    by_cases hq : (dz == dx - 1) = true
    · rw [if_pos hq] at HNS
      generalize W8.drew = W9 at *
      obtain ⟨⟨⟨j1, j2⟩, j3, j4⟩, i1, i2, i3⟩ := HD8.out
      obtain ⟨v, gA, cap, wA, hv, hvA, hrun, hO4, hk4, hq4⟩ := j1.append (zn : Int) HRL.out (by have := j2.size; omega) (by have := H3.out.2.2.2.2.2.2; omega)
      have cv := hv.cell
      have cA := hvA.cell
      have fA := hvA.frozen
      have lA := hvA.lt
      rw [← HNS.out] at hO4
      have HFI := Lib.hid (And.intro hk4 (And.intro hq4 hO4))
      clear hk4 hq4 hO4 j1 j2 j3 j4 i1 i2 i3
      gi_wp2_with (gi_at_builtin; refine wpListIn_append_run rfl _ _ 22 rfl rfl rfl hrun ?_)
      obtain ⟨⟨⟨j1, j2⟩, j3, j4⟩, i1, i2, i3⟩ := HD8.out
      obtain ⟨hk4, hq4, hO4⟩ := HFI.out
      exact ⟨HKD.out.1.trans (hk4.from _), fun b hb => ((hq4.2 b (j4 b (HNX.out.2.2.2 b hb))).1).trans (HKD.out.2 b), ⟨⟨hO4, j2.trans hq4.1⟩, Nat.lt_of_lt_of_le j3 hk4.size, fun b hb => (hq4.2 b (j4 b hb)).2⟩, ((hq4.2 g (j4 g HNX.out.1)).1).trans i1, ((hq4.2 b4 (j4 b4 HNX.out.2.1)).1).trans i2, ((hq4.2 (w.heap.size + 1) (j4 (w.heap.size + 1) HNX.out.2.2.1)).1).trans i3⟩
    · rw [if_neg hq, List.append_nil] at HNS
      have hq2 : (dz == dx - 1) = false := by simpa using hq
      generalize W8.drew = W9 at *
      rw [← HNS.out] at HD8
      gi_wp2
      exact ⟨HKD.out.1, fun b _ => HKD.out.2 b, HD8.out⟩
  case done =>
    rintro D W9 hD ⟨⟨⟨⟨v, hv, hrow, hnil⟩, hB9⟩, _⟩, _⟩ hK
    have cv := hv.cell
    have HF := Lib.hid (And.intro hrow hB9)
    clear hrow hB9
    gi_wp2
    refine ⟨by simp, .inl ⟨_, _, rfl, run_takeDeferred hK, ?_⟩⟩
    have h7 := H3.out.2.1.size
    refine ⟨.tuple #[v, .int .i64 0], by simp [results, Tryz.results18, go_sem], v, dl, rfl, fun a ha => HDI.out.2 a (by have := HSE.out; omega), ⟨ownsRow_putObj HF.out.1 _ hK rfl, ?_⟩, HF.out.2.trans ⟨rfl, rfl, rfl, by simp [World.putObj], fun k hk => World.putObj_heap_other (by omega)⟩⟩
    have h1 : (nearL dl xn (nbS kind l (xn : Int))).length ≤ (nbS kind l (xn : Int)).length := List.length_filter_le _ _
    have h2 := HLS.out
    omega
end Go.Proofs.YtbhkenphcahifaaGreat

namespace Go.Proofs.YtbhkenphcahifaaGreat
open Go.RowKit Go.Shelf
attribute [local go_sem] Oper.semAt_some
set_option maxRecDepth 100000
set_option maxHeartbeats 4000000

theorem Ints.move {w w' : World} {a : Option Addr} {l : List Int} (h : Ints w a l) (hb : ∀ b, a.map (·.block) = some b → b < w.heap.size → w'.heap[b]? = w.heap[b]?) : Ints w' a l :=
  ⟨h.len, fun hl => by
    obtain ⟨b, off, ha, hc⟩ := h.at_ hl
    refine ⟨b, off, ha, fun j hj => ?_⟩
    have hlt : b < w.heap.size := block_lt_of_cell (hc j hj)
    exact (World.cell?_of_block (a := ⟨b, off + j, none⟩) (hb b (by rw [ha]; rfl) hlt)).trans (hc j hj)⟩
/-- the reference's search: the distances' row, the queue, the box -/
structure DS (w : World) (g N : Nat) (ROW : Array Value) (L : List (Int × Nat)) (q : List Int) (v : Value) (wr : World) : Prop where
  row : RowAt wr g (valsL N L)
  que : NewInts (g + 1) wr v q
  bel : Below w.heap.size w wr
  box : wr.heap[w.heap.size]? = some (.cells ROW 34 (0, 0))
  lt : w.heap.size < g
theorem DS.later {w wr w' : World} {g N : Nat} {ROW : Array Value} {L : List (Int × Nat)} {q : List Int} {v : Value} (h : DS w g N ROW L q v wr) (hb : Below wr.heap.size wr w') : DS w g N ROW L q v w' :=
  ⟨h.row.keep hb, h.que.keep2 hb, h.bel.trans (hb.mono h.bel.size), heapB hb h.box, h.lt⟩
theorem own_ge {B : Nat} {w : World} {v : Value} {l : List Int} (h : NewInts B w v l) {b : Nat} (hb : v.ownBlock = some b) : B ≤ b ∧ b < w.heap.size := h.own.lt b hb
theorem DS.store {w wr : World} {g N : Nat} {ROW : Array Value} {L : List (Int × Nat)} {q : List Int} {v : Value} (h : DS w g N ROW L q v wr) {z s : Nat} (hz : (z : Int) ∉ L.map (·.1)) : DS w g N ROW (L ++ [((z : Int), s)]) q v (wr.setCell ⟨g, z, none⟩ (.int .i64 (s : Int))) := by
  have ho : ∀ b, b ≠ g → (wr.setCell ⟨g, z, none⟩ (.int .i64 (s : Int))).heap[b]? = wr.heap[b]? := fun b hb => heap_setCell_other _ _ _ _ hb
  refine ⟨by rw [← vals_set hz]; exact h.row.set z (s : Int), ⟨?_, h.que.len⟩, h.bel.setCell (p := ⟨g, z, none⟩) (Nat.le_of_lt h.lt) _, (ho _ (by have := h.lt; omega)).trans h.box, h.lt⟩
  obtain ⟨h1, h2⟩ := h.que.own
  refine ⟨h1, h2.imp id ?_⟩
  rintro ⟨b, cap, cur, hv, hB, hg, hr⟩
  exact ⟨b, cap, cur, hv, hB, (ho b (by omega)).trans hg, hr⟩
theorem DS.push {w wr : World} {g N : Nat} {ROW : Array Value} {L : List (Int × Nat)} {q : List Int} {v : Value} (h : DS w g N ROW L q v wr) (s : Int) (hl : q.length ≤ 1000000) :
    ∃ v' w2, (Builtin.append_ #[22, 22] 22 #[v, .slice (some ⟨wr.heap.size, 0, none⟩) 1 1]).run Tryz.prog (wr.alloc (.cells #[.int .i64 s] 3)) = .ok v' w2 ∧ DS w g N ROW L (q ++ [s]) v' w2 ∧ (∀ b, b < wr.heap.size → v.ownBlock ≠ some b → w2.heap[b]? = wr.heap[b]? ∧ v'.ownBlock ≠ some b) ∧ wr.heap.size ≤ w2.heap.size := by
  have hgl := h.row.lt
  obtain ⟨b, cap, w2, hr, hn, hg, hat, hz⟩ := app_one h.que s hl (by omega)
  have hal : Below wr.heap.size wr (wr.alloc (.cells #[.int .i64 s] 3)) := (Below.refl _ _).alloc (Nat.le_refl _) _
  have hne : ∀ k, k < wr.heap.size → v.ownBlock ≠ some k → w2.heap[k]? = wr.heap[k]? := fun k hk hv => (hg.block k (by simp; omega) (fun e => hv e.symm)).trans (hal.block k hk)
  have hbel : Below (g + 1) wr w2 := ⟨hg.os.trans hal.os, hg.tape.trans hal.tape, hg.output.trans hal.output, by have := hal.size; omega, fun k hk => hne k (by omega) (fun e => by have := (own_ge h.que e).1; omega)⟩
  have hlt := h.lt
  refine ⟨_, w2, hr, ⟨?_, hn, h.bel.trans (hbel.mono (by omega)), (hbel.block _ (by omega)).trans h.box, h.lt⟩, fun k hk hv => ⟨hne k hk hv, ?_⟩, by omega⟩
  · exact (hbel.block g (by omega)).trans h.row
  · rintro hk2
    obtain rfl : b = k := by simpa [Value.ownBlock] using hk2
    rcases hat with e | e
    · exact hv e
    · omega
/-- the reference's distances -/
theorem rDistances_any {w : World} {sa : Option Addr} {l : List Int} (h : Ints w sa l) (sc : Nat) {kind hosts : Int} (hv : vOk kind l hosts) {N y : Nat} (hN : swI kind l = (N : Int)) (hy : y < N) :
    Calls Tryz.prog 59 #[.agg #[.int .i64 kind, .slice sa l.length sc, .int .i64 hosts], .int .i64 (y : Int)] w fun e w' => ∃ g dl, e = .returned (.slice (some ⟨g, 0, none⟩) N N) ∧ RowAt w' g dl ∧ w.heap.size ≤ g ∧ dl.length = N ∧ (∀ x : Nat, x < N → DistAt (nbS kind l) (y : Int) (x : Int) (dl.getD x 0)) ∧ Below w.heap.size w w' := by
  have HB := Lib.hid ((Below.refl w.heap.size w).alloc (Nat.le_refl _) (.cells #[.int .i64 kind, .slice sa l.length sc, .int .i64 hosts] 34))
  have Q0 := Lib.hid (heap_alloc_new w (.cells #[.int .i64 kind, .slice sa l.length sc, .int .i64 hosts] 34))
  have HZ : Hid ((w.alloc (.cells #[.int .i64 kind, .slice sa l.length sc, .int .i64 hosts] 34)).heap.size = w.heap.size + 1) := by show _ = _; simp
  have hsw := sw_max hv
  rw [hN] at hsw
  have HSW : Hid (∀ W, Below w.heap.size w W → Calls Tryz.prog 51 #[.agg #[.int .i64 kind, .slice sa l.length sc, .int .i64 hosts]] W fun e w' => e = .returned (.int .i64 (N : Int)) ∧ Below W.heap.size W w') := fun W hb => by
    have := rSwitches_any (h.keep hb) sc kind hosts hv
    rwa [hN] at this
  have HNB : Hid (∀ W, Below w.heap.size w W → ∀ x : Int, 0 ≤ x → x < (N : Int) → Calls Tryz.prog 52 #[.agg #[.int .i64 kind, .slice sa l.length sc, .int .i64 hosts], .int .i64 x] W fun e w' => ∃ v, e = .returned v ∧ NewInts W.heap.size w' v (nbS kind l x) ∧ Below W.heap.size W w') := fun W hb x x0 x1 => rNeighbors_any (h.keep hb) sc hv x0 (by rw [hN]; exact x1)
  have HIN : Hid (∀ x : Int, 0 ≤ x → x < (N : Int) → ∀ z ∈ nbS kind l x, 0 ≤ z ∧ z < (N : Int)) := fun x x0 x1 z hz => by
    have := (net_sym hv x0 (by rw [hN]; exact x1) z hz).1
    rw [hN] at this; exact this
  have HN : Hid (N ≤ 256) := by show _ ≤ _; omega
  have HLN : Hid (∀ x, (nbS kind l x).length ≤ 100000) := fun x => nbS_len hv x
  have hmk := make_ints N (by omega)
  have c0 := cellR 0 Q0.out rfl
  have HBI := Lib.hid (BInv.init (nbS kind l) (N := N) (y := (y : Int)) (by omega) (by omega))
  clear h hv hN hsw
  generalize nbS kind l = NB at *
  go_enter Tryz.func59, Tryz.ntmps59
  go_wp2_with fail
  generalize w.alloc (.cells #[.int .i64 kind, .slice sa l.length sc, .int .i64 hosts] 34) = X at *
  refine (HSW.out _ HB.out).mono ?_
  rintro e w1 ⟨rfl, hb1⟩
  replace Q0 := Lib.hid (heapB hb1 Q0.out)
  replace HB := Lib.hid (HB.out.trans (hb1.mono HB.out.size))
  have HG : Hid (w.heap.size < w1.heap.size) := by show _ < _; have := hb1.size; have := HZ.out; omega
  clear hb1 HZ c0 HSW
  have hm1 := hmk w1
  obtain ⟨g, hg⟩ : ∃ g, g = w1.heap.size := ⟨_, rfl⟩
  obtain ⟨Y, hY⟩ : ∃ Y, Y = w1.alloc (.cells (rowA (List.replicate N 0)) 3) := ⟨_, rfl⟩
  have hbY : Below w1.heap.size w1 Y := by rw [hY]; exact (Below.refl _ _).alloc (Nat.le_refl _) _
  have qg : RowAt Y g (List.replicate N 0) := by rw [hY, hg]; exact heap_alloc_new w1 _
  have HF0 : Hid (RowAt Y g (fillL N 0) ∧ Below w.heap.size w Y ∧ Y.heap[w.heap.size]? = some (.cells #[.int .i64 kind, .slice sa l.length sc, .int .i64 hosts] 34 (0, 0)) ∧ w.heap.size < g) := by
    rw [fill_zero]; exact ⟨qg, HB.out.trans (hbY.mono HB.out.size), heapB hbY Q0.out, by have := HG.out; omega⟩
  have HYE := Lib.hid hY
  have HGE := Lib.hid hg
  clear HB Q0 HG hbY qg hY hg
  go_wp2_with fail
  rw [← HYE.out, ← HGE.out]
  clear hm1 hmk HYE HGE
  go_loopw [6] (fun iv wr => ∃ (m : Nat), m ≤ N ∧ iv = .int .i64 (m : Int) ∧ Hid (RowAt wr g (fillL N m) ∧ Below w.heap.size w wr ∧ wr.heap[w.heap.size]? = some (.cells #[.int .i64 kind, .slice sa l.length sc, .int .i64 hosts] 34 (0, 0)) ∧ w.heap.size < g)) (fun iv _ => N - (intOf iv).toNat)
  case atStart => exact ⟨0, Nat.zero_le _, rfl, HF0⟩
  case round =>
    clear HF0
    obtain ⟨m, hm, rfl, HR⟩ := hrel
    obtain ⟨r1, r2, r3, r4⟩ := HR.out
    by_cases hlt : m < N
    · have d1 : decide ((m : Int) < (N : Int)) = true := decide_eq_true (by omega)
      have cm := r1.cell m (by rw [fill_len]; exact hlt)
      have fm := r1.open_ m
      have lm := r1.lt
      have hn6 := HN.out
      have HS : Hid (RowAt (wr.setCell ⟨g, m, none⟩ (.int .i64 (-1))) g (fillL N (m + 1)) ∧ Below w.heap.size w (wr.setCell ⟨g, m, none⟩ (.int .i64 (-1))) ∧ (wr.setCell ⟨g, m, none⟩ (.int .i64 (-1))).heap[w.heap.size]? = some (.cells #[.int .i64 kind, .slice sa l.length sc, .int .i64 hosts] 34 (0, 0)) ∧ w.heap.size < g) := by
        refine ⟨?_, r2.setCell (p := ⟨g, m, none⟩) (Nat.le_of_lt r4) _, (heap_setCell_other _ _ _ _ (show w.heap.size ≠ g by omega)).trans r3, r4⟩
        have := r1.set m (-1)
        rwa [fill_set hlt] at this
      clear r1 r2 r3 r4 HR
      go_wp2_with fail
      go_roundw
      case rel => exact ⟨m + 1, by omega, by go_num, HS⟩
      case measure => simp [intOf]; omega
    · obtain rfl : m = N := by omega
      have d1 : decide ((m : Int) < (m : Int)) = false := decide_eq_false (by omega)
      have hvn : RowAt wr g (valsL m []) := by rw [vals_nil]; exact r1
      have cm := r1.cell y (by rw [fill_len]; exact hy)
      have fm := r1.open_ y
      have lm := r1.lt
      obtain ⟨W2, hW2⟩ : ∃ W2, W2 = wr.setCell ⟨g, y, none⟩ (.int .i64 0) := ⟨_, rfl⟩
      have h2 : DS w g m #[.int .i64 kind, .slice sa l.length sc, .int .i64 hosts] [((y : Int), 0)] [] (.slice none 0 0) W2 := by
        rw [hW2]
        exact (show DS w g m #[.int .i64 kind, .slice sa l.length sc, .int .i64 hosts] [] [] (.slice none 0 0) wr from ⟨hvn, ⟨World.ownsRow_nil _ _ _ _, by simp⟩, r2, r3, r4⟩).store (z := y) (s := 0) (by simp)
      have hr1 : RowAt (W2.alloc (.cells #[.int .i64 (y : Int)] 3)) W2.heap.size [(y : Int)] := by
        have := heap_alloc_new W2 (.cells #[.int .i64 (y : Int)] 3)
        unfold RowAt rowA; exact this
      have H3 : Hid (DS w g m #[.int .i64 kind, .slice sa l.length sc, .int .i64 hosts] [((y : Int), 0)] ([((y : Int), 0)].map (·.1)) (.slice (some ⟨W2.heap.size, 0, none⟩) 1 1) (W2.alloc (.cells #[.int .i64 (y : Int)] 3))) := by
        have hb : Below W2.heap.size W2 (W2.alloc (.cells #[.int .i64 (y : Int)] 3)) := (Below.refl _ _).alloc (Nat.le_refl _) _
        have h3 := h2.later hb
        exact ⟨h3.row, hr1.own (by have := h2.row.lt; omega) (by simp), h3.bel, h3.box, h3.lt⟩
      clear hvn h2 hr1 r1 r2 r3 r4 HR
      go_wp2_with fail
      rw [hW2] at H3
      clear hW2 cm fm lm hlt hm d1
      obtain ⟨zs, hzs⟩ : ∃ zs, zs = wr.heap.size := ⟨_, rfl⟩
      rw [← hzs]
      go_loopw [7, 8] (fun v tv wr => ∃ (L : List (Int × Nat)) (t : Nat), tv = .int .i64 (t : Int) ∧ Hid (DS w g m #[.int .i64 kind, .slice sa l.length sc, .int .i64 hosts] L (L.map (·.1)) v wr ∧ BInv NB m (y : Int) L t)) (fun _ tv _ => m - (intOf tv).toNat)
      case atStart => exact ⟨[((y : Int), 0)], 0, rfl, ⟨by rw [hzs]; simpa using H3.out, HBI.out⟩⟩
      case round =>
        clear H3 HBI hzs
        obtain ⟨L, t, rfl, HD⟩ := hrel
        have hlen := HD.out.2.len
        obtain ⟨aq, cq, rfl, hiq⟩ := HD.out.1.que.ints
        rw [List.length_map]
        have hn6 := HN.out
        by_cases hlt : t < L.length
        · obtain ⟨gq, oq, rfl, hcq⟩ := hiq.at_ (ne_nil_of_lt (k := t) (by simpa using hlt))
          have cqt := hcq t (by simpa using hlt)
          obtain ⟨a, ha⟩ : ∃ a, L[t]? = some a := ⟨L[t], by simp [hlt]⟩
          obtain ⟨ax, sa0⟩ := a
          rw [show (L.map (·.1))[t]'(by simpa using hlt) = ax by have h3 := (List.getElem?_eq_some_iff.1 ha).2; rw [List.getElem_map, h3]] at cqt
          obtain ⟨hx0, hx1⟩ := HD.out.2.rng _ (List.mem_of_getElem? ha)
          simp only at hx0 hx1
          obtain ⟨xn, rfl⟩ := Int.eq_ofNat_of_zero_le hx0
          have d1 : decide ((t : Int) < (L.length : Int)) = true := decide_eq_true (by omega)
          have HQT := Lib.hid cqt
          have HA := Lib.hid ha
          have HRS := Lib.hid (And.intro hx0 hx1)
          clear hcq hiq ha hx0 hx1
          go_wp2_with fail
          have hb1 : ((L.length : Int) ≤ (t : Int)) = False := by simp; omega
          refine (wpIn_wide (n := 0)).1 ?_
          refine region_det (by kernel_rfl) (I := fun listed a' w' => ∃ nv : Value, Hid (Below wr.heap.size wr w') ∧ Hid (listed.getD 5 false = true → NewInts wr.heap.size w' nv (NB (xn : Int))) ∧ Hid (listed.getD 6 false = true → listed.getD 5 false = true) ∧ a' = ⟨#[Value.agg #[Value.int IntKind.i64 kind, Value.slice sa l.length sc, Value.int IntKind.i64 hosts], Value.int IntKind.i64 (y : Int), Value.pointer (some (⟨w.heap.size, 0, none⟩)), undef, Value.slice none 0 0, Value.slice (some (⟨g, 0, none⟩)) m m, Value.int IntKind.i64 (m : Int), Value.slice (some (⟨gq, oq, none⟩)) L.length cq, Value.int IntKind.i64 (t : Int), (if listed.getD 6 false = true then nv else u9), u10, Value.agg #[Value.int IntKind.i64 kind, Value.slice sa l.length sc, Value.int IntKind.i64 hosts], Value.int IntKind.i64 (m : Int), Value.slice (some (⟨g, 0, none⟩)) m m, Value.int IntKind.i64 (m : Int), Value.slice (some (⟨g, 0, none⟩)) m m, Value.int IntKind.i64 (m : Int), Value.bool false, u18, u19, u20, u21, u22, Value.slice (some (⟨g, 0, none⟩)) m m, Value.int IntKind.i64 (y : Int), Value.pointer (some (⟨g, y, none⟩)), Value.int IntKind.i64 (y : Int), Value.slice (some (⟨zs, 0, none⟩)) 1 1, Value.int IntKind.i64 (t : Int), Value.slice (some (⟨gq, oq, none⟩)) L.length cq, Value.int IntKind.i64 (L.length : Int), Value.bool true, u32, u33, (if listed.getD 0 false = true then Value.agg #[.int .i64 kind, .slice sa l.length sc, .int .i64 hosts] else u34), (if listed.getD 1 false = true then Value.slice (some ⟨gq, oq, none⟩) L.length cq else u35), (if listed.getD 2 false = true then Value.int IntKind.i64 ((t : Int)) else u36), (if listed.getD 3 false = true then Value.pointer (some ⟨gq, oq + t, none⟩) else u37), (if listed.getD 4 false = true then Value.int IntKind.i64 ((xn : Int)) else u38), (if listed.getD 5 false = true then nv else u39), u40, u41, u42, u43, u44, u45, u46, u47, u48, u49, u50, u51, u52, u53, u54, u55, u56, u57, u58, u59, u60, u61, u62, u63, u64, u65, u66, u67, u68, u69, u70, u71, u72, u73, u74, undef], []⟩) (hup_check (by kernel_rfl)) ?h0 ?step ?fin
          case h0 => exact ⟨undef, (Below.refl _ _).drew, (fun h => by simp at h), (fun h => by simp at h), rfl⟩
          case step =>
            intro listed a' w' i hs hbi hdep hi ⟨nv, IB, I1, J6, ha⟩
            obtain ⟨ls⟩ := listed
            match ls, hs with
            | [x0, x1, x2, x3, x4, x5, x6], _ =>
            subst ha
            have hi' : i = 0 ∨ i = 1 ∨ i = 2 ∨ i = 3 ∨ i = 4 ∨ i = 5 ∨ i = 6 := by simp at hi; omega
            rcases hi' with rfl | rfl | rfl | rfl | rfl | rfl | rfl
            · obtain rfl : x0 = false := by simpa using hbi
              refine wpOpIn_load_row rfl rfl 34 _ rfl w.heap.size rfl 34 _ _ _ (heapB IB.out HD.out.1.box) Tryz.underlying34 rfl info34 ?_
              exact ⟨nv, IB, I1, J6, rfl⟩
            · obtain rfl : x1 = false := by simpa using hbi
              refine wpOpIn_plain rfl rfl rfl ?_
              exact ⟨nv, IB, I1, J6, rfl⟩
            · obtain rfl : x2 = false := by simpa using hbi
              refine wpOpIn_plain rfl rfl rfl ?_
              exact ⟨nv, IB, I1, J6, rfl⟩
            · obtain rfl : x3 = false := by simpa using hbi
              obtain rfl : x1 = true := hdep _ rfl ⟨1, .data⟩ (by simp) rfl
              obtain rfl : x2 = true := hdep _ rfl ⟨2, .data⟩ (by simp) rfl
              refine wpOpIn_plain (v := Value.pointer (some ⟨gq, oq + t, none⟩)) (w' := w') rfl rfl (by simp [Oper.semAt, execOp, go_sem, hlt, hb1]) ?_
              exact ⟨nv, IB, I1, J6, rfl⟩
            · obtain rfl : x4 = false := by simpa using hbi
              obtain rfl : x3 = true := hdep _ rfl ⟨3, .data⟩ (by simp) rfl
              have c9 := kcell IB.out HQT.out
              refine wpOpIn_plain (v := Value.int IntKind.i64 ((xn : Int))) (w' := w') rfl rfl (by simp [Oper.semAt, execOp, go_sem, c9]) ?_
              exact ⟨nv, IB, I1, J6, rfl⟩
            · obtain rfl : x5 = false := by simpa using hbi
              obtain rfl : x0 = true := hdep _ rfl ⟨0, .data⟩ (by simp) rfl
              obtain rfl : x4 = true := hdep _ rfl ⟨4, .data⟩ (by simp) rfl
              obtain rfl : x6 = false := Bool.eq_false_iff.2 fun h => by have := J6.out h; cases this
              refine wpOpIn_call (args := #[Value.agg #[.int .i64 kind, .slice sa l.length sc, .int .i64 hosts], Value.int IntKind.i64 ((xn : Int))]) rfl rfl (sem_call2 rfl rfl rfl (enters_of Tryz.func52 (by kernel_rfl) rfl)) (HNB.out w' (HD.out.1.bel.trans (IB.out.mono HD.out.1.bel.size)) (xn : Int) HRS.out.1 HRS.out.2) ?_
              rintro e V ⟨nv2, rfl, hn, hb⟩
              exact ⟨_, rfl, nv2, (IB.out.trans (hb.mono IB.out.size)), (fun _ => ⟨ownsRow_low hn.own IB.out.size, hn.len⟩), (fun _ => rfl), rfl⟩
            · obtain rfl : x6 = false := by simpa using hbi
              obtain rfl : x5 = true := hdep _ rfl ⟨5, .data⟩ (by simp) rfl
              refine wpOpIn_plain rfl rfl rfl ?_
              exact ⟨nv, IB, I1, (fun _ => rfl), rfl⟩
          case fin =>
          intro listed a' w5 hs hall ⟨nv, IB, I1, J6, ha⟩
          obtain ⟨ls⟩ := listed
          match ls, hs with
          | [x0, x1, x2, x3, x4, x5, x6], _ =>
          obtain rfl : x0 = true := hall 0 (by simp)
          obtain rfl : x1 = true := hall 1 (by simp)
          obtain rfl : x2 = true := hall 2 (by simp)
          obtain rfl : x3 = true := hall 3 (by simp)
          obtain rfl : x4 = true := hall 4 (by simp)
          obtain rfl : x5 = true := hall 5 (by simp)
          obtain rfl : x6 = true := hall 6 (by simp)
          subst ha
          have HNI := Lib.hid (I1.out rfl)
          have HB5 := Lib.hid IB.out
          clear IB I1 J6 hs hall
          obtain ⟨an, cn, rfl, hin, hfr⟩ := HNI.out.fresh
          obtain ⟨K, hK⟩ : ∃ K, K = NB (xn : Int) := ⟨_, rfl⟩
          rw [← hK] at hin ⊢
          have HI0 : Hid (DS w g m #[.int .i64 kind, .slice sa l.length sc, .int .i64 hosts] L (L.map (·.1)) (.slice (some ⟨gq, oq, none⟩) L.length cq) w5 ∧ BInv NB m (y : Int) L t ∧ L[t]? = some ((xn : Int), sa0) ∧ Ints w5 an K ∧ (∀ b, an.map (·.block) = some b → g < b ∧ (Value.slice (some ⟨gq, oq, none⟩) L.length cq).ownBlock ≠ some b) ∧ ∀ z ∈ K.take 0, ∃ s, (z, s) ∈ L ∧ s ≤ sa0 + 1) := by
            have h1 := HD.out.1
            rw [List.length_map] at h1
            refine ⟨h1.later HB5.out, HD.out.2, HA.out, hin, fun b hb => ?_, by simp⟩
            have h2 := hfr.ge b hb
            have h3 := h1.row.lt
            refine ⟨by omega, fun e => ?_⟩
            have h4 := own_ge h1.que e
            omega
          have HKN : Hid (∀ z ∈ K, z ∈ NB (xn : Int) ∧ 0 ≤ z ∧ z < (m : Int)) := fun z hz => ⟨by rw [← hK]; exact hz, HIN.out _ HRS.out.1 HRS.out.2 z (by rw [← hK]; exact hz)⟩
          have HKA : Hid (∀ z ∈ NB (xn : Int), z ∈ K) := fun z hz => by rw [hK]; exact hz
          have HKL : Hid (K.length ≤ 100000) := by show _ ≤ _; rw [hK]; exact HLN.out _
          have HSA : Hid (sa0 ≤ t ∧ t < 256) := ⟨HD.out.2.idx t _ HA.out, by omega⟩
          have HRX : Hid (xn < m) := by have := HRS.out.2; show _ < _; omega
          have HM1 : Hid (t < m) := Nat.lt_of_lt_of_le hlt hlen
          clear hin hfr HNI HB5 HQT HA hK hb1 hlen hlt d1 HD
          go_wp2_with fail
          go_loopw [7, 10] (fun v jv wr => ∃ (L : List (Int × Nat)) (j : Nat), j ≤ K.length ∧ jv = .int .i64 (j : Int) ∧ Hid (DS w g m #[.int .i64 kind, .slice sa l.length sc, .int .i64 hosts] L (L.map (·.1)) v wr ∧ BInv NB m (y : Int) L t ∧ L[t]? = some ((xn : Int), sa0) ∧ Ints wr an K ∧ (∀ b, an.map (·.block) = some b → g < b ∧ v.ownBlock ≠ some b) ∧ ∀ z ∈ K.take j, ∃ s, (z, s) ∈ L ∧ s ≤ sa0 + 1)) (fun _ jv _ => K.length - (intOf jv).toNat)
          case atStart => exact ⟨L, 0, Nat.zero_le _, rfl, HI0⟩
          case round =>
            clear HI0
            obtain ⟨L1, j, hj, rfl, HI⟩ := hrel
            obtain ⟨aq1, cq1, hvq, hiq⟩ := HI.out.1.que.ints
            have hkl := HKL.out
            by_cases hjl : j < K.length
            · obtain ⟨gn, on, rfl, hcn⟩ := HI.out.2.2.2.1.at_ (ne_nil_of_lt hjl)
              have hlt : t < L1.length := (List.getElem?_eq_some_iff.1 HI.out.2.2.1).1
              obtain ⟨gq1, oq1, rfl, hcq⟩ := hiq.at_ (ne_nil_of_lt (k := t) (by simpa using hlt))
              rw [List.length_map] at hvq
              subst hvq
              have hzK := HKN.out K[j] (List.getElem_mem hjl)
              have czn := hcn j hjl
              have cqt := hcq t (by simpa using hlt)
              rw [show (L1.map (·.1))[t]'(by simpa using hlt) = (xn : Int) by have h3 := (List.getElem?_eq_some_iff.1 HI.out.2.2.1).2; rw [List.getElem_map, h3]] at cqt
              obtain ⟨zi, hzi⟩ : ∃ zi, zi = K[j] := ⟨_, rfl⟩
              rw [← hzi] at hzK czn
              obtain ⟨hz2, hz0, hz1⟩ := hzK
              obtain ⟨zn, rfl⟩ := Int.eq_ofNat_of_zero_le hz0
              have hzm : zn < m := by omega
              have cdz := HI.out.1.row.cell zn (by rw [vals_len]; exact hzm)
              have cdx := HI.out.1.row.cell xn (by rw [vals_len]; exact HRX.out)
              rw [show (valsL m L1)[xn]'(by rw [vals_len]; exact HRX.out) = (sa0 : Int) by simp only [valsL, List.getElem_map, List.getElem_range]; exact valL_mem HI.out.2.1.nodup (List.mem_of_getElem? HI.out.2.2.1)] at cdx
              rw [show (valsL m L1)[zn]'(by rw [vals_len]; exact hzm) = valL L1 (zn : Int) by simp only [valsL, List.getElem_map, List.getElem_range]] at cdz
              have fdz := HI.out.1.row.open_ zn
              have lg := HI.out.1.row.lt
              have hext := HI.out.2.1.ext HI.out.2.2.1 hz2 hz0 hz1
              have HEX := Lib.hid hext
              have HTK : Hid (K.take (j + 1) = K.take j ++ [(zn : Int)]) := by show _ = _; rw [List.take_succ_eq_append_getElem hjl, hzi]
              have d1 : decide ((j : Int) < (K.length : Int)) = true := decide_eq_true (by omega)
              have HWI := Lib.hid (wrap_small ((j : Int) + 1) (by omega) (by omega))
              have HCS : Hid (((j : Int) + 1) = ((j + 1 : Nat) : Int)) := by show _ = _; rw [Int.natCast_add]; rfl
              have HME : Hid (K.length - (intOf (.int .i64 ((j : Int) + 1))).toNat < K.length - (intOf (.int .i64 (j : Int))).toNat) := by show _ < _; simp [intOf]; omega
              have HMO : Hid (K.length - (intOf (.int .i64 (wrap64 ((j : Int) + 1)))).toNat < K.length - (intOf (.int .i64 (j : Int))).toNat) := by show _ < _; rw [HWI.out]; exact HME.out
              have HK1 : Hid (j + 1 ≤ K.length) := hjl
              clear hext hcn hcq hiq hzi hz0 hz1 hz2 hkl hj
              by_cases hzL : (zn : Int) ∈ L1.map (·.1)
              · obtain ⟨⟨z', s⟩, hp, hze⟩ := List.mem_map.1 hzL
                simp only at hze
                subst hze
                rw [valL_mem HI.out.2.1.nodup hp] at cdz
                have d2 : decide ((s : Int) < 0) = false := decide_eq_false (by omega)
                have HI2 : Hid (DS w g m #[.int .i64 kind, .slice sa l.length sc, .int .i64 hosts] L1 (L1.map (·.1)) (.slice (some ⟨gq1, oq1, none⟩) L1.length cq1) wr ∧ BInv NB m (y : Int) L1 t ∧ L1[t]? = some ((xn : Int), sa0) ∧ Ints wr (some ⟨gn, on, none⟩) K ∧ (∀ b, (some (Addr.mk gn on none)).map (·.block) = some b → g < b ∧ (Value.slice (some ⟨gq1, oq1, none⟩) L1.length cq1).ownBlock ≠ some b) ∧ ∀ z ∈ K.take (j + 1), ∃ s, (z, s) ∈ L1 ∧ s ≤ sa0 + 1) := by
                  obtain ⟨h1, h2, h3, h4, h5, h6⟩ := HI.out
                  refine ⟨h1, h2, h3, h4, h5, fun z hz => ?_⟩
                  rw [HTK.out] at hz
                  rcases List.mem_append.1 hz with hz | hz
                  · exact h6 z hz
                  · obtain rfl : z = (zn : Int) := by simpa using hz
                    have := HEX.out.2
                    unfold ext at this
                    rwa [if_pos hzL] at this
                clear hp hzL HEX HI
                go_wp2_with fail
                go_roundw
                case rel => exact ⟨L1, j + 1, HK1.out, by first | rw [HWI.out, HCS.out] | rw [HCS.out], HI2⟩
                case measure => first | exact HMO.out | exact HME.out
              · rw [valL_none hzL] at cdz
                have HZL := Lib.hid hzL
                have hb1 : ((L1.length : Int) ≤ (t : Int)) = False := by simp; omega
                have hb2 : ((K.length : Int) ≤ (j : Int)) = False := by simp; omega
                have hb3 : ((m : Int) ≤ (zn : Int)) = False := by simp; omega
                have hb4 : ((m : Int) ≤ (xn : Int)) = False := by have := HRX.out; simp; omega
                have hgn := (HI.out.2.2.2.2.1 gn rfl).1
                have hgq := (own_ge HI.out.1.que (b := gq1) rfl).1
                have hextE : ext sa0 L1 (zn : Int) = L1 ++ [((zn : Int), sa0 + 1)] := by unfold ext; rw [if_neg hzL]
                have hbi2 : BInv NB m (y : Int) (L1 ++ [((zn : Int), sa0 + 1)]) t := by have := HEX.out.1; simp only at this; rwa [hextE] at this
                have hfo : ∃ s, ((zn : Int), s) ∈ L1 ++ [((zn : Int), sa0 + 1)] ∧ s ≤ sa0 + 1 := by have := HEX.out.2; simp only at this; rwa [hextE] at this
                have hd1 := (HI.out.1.later ((Below.refl _ _).drew)).store (z := zn) (s := sa0 + 1) hzL
                obtain ⟨W3, hW3⟩ : ∃ W3, W3 = wr.drew.setCell ⟨g, zn, none⟩ (.int .i64 ((sa0 + 1 : Nat) : Int)) := ⟨_, rfl⟩
                rw [← hW3] at hd1
                have hother : ∀ b, b ≠ g → W3.heap[b]? = wr.heap[b]? := fun b hb => by rw [hW3]; exact heap_setCell_other _ _ _ _ hb
                have hin3 : Ints W3 (some ⟨gn, on, none⟩) K := HI.out.2.2.2.1.move (fun b hb _ => hother b (by have e : gn = b := (by simpa using hb); omega))
                have HC0 : Hid (wr.drew.cell? ⟨gn, on + j, none⟩ = some (.int .i64 (zn : Int)) ∧ wr.drew.cell? ⟨gq1, oq1 + t, none⟩ = some (.int .i64 (xn : Int)) ∧ wr.drew.cell? ⟨g, xn, none⟩ = some (.int .i64 (sa0 : Int))) := ⟨czn, cqt, cdx⟩
                have HC3 : Hid (W3.cell? ⟨gn, on + j, none⟩ = some (.int .i64 (zn : Int)) ∧ W3.cell? ⟨gq1, oq1 + t, none⟩ = some (.int .i64 (xn : Int)) ∧ W3.cell? ⟨g, xn, none⟩ = some (.int .i64 (sa0 : Int))) := by
                  refine ⟨(World.cell?_of_block (a := ⟨gn, on + j, none⟩) (hother gn (by omega))).trans czn, (World.cell?_of_block (a := ⟨gq1, oq1 + t, none⟩) (hother gq1 (by omega))).trans cqt, ?_⟩
                  have h7 := hd1.row.cell xn (by rw [vals_len]; exact HRX.out)
                  rw [show (valsL m (L1 ++ [((zn : Int), sa0 + 1)]))[xn]'(by rw [vals_len]; exact HRX.out) = (sa0 : Int) by simp only [valsL, List.getElem_map, List.getElem_range]; exact valL_mem hbi2.nodup (List.mem_append_left _ (List.mem_of_getElem? HI.out.2.2.1))] at h7
                  exact h7
                have HST : Hid ((wr.drew.cell? ⟨g, zn, none⟩ = some (.int .i64 (-1))) ∧ wr.drew.frozen? ⟨g, zn, none⟩ = false ∧ g < wr.drew.heap.size) := ⟨cdz, fdz, lg⟩
                have HEA : Hid (∀ W, (binOp .add 3 (.int .i64 (sa0 : Int)) (.int .i64 1)).run Tryz.prog W = .ok (.int .i64 ((sa0 + 1 : Nat) : Int)) W) := fun W => by
                  have := i64_add (sa0 : Int) 1 (by have := HSA.out; omega) (by have := HSA.out; omega) W
                  rwa [show (sa0 : Int) + 1 = ((sa0 + 1 : Nat) : Int) by omega] at this
                obtain ⟨v', w2, hr, hd2, hmv, hsz⟩ := hd1.push (zn : Int) (by have := HI.out.2.1.len; rw [List.length_map]; omega)
                have hgs : gn < W3.heap.size := block_lt_of_cell HC3.out.1
                have HI2 : Hid (DS w g m #[.int .i64 kind, .slice sa l.length sc, .int .i64 hosts] (L1 ++ [((zn : Int), sa0 + 1)]) ((L1 ++ [((zn : Int), sa0 + 1)]).map (·.1)) v' w2 ∧ BInv NB m (y : Int) (L1 ++ [((zn : Int), sa0 + 1)]) t ∧ (L1 ++ [((zn : Int), sa0 + 1)])[t]? = some ((xn : Int), sa0) ∧ Ints w2 (some ⟨gn, on, none⟩) K ∧ (∀ b, (some (Addr.mk gn on none)).map (·.block) = some b → g < b ∧ v'.ownBlock ≠ some b) ∧ ∀ z ∈ K.take (j + 1), ∃ s, (z, s) ∈ L1 ++ [((zn : Int), sa0 + 1)] ∧ s ≤ sa0 + 1) := by
                  obtain ⟨h1, h2, h3, h4, h5, h6⟩ := HI.out
                  refine ⟨by rw [List.map_append]; exact hd2, hbi2, by rw [List.getElem?_append_left hlt]; exact h3, hin3.move (fun b hb hbs => (hmv b hbs (h5 b hb).2).1), fun b hb => ?_, fun z hz => ?_⟩
                  · obtain rfl : gn = b := by simpa using hb
                    exact ⟨hgn, (hmv _ hgs (h5 _ rfl).2).2⟩
                  · rw [HTK.out] at hz
                    rcases List.mem_append.1 hz with hz | hz
                    · obtain ⟨s, h7, h8⟩ := h6 z hz
                      exact ⟨s, List.mem_append_left _ h7, h8⟩
                    · obtain rfl : z = (zn : Int) := by simpa using hz
                      exact hfo
                have HR := Lib.hid hr
                have HW3 := Lib.hid hW3
                clear hzL hgn hgq hextE hbi2 hfo hd1 hother hin3 hr hd2 hmv hsz hgs hW3 HEX HI
                go_wp2_with fail
                have hrx := HRX.out
                refine (wpIn_wide (n := 0)).1 ?_
                refine region_det (by kernel_rfl) (I := fun listed a' w' => Hid ((listed.getD 14 false = false → w' = wr.drew) ∧ (listed.getD 14 false = true → w' = W3)) ∧ a' = ⟨#[Value.agg #[Value.int IntKind.i64 kind, Value.slice sa l.length sc, Value.int IntKind.i64 hosts], Value.int IntKind.i64 (y : Int), Value.pointer (some (⟨w.heap.size, 0, none⟩)), undef, Value.slice none 0 0, Value.slice (some (⟨g, 0, none⟩)) m m, Value.int IntKind.i64 (m : Int), Value.slice (some (⟨gq1, oq1, none⟩)) L1.length cq1, Value.int IntKind.i64 (t : Int), Value.slice (some (⟨gn, on, none⟩)) K.length cn, Value.int IntKind.i64 (j : Int), Value.agg #[Value.int IntKind.i64 kind, Value.slice sa l.length sc, Value.int IntKind.i64 hosts], Value.int IntKind.i64 (m : Int), Value.slice (some (⟨g, 0, none⟩)) m m, Value.int IntKind.i64 (m : Int), Value.slice (some (⟨g, 0, none⟩)) m m, Value.int IntKind.i64 (m : Int), Value.bool false, u18, u19, u20, u21, u22, Value.slice (some (⟨g, 0, none⟩)) m m, Value.int IntKind.i64 (y : Int), Value.pointer (some (⟨g, y, none⟩)), Value.int IntKind.i64 (y : Int), Value.slice (some (⟨zs, 0, none⟩)) 1 1, Value.int IntKind.i64 (t : Int), Value.slice (some (⟨gq, oq, none⟩)) L.length cq, Value.int IntKind.i64 (L.length : Int), Value.bool true, u32, u33, Value.agg #[Value.int IntKind.i64 kind, Value.slice sa l.length sc, Value.int IntKind.i64 hosts], Value.slice (some (⟨gq, oq, none⟩)) L.length cq, Value.int IntKind.i64 (t : Int), Value.pointer (some (⟨gq, (oq + t), none⟩)), Value.int IntKind.i64 (xn : Int), Value.slice (some (⟨gn, on, none⟩)) K.length cn, Value.int IntKind.i64 (j : Int), Value.slice (some (⟨gn, on, none⟩)) K.length cn, Value.int IntKind.i64 (K.length : Int), Value.bool true, u44, u45, Value.slice (some (⟨g, 0, none⟩)) m m, Value.slice (some (⟨gn, on, none⟩)) K.length cn, Value.int IntKind.i64 (j : Int), Value.pointer (some (⟨gn, (on + j), none⟩)), Value.int IntKind.i64 (zn : Int), Value.pointer (some (⟨g, zn, none⟩)), Value.int IntKind.i64 (-1), Value.bool true, (if listed.getD 0 false = true then Value.slice (some ⟨g, 0, none⟩) m m else u54), (if listed.getD 1 false = true then Value.slice (some ⟨gn, on, none⟩) K.length cn else u55), (if listed.getD 2 false = true then Value.int IntKind.i64 ((j : Int)) else u56), (if listed.getD 3 false = true then Value.pointer (some ⟨gn, on + j, none⟩) else u57), (if listed.getD 4 false = true then Value.int IntKind.i64 ((zn : Int)) else u58), (if listed.getD 5 false = true then Value.slice (some ⟨g, 0, none⟩) m m else u59), (if listed.getD 6 false = true then Value.slice (some ⟨gq1, oq1, none⟩) L1.length cq1 else u60), (if listed.getD 7 false = true then Value.int IntKind.i64 ((t : Int)) else u61), (if listed.getD 8 false = true then Value.pointer (some ⟨gq1, oq1 + t, none⟩) else u62), (if listed.getD 9 false = true then Value.int IntKind.i64 ((xn : Int)) else u63), (if listed.getD 10 false = true then Value.pointer (some ⟨g, xn, none⟩) else u64), (if listed.getD 11 false = true then Value.int IntKind.i64 ((sa0 : Int)) else u65), (if listed.getD 12 false = true then Value.int IntKind.i64 (((sa0 + 1 : Nat) : Int)) else u66), (if listed.getD 13 false = true then Value.pointer (some ⟨g, zn, none⟩) else u67), u68, u69, u70, u71, u72, u73, u74, undef], []⟩) (hup_check (by kernel_rfl)) ?h0 ?step ?fin
                case h0 => exact ⟨⟨fun _ => rfl, fun h => (by simp at h)⟩, rfl⟩
                case step =>
                  intro listed a' w' i hs hbi hdep hi ⟨WS, ha⟩
                  obtain ⟨ls⟩ := listed
                  match ls, hs with
                  | [x0, x1, x2, x3, x4, x5, x6, x7, x8, x9, x10, x11, x12, x13, x14], _ =>
                  subst ha
                  have hi' : i = 0 ∨ i = 1 ∨ i = 2 ∨ i = 3 ∨ i = 4 ∨ i = 5 ∨ i = 6 ∨ i = 7 ∨ i = 8 ∨ i = 9 ∨ i = 10 ∨ i = 11 ∨ i = 12 ∨ i = 13 ∨ i = 14 := by simp at hi; omega
                  have hcf : w'.cell? ⟨gn, on + j, none⟩ = some (.int .i64 (zn : Int)) ∧ w'.cell? ⟨gq1, oq1 + t, none⟩ = some (.int .i64 (xn : Int)) ∧ w'.cell? ⟨g, xn, none⟩ = some (.int .i64 (sa0 : Int)) := by
                    cases x14 with
                    | false => rw [WS.out.1 rfl]; exact HC0.out
                    | true => rw [WS.out.2 rfl]; exact HC3.out
                  obtain ⟨hc0, hc1, hc2⟩ := hcf
                  rcases hi' with rfl | rfl | rfl | rfl | rfl | rfl | rfl | rfl | rfl | rfl | rfl | rfl | rfl | rfl | rfl
                  · obtain rfl : x0 = false := by simpa using hbi
                    refine wpOpIn_plain rfl rfl rfl ?_
                    exact ⟨WS, rfl⟩
                  · obtain rfl : x1 = false := by simpa using hbi
                    refine wpOpIn_plain rfl rfl rfl ?_
                    exact ⟨WS, rfl⟩
                  · obtain rfl : x2 = false := by simpa using hbi
                    refine wpOpIn_plain rfl rfl rfl ?_
                    exact ⟨WS, rfl⟩
                  · obtain rfl : x3 = false := by simpa using hbi
                    obtain rfl : x1 = true := hdep _ rfl ⟨1, .data⟩ (by simp) rfl
                    obtain rfl : x2 = true := hdep _ rfl ⟨2, .data⟩ (by simp) rfl
                    refine wpOpIn_plain (v := Value.pointer (some ⟨gn, on + j, none⟩)) (w' := w') rfl rfl (by simp [Oper.semAt, execOp, go_sem, hjl, hb2]) ?_
                    exact ⟨WS, rfl⟩
                  · obtain rfl : x4 = false := by simpa using hbi
                    obtain rfl : x3 = true := hdep _ rfl ⟨3, .data⟩ (by simp) rfl
                    refine wpOpIn_plain (v := Value.int IntKind.i64 ((zn : Int))) (w' := w') rfl rfl (by simp [Oper.semAt, execOp, go_sem, hc0]) ?_
                    exact ⟨WS, rfl⟩
                  · obtain rfl : x5 = false := by simpa using hbi
                    refine wpOpIn_plain rfl rfl rfl ?_
                    exact ⟨WS, rfl⟩
                  · obtain rfl : x6 = false := by simpa using hbi
                    refine wpOpIn_plain rfl rfl rfl ?_
                    exact ⟨WS, rfl⟩
                  · obtain rfl : x7 = false := by simpa using hbi
                    refine wpOpIn_plain rfl rfl rfl ?_
                    exact ⟨WS, rfl⟩
                  · obtain rfl : x8 = false := by simpa using hbi
                    obtain rfl : x6 = true := hdep _ rfl ⟨6, .data⟩ (by simp) rfl
                    obtain rfl : x7 = true := hdep _ rfl ⟨7, .data⟩ (by simp) rfl
                    refine wpOpIn_plain (v := Value.pointer (some ⟨gq1, oq1 + t, none⟩)) (w' := w') rfl rfl (by simp [Oper.semAt, execOp, go_sem, hlt, hb1]) ?_
                    exact ⟨WS, rfl⟩
                  · obtain rfl : x9 = false := by simpa using hbi
                    obtain rfl : x8 = true := hdep _ rfl ⟨8, .data⟩ (by simp) rfl
                    refine wpOpIn_plain (v := Value.int IntKind.i64 ((xn : Int))) (w' := w') rfl rfl (by simp [Oper.semAt, execOp, go_sem, hc1]) ?_
                    exact ⟨WS, rfl⟩
                  · obtain rfl : x10 = false := by simpa using hbi
                    obtain rfl : x5 = true := hdep _ rfl ⟨5, .data⟩ (by simp) rfl
                    obtain rfl : x9 = true := hdep _ rfl ⟨9, .data⟩ (by simp) rfl
                    refine wpOpIn_plain (v := Value.pointer (some ⟨g, xn, none⟩)) (w' := w') rfl rfl (by simp [Oper.semAt, execOp, go_sem, hrx, hb4]) ?_
                    exact ⟨WS, rfl⟩
                  · obtain rfl : x11 = false := by simpa using hbi
                    obtain rfl : x10 = true := hdep _ rfl ⟨10, .data⟩ (by simp) rfl
                    refine wpOpIn_plain (v := Value.int IntKind.i64 ((sa0 : Int))) (w' := w') rfl rfl (by simp [Oper.semAt, execOp, go_sem, hc2]) ?_
                    exact ⟨WS, rfl⟩
                  · obtain rfl : x12 = false := by simpa using hbi
                    obtain rfl : x11 = true := hdep _ rfl ⟨11, .data⟩ (by simp) rfl
                    refine wpOpIn_plain (v := Value.int IntKind.i64 (((sa0 + 1 : Nat) : Int))) (w' := w') rfl rfl (sem_bin (vx := Value.int IntKind.i64 ((sa0 : Int))) (vy := Value.int IntKind.i64 (1)) rfl rfl rfl rfl (HEA.out w')) ?_
                    exact ⟨WS, rfl⟩
                  · obtain rfl : x13 = false := by simpa using hbi
                    obtain rfl : x0 = true := hdep _ rfl ⟨0, .data⟩ (by simp) rfl
                    obtain rfl : x4 = true := hdep _ rfl ⟨4, .data⟩ (by simp) rfl
                    refine wpOpIn_plain (v := Value.pointer (some ⟨g, zn, none⟩)) (w' := w') rfl rfl (by simp [Oper.semAt, execOp, go_sem, hzm, hb3]) ?_
                    exact ⟨WS, rfl⟩
                  · obtain rfl : x14 = false := by simpa using hbi
                    obtain rfl : x13 = true := hdep _ rfl ⟨13, .data⟩ (by simp) rfl
                    obtain rfl : x12 = true := hdep _ rfl ⟨12, .data⟩ (by simp) rfl
                    obtain rfl := WS.out.1 rfl
                    obtain ⟨s1, s2, s3⟩ := HST.out
                    refine wpOpIn_skip (w' := W3) rfl rfl (by rw [HW3.out]; simp [Oper.semAt, execOp, go_sem, s1, s2, s3]) ?_
                    exact ⟨⟨fun h => (by cases h), fun _ => rfl⟩, rfl⟩
                case fin =>
                intro listed a' w9 hs hall ⟨WS, ha⟩
                obtain ⟨ls⟩ := listed
                match ls, hs with
                | [x0, x1, x2, x3, x4, x5, x6, x7, x8, x9, x10, x11, x12, x13, x14], _ =>
                obtain rfl : x0 = true := hall 0 (by simp)
                obtain rfl : x1 = true := hall 1 (by simp)
                obtain rfl : x2 = true := hall 2 (by simp)
                obtain rfl : x3 = true := hall 3 (by simp)
                obtain rfl : x4 = true := hall 4 (by simp)
                obtain rfl : x5 = true := hall 5 (by simp)
                obtain rfl : x6 = true := hall 6 (by simp)
                obtain rfl : x7 = true := hall 7 (by simp)
                obtain rfl : x8 = true := hall 8 (by simp)
                obtain rfl : x9 = true := hall 9 (by simp)
                obtain rfl : x10 = true := hall 10 (by simp)
                obtain rfl : x11 = true := hall 11 (by simp)
                obtain rfl : x12 = true := hall 12 (by simp)
                obtain rfl : x13 = true := hall 13 (by simp)
                obtain rfl : x14 = true := hall 14 (by simp)
                subst ha
                obtain rfl := WS.out.2 rfl
                have c9 := HC3.out.1
                clear WS hs hall HC0 HC3 HST HEA HW3 czn cqt cdz cdx fdz lg
                go_wp2_with (at_builtin; refine Lib.wpList_append_run _ rfl (.tmp 68) (.tmp 73) 22 22 rfl _ _ rfl rfl _ _ HR.out ?_)
                go_roundw
                case rel => exact ⟨L1 ++ [((zn : Int), sa0 + 1)], j + 1, HK1.out, by first | rw [HWI.out, HCS.out] | rw [HCS.out], HI2⟩
                case measure => first | exact HMO.out | exact HME.out
            · obtain rfl : j = K.length := by omega
              have d1 : decide ((K.length : Int) < (K.length : Int)) = false := decide_eq_false (by omega)
              have HWI := Lib.hid (wrap_small ((t : Int) + 1) (by omega) (by have := HSA.out; omega))
              have HCS : Hid (((t : Int) + 1) = ((t + 1 : Nat) : Int)) := by show _ = _; rw [Int.natCast_add]; rfl
              have HME : Hid (m - (intOf (.int .i64 ((t : Int) + 1))).toNat < m - (intOf (.int .i64 (t : Int))).toNat) := by have := HM1.out; show _ < _; simp [intOf]; omega
              have HMO : Hid (m - (intOf (.int .i64 (wrap64 ((t : Int) + 1)))).toNat < m - (intOf (.int .i64 (t : Int))).toNat) := by show _ < _; rw [HWI.out]; exact HME.out
              have HI9 : Hid (DS w g m #[.int .i64 kind, .slice sa l.length sc, .int .i64 hosts] L1 (L1.map (·.1)) u7 wr ∧ BInv NB m (y : Int) L1 (t + 1)) := by
                obtain ⟨h1, h2, h3, h4, h5, h6⟩ := HI.out
                refine ⟨h1, h2.next h3 fun z hz => ?_⟩
                have := h6 z (by rw [List.take_length]; exact HKA.out z hz)
                exact this
              clear HI hjl hj hkl hiq hvq
              go_wp2_with fail
              go_roundw
              case rel => exact ⟨L1, t + 1, by first | rw [HWI.out, HCS.out] | rw [HCS.out], HI9⟩
              case measure => first | exact HMO.out | exact HME.out
        · have hte : t = L.length := by have := HD.out.2.le; omega
          subst hte
          have d1 : decide ((L.length : Int) < (L.length : Int)) = false := decide_eq_false (by omega)
          have HF : Hid (RowAt wr g (valsL m L) ∧ Below w.heap.size w wr ∧ w.heap.size < g ∧ ∀ x, DistAt NB (y : Int) x (valL L x)) := ⟨HD.out.1.row, HD.out.1.bel, HD.out.1.lt, fun x => HD.out.2.done x⟩
          clear HD hiq hlt
          go_wp2_with fail
          go_ret
          exact ⟨g, valsL m L, rfl, HF.out.1, Nat.le_of_lt HF.out.2.2.1, vals_len _ _, fun x hx => by rw [show (valsL m L).getD x 0 = valL L (x : Int) by simp [valsL, List.getD, hx]]; exact HF.out.2.2.2 _, HF.out.2.1⟩
end Go.Proofs.YtbhkenphcahifaaGreat

namespace Go.Proofs.YtbhkenphcahifaaGreat
open Go.RowKit Go.Shelf
attribute [local go_sem] Oper.semAt_some
set_option maxRecDepth 100000
set_option maxHeartbeats 4000000

def twoE (kind : Int) (l : List Int) (hosts x y : Int) : Int := if vOk kind l hosts then (if inB (swI kind l) [x, y] = true then 0 else 3) else 2
theorem rTwo_any {w : World} {sa : Option Addr} {l : List Int} (h : Ints w sa l) (sc : Nat) (kind hosts x y : Int) :
    Calls Tryz.prog 58 #[.agg #[.int .i64 kind, .slice sa l.length sc, .int .i64 hosts], .int .i64 x, .int .i64 y] w fun e w' => e = .returned (.int .i64 (twoE kind l hosts x y)) ∧ Below w.heap.size w w' := by
  have HB := Lib.hid ((Below.refl w.heap.size w).alloc (Nat.le_refl _) (.cells #[.int .i64 kind, .slice sa l.length sc, .int .i64 hosts] 34))
  have Q0 := Lib.hid (heap_alloc_new w (.cells #[.int .i64 kind, .slice sa l.length sc, .int .i64 hosts] 34))
  have c0 := cellR 0 Q0.out rfl
  have c1 := cellR 1 Q0.out rfl
  have c2 := cellR 2 Q0.out rfl
  have H1 := Lib.hid (rIs_any (h.keep HB.out) sc kind hosts x)
  have H2 : Hid (∀ W, Below w.heap.size w W → Calls Tryz.prog 55 #[.agg #[.int .i64 kind, .slice sa l.length sc, .int .i64 hosts], .int .i64 y] W fun e w' => e = .returned (.int .i64 (plaE kind l hosts y)) ∧ Below W.heap.size W w') := fun W hb => rIs_any (h.keep hb) sc kind hosts y
  by_cases hx : plaE kind l hosts x = 0
  · have hT : twoE kind l hosts x y = plaE kind l hosts y := by
      unfold twoE
      unfold plaE at hx ⊢
      by_cases hv : vOk kind l hosts
      · rw [if_pos hv] at hx ⊢
        rw [if_pos hv]
        by_cases hi : inB (swI kind l) [x] = true
        · have : (inB (swI kind l) [x, y] = true) = (inB (swI kind l) [y] = true) := by
            simp only [inB, List.all_cons, List.all_nil, Bool.and_true] at hi ⊢
            rw [hi]; simp
          simp only [this]
        · rw [if_neg hi] at hx; cases hx
      · rw [if_neg hv] at hx; cases hx
    rw [hT]
    rw [hx] at H1
    clear h hx hT
    generalize l.length = N at *
    generalize plaE kind l hosts y = E at *
    go_enter Tryz.func58, Tryz.ntmps58
    go_wp2_with fail
    generalize w.alloc (.cells #[.int .i64 kind, .slice sa N sc, .int .i64 hosts] 34) = X at *
    refine H1.out.mono ?_
    rintro e w1 ⟨rfl, hb⟩
    replace c0 := kcell hb c0
    replace c1 := kcell hb c1
    replace c2 := kcell hb c2
    replace HB := Lib.hid (HB.out.trans (hb.mono HB.out.size))
    have H3 := Lib.hid (H2.out _ HB.out)
    clear H1 H2 hb Q0
    go_wp2_with fail
    refine H3.out.mono ?_
    rintro e w2 ⟨rfl, hb⟩
    replace HB := Lib.hid (HB.out.trans (hb.mono HB.out.size))
    clear H3 hb c0 c1 c2
    go_wp2_with fail
    go_ret
    exact ⟨rfl, HB.out⟩
  · have hT : twoE kind l hosts x y = plaE kind l hosts x := by
      unfold twoE
      unfold plaE at hx ⊢
      by_cases hv : vOk kind l hosts
      · rw [if_pos hv] at hx ⊢
        rw [if_pos hv]
        by_cases hi : inB (swI kind l) [x] = true
        · rw [if_pos hi] at hx; exact absurd rfl hx
        · rw [if_neg hi, if_neg]
          simp only [inB, List.all_cons, List.all_nil, Bool.and_true, Bool.and_eq_true, not_and] at hi ⊢
          intro h; exact absurd h hi
      · rw [if_neg hv, if_neg hv]
    rw [hT]
    have hne : (plaE kind l hosts x != 0) = true := bne_iff_ne.2 hx
    clear h hx hT
    generalize l.length = N at *
    generalize plaE kind l hosts x = E at *
    go_enter Tryz.func58, Tryz.ntmps58
    go_wp2_with fail
    generalize w.alloc (.cells #[.int .i64 kind, .slice sa N sc, .int .i64 hosts] 34) = X at *
    refine H1.out.mono ?_
    rintro e w1 ⟨rfl, hb⟩
    replace HB := Lib.hid (HB.out.trans (hb.mono HB.out.size))
    clear H1 H2 hb Q0 c0 c1 c2
    go_wp2_with fail
    go_ret
    exact ⟨rfl, HB.out⟩
end Go.Proofs.YtbhkenphcahifaaGreat

namespace Go.Proofs.YtbhkenphcahifaaGreat
open Go.RowKit Go.Shelf
attribute [local go_sem] Oper.semAt_some
set_option maxRecDepth 100000
set_option maxHeartbeats 4000000

theorem withV_bad {kind : Int} {sa : Option Addr} {sc : Nat} {l : List Int} {hosts x y : Int} (hE : twoE kind l hosts x y ≠ 0) : withV kind sa sc l hosts [x, y] = .tuple #[.nilIface, .int .i64 (twoE kind l hosts x y)] := by
  unfold withV
  unfold twoE at hE ⊢
  by_cases hv : vOk kind l hosts
  · rw [if_pos hv] at hE ⊢
    by_cases hi2 : inB (swI kind l) [x, y] = true
    · rw [if_pos hi2] at hE; exact absurd rfl hE
    · rw [if_neg hi2, if_pos hv, if_neg hi2]
  · rw [if_neg hv, if_neg hv]
theorem Distance_bad {w : World} {sa : Option Addr} {l : List Int} (h : Ints w sa l) (sc : Nat) (kind hosts x y : Int) (hE : twoE kind l hosts x y ≠ 0) :
    Calls Tryz.prog 16 #[.agg #[.int .i64 kind, .slice sa l.length sc, .int .i64 hosts], .int .i64 x, .int .i64 y] w fun e w' => e = .returned (.tuple #[.int .i64 0, .int .i64 (twoE kind l hosts x y)]) ∧ Below w.heap.size w w' := by
  obtain ⟨hbx, q0, q1, hz⟩ := twoN w (.cells #[.int .i64 kind, .slice sa l.length sc, .int .i64 hosts] 24) (.cells #[.int .i64 x, .int .i64 y] 3)
  have HB := Lib.hid hbx
  have c0 := cellR 0 (heap_alloc_new w (.cells #[.int .i64 kind, .slice sa l.length sc, .int .i64 hosts] 24)) rfl
  have c1 := cellR 1 (heap_alloc_new w (.cells #[.int .i64 kind, .slice sa l.length sc, .int .i64 hosts] 24)) rfl
  have c2 := cellR 2 (heap_alloc_new w (.cells #[.int .i64 kind, .slice sa l.length sc, .int .i64 hosts] 24)) rfl
  have hi : Ints ((w.alloc (.cells #[.int .i64 kind, .slice sa l.length sc, .int .i64 hosts] 24)).alloc (.cells #[.int .i64 x, .int .i64 y] 3)) (some ⟨w.heap.size + 1, 0, none⟩) [x, y] := by
    have hra : RowAt ((w.alloc (.cells #[.int .i64 kind, .slice sa l.length sc, .int .i64 hosts] 24)).alloc (.cells #[.int .i64 x, .int .i64 y] 3)) (w.heap.size + 1) [x, y] := by
      unfold RowAt; rw [q1]; rw [show rowA [x, y] = #[.int .i64 x, .int .i64 y] by unfold rowA; rfl]
    exact hra.ints (by simp)
  have HC := Lib.hid (networkWith_any (h.keep hbx) hi sc 2 kind hosts)
  rw [withV_bad hE] at HC
  have hne : (twoE kind l hosts x y != 0) = true := bne_iff_ne.2 hE
  generalize twoE kind l hosts x y = E at *
  have HZ := Lib.hid hz
  clear h hbx q0 q1 hi hz hE
  simp only [List.length_cons, List.length_nil, Nat.reduceAdd] at HC
  generalize l.length = M at *
  go_enter Tryz.func16, Tryz.ntmps16
  go_wp2_with fail
  refine HC.out.mono ?_
  rintro e w1 ⟨rfl, hb1⟩
  have HB1 := Lib.hid (HB.out.trans (hb1.mono (by rw [HZ.out]; omega)))
  clear HC hb1 HB c0 c1 c2
  go_wp2_with fail
  go_ret2
  exact ⟨rfl, HB1.out⟩
theorem Hops_bad {w : World} {sa : Option Addr} {l : List Int} (h : Ints w sa l) (sc : Nat) (kind hosts x y : Int) (hE : twoE kind l hosts x y ≠ 0) :
    Calls Tryz.prog 18 #[.agg #[.int .i64 kind, .slice sa l.length sc, .int .i64 hosts], .int .i64 x, .int .i64 y] w fun e w' => e = .returned (.tuple #[.slice none 0 0, .int .i64 (twoE kind l hosts x y)]) ∧ Below w.heap.size w w' := by
  obtain ⟨X, hX⟩ : ∃ X, X = ((w.alloc (.cells #[.int .i64 kind, .slice sa l.length sc, .int .i64 hosts] 24)).alloc (.cells #[.int .i64 x] 3)).alloc (.cells #[.int .i64 x, .int .i64 y] 3) := ⟨_, rfl⟩
  have hb2 : Below w.heap.size w ((w.alloc (.cells #[.int .i64 kind, .slice sa l.length sc, .int .i64 hosts] 24)).alloc (.cells #[.int .i64 x] 3)) := ((Below.refl _ _).alloc (Nat.le_refl _) _).alloc (by simp) _
  have hbx : Below w.heap.size w X := by rw [hX]; exact hb2.alloc (by simp <;> omega) _
  have q0 : ((w.alloc (.cells #[.int .i64 kind, .slice sa l.length sc, .int .i64 hosts] 24)).alloc (.cells #[.int .i64 x] 3)).heap[w.heap.size]? = some (.cells #[.int .i64 kind, .slice sa l.length sc, .int .i64 hosts] 24 (0, 0)) := (Below.heap_alloc _ _ _ (by simp)).trans (heap_alloc_new w _)
  have q1 : ((w.alloc (.cells #[.int .i64 kind, .slice sa l.length sc, .int .i64 hosts] 24)).alloc (.cells #[.int .i64 x] 3)).heap[w.heap.size + 1]? = some (.cells #[.int .i64 x] 3 (0, 0)) := by
    have := heap_alloc_new (w.alloc (.cells #[.int .i64 kind, .slice sa l.length sc, .int .i64 hosts] 24)) (.cells #[.int .i64 x] 3)
    rwa [World.size_alloc] at this
  have p1 : X.heap[w.heap.size + 1]? = some (.cells #[.int .i64 x] 3 (0, 0)) := by rw [hX]; exact (Below.heap_alloc _ _ _ (by simp)).trans q1
  have p2 : X.heap[w.heap.size + 2]? = some (.cells #[.int .i64 x, .int .i64 y] 3 (0, 0)) := by
    rw [hX]
    have := heap_alloc_new ((w.alloc (.cells #[.int .i64 kind, .slice sa l.length sc, .int .i64 hosts] 24)).alloc (.cells #[.int .i64 x] 3)) (.cells #[.int .i64 x, .int .i64 y] 3)
    rwa [World.size_alloc, World.size_alloc] at this
  have c0 := cellR 0 (heap_alloc_new w (.cells #[.int .i64 kind, .slice sa l.length sc, .int .i64 hosts] 24)) rfl
  have k0 := cellR 0 q0 rfl
  have k1 := cellR 1 q0 rfl
  have k2 := cellR 2 q0 rfl
  have k3 := cellR 0 q1 rfl
  have hi : Ints X (some ⟨w.heap.size + 2, 0, none⟩) [x, y] := by
    have hra : RowAt X (w.heap.size + 2) [x, y] := by
      unfold RowAt; rw [p2]; rw [show rowA [x, y] = #[.int .i64 x, .int .i64 y] by unfold rowA; rfl]
    exact hra.ints (by simp)
  have HC := Lib.hid (networkWith_any (h.keep hbx) hi sc 2 kind hosts)
  rw [withV_bad hE] at HC
  have hne : (twoE kind l hosts x y != 0) = true := bne_iff_ne.2 hE
  generalize twoE kind l hosts x y = E at *
  have HB := Lib.hid hbx
  have hz : Hid (X.heap.size = w.heap.size + 3) := by show _ = _; rw [hX]; simp
  simp only [List.length_cons, List.length_nil, Nat.reduceAdd] at HC
  rw [hX] at HC
  have HXE := Lib.hid hX
  clear h hbx q0 q1 hi hb2 p1 p2 hX hE
  generalize l.length = M at *
  refine (callsIn_wide (n := 4)).1 ?_
  refine callsIn_of_wp_marks Tryz.func18 rfl trivial ?_ rfl
  simp only [Tryz.ntmps18, List.size_toArray, List.length_cons, List.length_nil, Nat.reduceAdd, Nat.reduceSub, Array.replicate_succ, Array.replicate_zero, List.push_toArray, List.append_toArray, List.nil_append, List.cons_append]
  gi_wp2
  refine ⟨trivial, callsIn_wide.2 (HC.out.mono ?_)⟩
  rw [← HXE.out]
  rintro e w1 ⟨rfl, hb1⟩
  have HB1 := Lib.hid (HB.out.trans (hb1.mono (by rw [hz.out]; omega)))
  clear HC hb1 HB c0 k0 k1 k2 k3 HXE
  gi_wp2
  refine ⟨.tuple #[.slice none 0 0, .int .i64 E], ?_, rfl, HB1.out⟩
  simp [results, Tryz.results18, go_sem]
/-- the reference's Distance -/
theorem rDistance_bad {w : World} {sa : Option Addr} {l : List Int} (h : Ints w sa l) (sc : Nat) (kind hosts x y : Int) (hE : twoE kind l hosts x y ≠ 0) :
    Calls Tryz.prog 17 #[.agg #[.int .i64 kind, .slice sa l.length sc, .int .i64 hosts], .int .i64 x, .int .i64 y] w fun e w' => e = .returned (.tuple #[.int .i64 0, .int .i64 (twoE kind l hosts x y)]) ∧ Below w.heap.size w w' := by
  have HB := Lib.hid ((Below.refl w.heap.size w).alloc (Nat.le_refl _) (.cells #[.int .i64 kind, .slice sa l.length sc, .int .i64 hosts] 34))
  have c0 := cellR 0 (heap_alloc_new w (.cells #[.int .i64 kind, .slice sa l.length sc, .int .i64 hosts] 34)) rfl
  have c1 := cellR 1 (heap_alloc_new w (.cells #[.int .i64 kind, .slice sa l.length sc, .int .i64 hosts] 34)) rfl
  have c2 := cellR 2 (heap_alloc_new w (.cells #[.int .i64 kind, .slice sa l.length sc, .int .i64 hosts] 34)) rfl
  have H1 := Lib.hid (rTwo_any (h.keep HB.out) sc kind hosts x y)
  have hne : (twoE kind l hosts x y != 0) = true := bne_iff_ne.2 hE
  generalize twoE kind l hosts x y = E at *
  clear h hE
  go_enter Tryz.func17, Tryz.ntmps17
  go_wp2_with fail
  generalize w.alloc (.cells #[.int .i64 kind, .slice sa l.length sc, .int .i64 hosts] 34) = X at *
  refine H1.out.mono ?_
  rintro e w1 ⟨rfl, hb1⟩
  have HB1 := Lib.hid (HB.out.trans (hb1.mono HB.out.size))
  clear H1 hb1 HB c0 c1 c2
  go_wp2_with fail
  go_ret2
  exact ⟨rfl, HB1.out⟩
theorem rDistance_ok {w : World} {sa : Option Addr} {l : List Int} (h : Ints w sa l) (sc : Nat) (kind hosts : Int) {xn yn N : Nat} (hv : vOk kind l hosts) (hN : swI kind l = (N : Int)) (h1 : xn < N) (g1 : yn < N) :
    Calls Tryz.prog 17 #[.agg #[.int .i64 kind, .slice sa l.length sc, .int .i64 hosts], .int .i64 (xn : Int), .int .i64 (yn : Int)] w fun e w' => ∃ d, e = .returned (.tuple #[.int .i64 d, .int .i64 0]) ∧ DistAt (nbS kind l) (yn : Int) (xn : Int) d ∧ Below w.heap.size w w' := by
  have HB := Lib.hid ((Below.refl w.heap.size w).alloc (Nat.le_refl _) (.cells #[.int .i64 kind, .slice sa l.length sc, .int .i64 hosts] 34))
  have Q0 := Lib.hid (heap_alloc_new w (.cells #[.int .i64 kind, .slice sa l.length sc, .int .i64 hosts] 34))
  have c0 := cellR 0 Q0.out rfl
  have c1 := cellR 1 Q0.out rfl
  have c2 := cellR 2 Q0.out rfl
  have hE : twoE kind l hosts (xn : Int) (yn : Int) = 0 := by unfold twoE; rw [if_pos hv, if_pos (by simp [inB]; omega)]
  have H1 := Lib.hid (rTwo_any (h.keep HB.out) sc kind hosts (xn : Int) (yn : Int))
  rw [hE] at H1
  have HD : Hid (∀ W, Below w.heap.size w W → Calls Tryz.prog 59 #[.agg #[.int .i64 kind, .slice sa l.length sc, .int .i64 hosts], .int .i64 (yn : Int)] W fun e w' => ∃ g dl, e = .returned (.slice (some ⟨g, 0, none⟩) N N) ∧ RowAt w' g dl ∧ W.heap.size ≤ g ∧ dl.length = N ∧ (∀ x : Nat, x < N → DistAt (nbS kind l) (yn : Int) (x : Int) (dl.getD x 0)) ∧ Below W.heap.size W w') := fun W hb => rDistances_any (h.keep hb) sc hv hN g1
  have HXL : Hid (xn < N) := h1
  clear h hE hv hN h1 g1
  generalize l.length = M at *
  go_enter Tryz.func17, Tryz.ntmps17
  go_wp2_with fail
  generalize w.alloc (.cells #[.int .i64 kind, .slice sa M sc, .int .i64 hosts] 34) = X at *
  refine H1.out.mono ?_
  rintro e w1 ⟨rfl, hb1⟩
  replace Q0 := Lib.hid (heapB hb1 Q0.out)
  have HB1 := Lib.hid (HB.out.trans (hb1.mono HB.out.size))
  clear H1 hb1 HB c0 c1 c2
  have c0 := cellR 0 Q0.out rfl
  have c1 := cellR 1 Q0.out rfl
  have c2 := cellR 2 Q0.out rfl
  go_wp2_with fail
  refine (HD.out _ HB1.out).mono ?_
  rintro e w2 ⟨g, dl, rfl, hr, hg, hlen, hdi, hb2⟩
  have hxs := HXL.out
  have cx := hr.cell xn (by rw [hlen]; exact hxs)
  have HF : Hid (DistAt (nbS kind l) (yn : Int) (xn : Int) (dl[xn]'(by rw [hlen]; exact hxs)) ∧ Below w.heap.size w w2) := by
    have h9 := hdi xn hxs
    rw [show dl.getD xn 0 = dl[xn]'(by rw [hlen]; exact hxs) by simp [List.getD, hlen, hxs]] at h9
    exact ⟨h9, HB1.out.trans (hb2.mono HB1.out.size)⟩
  generalize dl[xn]'(by rw [hlen]; exact hxs) = dv at *
  clear HD hr hdi hb2 hlen HB1 c0 c1 c2 Q0
  go_wp2_with fail
  go_ret2
  exact ⟨dv, rfl, HF.out.1, HF.out.2⟩
end Go.Proofs.YtbhkenphcahifaaGreat

namespace Go.Proofs.YtbhkenphcahifaaGreat
open Go.RowKit Go.Shelf
attribute [local go_sem] Oper.semAt_some
set_option maxRecDepth 100000
set_option maxHeartbeats 4000000

theorem rHops_bad {w : World} {sa : Option Addr} {l : List Int} (h : Ints w sa l) (sc : Nat) (kind hosts x y : Int) (hE : twoE kind l hosts x y ≠ 0) :
    Calls Tryz.prog 19 #[.agg #[.int .i64 kind, .slice sa l.length sc, .int .i64 hosts], .int .i64 x, .int .i64 y] w fun e w' => e = .returned (.tuple #[.slice none 0 0, .int .i64 (twoE kind l hosts x y)]) ∧ Below w.heap.size w w' := by
  have HB := Lib.hid ((Below.refl w.heap.size w).alloc (Nat.le_refl _) (.cells #[.int .i64 kind, .slice sa l.length sc, .int .i64 hosts] 34))
  have c0 := cellR 0 (heap_alloc_new w (.cells #[.int .i64 kind, .slice sa l.length sc, .int .i64 hosts] 34)) rfl
  have c1 := cellR 1 (heap_alloc_new w (.cells #[.int .i64 kind, .slice sa l.length sc, .int .i64 hosts] 34)) rfl
  have c2 := cellR 2 (heap_alloc_new w (.cells #[.int .i64 kind, .slice sa l.length sc, .int .i64 hosts] 34)) rfl
  have H1 := Lib.hid (rTwo_any (h.keep HB.out) sc kind hosts x y)
  have hne : (twoE kind l hosts x y != 0) = true := bne_iff_ne.2 hE
  generalize twoE kind l hosts x y = E at *
  clear h hE
  go_enter Tryz.func19, Tryz.ntmps19
  go_wp2_with fail
  generalize w.alloc (.cells #[.int .i64 kind, .slice sa l.length sc, .int .i64 hosts] 34) = X at *
  refine H1.out.mono ?_
  rintro e w1 ⟨rfl, hb1⟩
  have HB1 := Lib.hid (HB.out.trans (hb1.mono HB.out.size))
  clear H1 hb1 HB c0 c1 c2
  go_wp2_with fail
  go_ret2
  exact ⟨rfl, HB1.out⟩
theorem rHops_ok {w : World} {sa : Option Addr} {l : List Int} (h : Ints w sa l) (sc : Nat) (kind hosts : Int) {xn yn N : Nat} (hv : vOk kind l hosts) (hN : swI kind l = (N : Int)) (h1 : xn < N) (g1 : yn < N) :
    Calls Tryz.prog 19 #[.agg #[.int .i64 kind, .slice sa l.length sc, .int .i64 hosts], .int .i64 (xn : Int), .int .i64 (yn : Int)] w fun e w' => ∃ v dl, e = .returned (.tuple #[v, .int .i64 0]) ∧ (∀ a : Nat, a < N → DistAt (nbS kind l) (yn : Int) (a : Int) (dl.getD a 0)) ∧ NewInts w.heap.size w' v (nearL dl xn (nbS kind l (xn : Int))) ∧ Below w.heap.size w w' := by
  have HB := Lib.hid ((Below.refl w.heap.size w).alloc (Nat.le_refl _) (.cells #[.int .i64 kind, .slice sa l.length sc, .int .i64 hosts] 34))
  have Q0 := Lib.hid (heap_alloc_new w (.cells #[.int .i64 kind, .slice sa l.length sc, .int .i64 hosts] 34))
  have c0 := cellR 0 Q0.out rfl
  have c1 := cellR 1 Q0.out rfl
  have c2 := cellR 2 Q0.out rfl
  have hE : twoE kind l hosts (xn : Int) (yn : Int) = 0 := by unfold twoE; rw [if_pos hv, if_pos (by simp [inB]; omega)]
  have H1 := Lib.hid (rTwo_any (h.keep HB.out) sc kind hosts (xn : Int) (yn : Int))
  rw [hE] at H1
  have HD : Hid (∀ W, Below w.heap.size w W → Calls Tryz.prog 59 #[.agg #[.int .i64 kind, .slice sa l.length sc, .int .i64 hosts], .int .i64 (yn : Int)] W fun e w' => ∃ g dl, e = .returned (.slice (some ⟨g, 0, none⟩) N N) ∧ RowAt w' g dl ∧ W.heap.size ≤ g ∧ dl.length = N ∧ (∀ x : Nat, x < N → DistAt (nbS kind l) (yn : Int) (x : Int) (dl.getD x 0)) ∧ Below W.heap.size W w') := fun W hb => rDistances_any (h.keep hb) sc hv hN g1
  have HNB : Hid (∀ W, Below w.heap.size w W → Calls Tryz.prog 52 #[.agg #[.int .i64 kind, .slice sa l.length sc, .int .i64 hosts], .int .i64 (xn : Int)] W fun e w' => ∃ v, e = .returned v ∧ NewInts W.heap.size w' v (nbS kind l (xn : Int)) ∧ Below W.heap.size W w') := fun W hb => rNeighbors_any (h.keep hb) sc hv (by omega) (by rw [hN]; omega)
  have HIN : Hid (∀ z ∈ nbS kind l (xn : Int), 0 ≤ z ∧ z < (N : Int)) := fun z hz => by
    have := (net_sym hv (x := (xn : Int)) (by omega) (by rw [hN]; omega) z hz).1
    rw [hN] at this; exact this
  have HDS : Hid (∀ (a : Nat) d, a < N → DistAt (nbS kind l) (yn : Int) (a : Int) d → 0 ≤ d ∧ d ≤ 200000) := fun a d ha hd => by
    have hsw := sw_max hv
    obtain ⟨k, rfl, hk, _⟩ := dist_small hv (x := (a : Int)) (y := (yn : Int)) (by omega) (by rw [hN]; omega) (by omega) (by rw [hN]; omega) hd
    omega
  have HKL : Hid ((nbS kind l (xn : Int)).length ≤ 100000) := nbS_len hv _
  have HXL : Hid (xn < N) := h1
  have HNN : Hid (N ≤ 256) := by have := sw_max hv; show _ ≤ _; omega
  clear h hE hv hN h1 g1
  obtain ⟨K, hK⟩ : ∃ K, K = nbS kind l (xn : Int) := ⟨_, rfl⟩
  rw [← hK] at HNB HIN HKL
  have HKE := Lib.hid hK
  clear hK
  generalize l.length = M at *
  go_enter Tryz.func19, Tryz.ntmps19
  go_wp2_with fail
  generalize w.alloc (.cells #[.int .i64 kind, .slice sa M sc, .int .i64 hosts] 34) = X at *
  refine H1.out.mono ?_
  rintro e w1 ⟨rfl, hb1⟩
  replace Q0 := Lib.hid (heapB hb1 Q0.out)
  have HB1 := Lib.hid (HB.out.trans (hb1.mono HB.out.size))
  clear H1 hb1 HB c0 c1 c2
  have c0 := cellR 0 Q0.out rfl
  have c1 := cellR 1 Q0.out rfl
  have c2 := cellR 2 Q0.out rfl
  go_wp2_with fail
  refine (HD.out _ HB1.out).mono ?_
  rintro e w2 ⟨g, dl, rfl, hr, hg, hlen, hdi, hb2⟩
  replace Q0 := Lib.hid (heapB hb2 Q0.out)
  replace HB1 := Lib.hid (HB1.out.trans (hb2.mono HB1.out.size))
  have HR2 := Lib.hid hr
  have HLEN := Lib.hid hlen
  have HDI := Lib.hid hdi
  clear HD hb2 c0 c1 c2 hr hlen hdi hg
  have c0 := cellR 0 Q0.out rfl
  have c1 := cellR 1 Q0.out rfl
  have c2 := cellR 2 Q0.out rfl
  go_wp2_with fail
  refine (HNB.out _ HB1.out).mono ?_
  rintro e w3 ⟨nv, rfl, hn, hb3⟩
  obtain ⟨an, cn, rfl, hin⟩ := hn.ints
  replace HB1 := Lib.hid (HB1.out.trans (hb3.mono HB1.out.size))
  have HR3 := Lib.hid (HR2.out.keep hb3)
  have HK3 := Lib.hid hin
  have HWS : Hid (w.heap.size ≤ w3.heap.size) := HB1.out.size
  clear HNB HR2 hn hb3 hin c0 c1 c2 Q0
  have HDI2 : Hid (∀ a : Nat, a < N → DistAt (nbS kind l) (yn : Int) (a : Int) (dl.getD a 0)) := HDI.out
  go_wp2_with fail
  have HS0 : Hid (NewInts w3.heap.size w3 (.slice none 0 0) (nearL dl xn (K.take 0)) ∧ Below w3.heap.size w3 w3) := ⟨⟨World.ownsRow_nil _ _ _ _, by simp [nearL]⟩, Below.refl _ _⟩
  go_loopw [11, 12] (fun v iv wr => ∃ (i : Nat), i ≤ K.length ∧ iv = .int .i64 (i : Int) ∧ Hid (NewInts w3.heap.size wr v (nearL dl xn (K.take i)) ∧ Below w3.heap.size w3 wr)) (fun _ iv _ => K.length - (intOf iv).toNat)
  case atStart => exact ⟨0, Nat.zero_le _, rfl, HS0⟩
  case round =>
    clear HS0
    obtain ⟨i, hi, rfl, HI⟩ := hrel
    have hkl := HKL.out
    by_cases hlt : i < K.length
    · obtain ⟨gn, on, rfl, hcn⟩ := (HK3.out.keep HI.out.2).at_ (ne_nil_of_lt hlt)
      have czn := hcn i hlt
      have hzK := HIN.out K[i] (List.getElem_mem hlt)
      obtain ⟨zi, hzi⟩ : ∃ zi, zi = K[i] := ⟨_, rfl⟩
      rw [← hzi] at hzK czn
      obtain ⟨hz0, hz1⟩ := hzK
      obtain ⟨zn, rfl⟩ := Int.eq_ofNat_of_zero_le hz0
      have hzm : zn < N := by omega
      have hxm := HXL.out
      have hrow := HR3.out.keep HI.out.2
      have cdz := hrow.cell zn (by rw [HLEN.out]; exact hzm)
      have cdx := hrow.cell xn (by rw [HLEN.out]; exact hxm)
      obtain ⟨dz, hdz⟩ : ∃ dz, dz = dl.getD zn 0 := ⟨_, rfl⟩
      obtain ⟨dx, hdx⟩ : ∃ dx, dx = dl.getD xn 0 := ⟨_, rfl⟩
      rw [show dl[zn]'(by rw [HLEN.out]; exact hzm) = dz by rw [hdz]; simp [List.getD, HLEN.out, hzm]] at cdz
      rw [show dl[xn]'(by rw [HLEN.out]; exact hxm) = dx by rw [hdx]; simp [List.getD, HLEN.out, hxm]] at cdx
      have bdx := HDS.out xn dx hxm (by rw [hdx]; exact HDI.out xn hxm)
      have HTK : Hid (nearL dl xn (K.take (i + 1)) = nearL dl xn (K.take i) ++ (if (dz == dx - 1) = true then [(zn : Int)] else [])) := by
        show _ = _
        rw [List.take_succ_eq_append_getElem hlt, nearL_snoc, ← hzi, Int.toNat_natCast, ← hdz, ← hdx]
      have HNL : Hid ((nearL dl xn (K.take i)).length ≤ 100000) := by
        show _ ≤ _
        unfold nearL
        refine Nat.le_trans (List.length_filter_le _ _) ?_
        rw [List.length_take]; omega
      have d1 : decide ((i : Int) < (K.length : Int)) = true := decide_eq_true (by omega)
      have HWI := Lib.hid (wrap_small ((i : Int) + 1) (by omega) (by omega))
      have HCS : Hid (((i : Int) + 1) = ((i + 1 : Nat) : Int)) := by show _ = _; rw [Int.natCast_add]; rfl
      have HME : Hid (K.length - (intOf (.int .i64 ((i : Int) + 1))).toNat < K.length - (intOf (.int .i64 (i : Int))).toNat) := by show _ < _; simp [intOf]; omega
      have HMO : Hid (K.length - (intOf (.int .i64 (wrap64 ((i : Int) + 1)))).toNat < K.length - (intOf (.int .i64 (i : Int))).toNat) := by show _ < _; rw [HWI.out]; exact HME.out
      have HK1 : Hid (i + 1 ≤ K.length) := hlt
      clear hcn hzi hz0 hz1 hrow hdz hdx hkl hi
      go_wp2_with fail
      go_quiet (fail)
      have HI9 : Hid (NewInts w3.heap.size (wr.drewN nq) u11 (nearL dl xn (K.take i)) ∧ Below w3.heap.size w3 (wr.drewN nq)) := ⟨HI.out.1.keep2 (below_drewN (Below.refl _ _) _), below_drewN HI.out.2 _⟩
      have cz9 : (wr.drewN nq).cell? ⟨gn, on + i, none⟩ = some (.int .i64 (zn : Int)) := czn
      clear HI czn cdz cdx
      generalize wr.drewN nq = W9 at *
      by_cases he : (dz == dx - 1) = true
      · obtain ⟨v', w2', hr, hn2, hb2⟩ := appOne HI9.out.1 (zn : Int) (by have := HNL.out; omega) HI9.out.2.size
        have HI2 : Hid (NewInts w3.heap.size w2' v' (nearL dl xn (K.take (i + 1))) ∧ Below w3.heap.size w3 w2') := by
          refine ⟨?_, HI9.out.2.trans hb2⟩
          rw [HTK.out, if_pos he]; exact hn2
        have HR := Lib.hid hr
        clear hr hn2 hb2
        go_wp2_with (at_builtin; refine Lib.wpList_append_run _ rfl (.tmp 45) (.tmp 50) 22 22 rfl _ _ rfl rfl _ _ HR.out ?_)
        go_roundw
        case rel => exact ⟨i + 1, HK1.out, by first | rw [HWI.out, HCS.out] | rw [HCS.out], HI2⟩
        case measure => first | exact HMO.out | exact HME.out
      · have he2 : (dz == dx - 1) = false := by simpa using he
        have HI2 : Hid (NewInts w3.heap.size W9 u11 (nearL dl xn (K.take (i + 1))) ∧ Below w3.heap.size w3 W9) := by
          rw [HTK.out, if_neg he, List.append_nil]; exact HI9
        clear he
        go_wp2_with fail
        go_roundw
        case rel => exact ⟨i + 1, HK1.out, by first | rw [HWI.out, HCS.out] | rw [HCS.out], HI2⟩
        case measure => first | exact HMO.out | exact HME.out
    · have hin : i = K.length := by omega
      subst hin
      have d1 : decide ((K.length : Int) < (K.length : Int)) = false := decide_eq_false (by omega)
      have HF : Hid (NewInts w.heap.size wr u11 (nearL dl xn (nbS kind l (xn : Int))) ∧ Below w.heap.size w wr) := by
        have h8 := HI.out.1
        rw [List.take_length, HKE.out] at h8
        exact ⟨⟨ownsRow_low h8.own HWS.out, h8.len⟩, HB1.out.trans (HI.out.2.mono HWS.out)⟩
      clear HI hlt hi hkl
      go_wp2_with fail
      go_ret2
      exact ⟨u11, dl, rfl, HDI.out, HF.out.1, HF.out.2⟩
end Go.Proofs.YtbhkenphcahifaaGreat

namespace Go.Proofs.YtbhkenphcahifaaGreat
open Go.RowKit Go.Shelf
attribute [local go_sem] Oper.semAt_some
set_option maxRecDepth 100000
set_option maxHeartbeats 4000000

theorem few_any {w : World} {sa : Option Addr} {l : List Int} (h : Ints w sa l) (sc : Nat) (kind hosts n : Int) :
    Calls Tryz.prog 8 #[.agg #[.int .i64 kind, .slice sa l.length sc, .int .i64 hosts], .int .i64 n] w fun e w' => ∃ b, e = .returned (.bool b) ∧ Below w.heap.size w w' := by
  have HB := Lib.hid ((Below.refl w.heap.size w).alloc (Nat.le_refl _) (.cells #[.int .i64 kind, .slice sa l.length sc, .int .i64 hosts] 24))
  have Q0 := Lib.hid (heap_alloc_new w (.cells #[.int .i64 kind, .slice sa l.length sc, .int .i64 hosts] 24))
  have c0 := cellR 0 Q0.out rfl
  have c1 := cellR 1 Q0.out rfl
  have c2 := cellR 2 Q0.out rfl
  have HSP := Lib.hid (fun W => spec_any sa l.length sc kind hosts W)
  have HSZ : Hid (∀ W, Below w.heap.size w W → Calls Tryz.prog 40 #[.agg #[.int .i64 kind, .slice sa l.length sc, .int .i64 hosts]] W fun e w' => e = .returned (.tuple #[.int .i64 (szI kind l hosts), .int .i64 (hsI kind l hosts), .int .i64 (errI kind l hosts)]) ∧ Below W.heap.size W w') := fun W hb => rSize_any (h.keep hb) sc kind hosts
  generalize szI kind l hosts = S1 at *
  generalize hsI kind l hosts = S2 at *
  generalize errI kind l hosts = S3 at *
  clear h
  generalize l.length = M at *
  go_enter Tryz.func8, Tryz.ntmps8
  go_wp2_with fail
  generalize w.alloc (.cells #[.int .i64 kind, .slice sa M sc, .int .i64 hosts] 24) = X at *
  refine (HSP.out _).mono ?_
  rintro e w1 ⟨rfl, hb1⟩
  replace Q0 := Lib.hid (heapB hb1 Q0.out)
  replace HB := Lib.hid (HB.out.trans (hb1.mono HB.out.size))
  clear hb1 c0 c1 c2
  have c0 := cellR 0 Q0.out rfl
  have c1 := cellR 1 Q0.out rfl
  have c2 := cellR 2 Q0.out rfl
  go_wp2_with fail
  refine (HSZ.out _ HB.out).mono ?_
  rintro e w2 ⟨rfl, hb2⟩
  replace Q0 := Lib.hid (heapB hb2 Q0.out)
  replace HB := Lib.hid (HB.out.trans (hb2.mono HB.out.size))
  clear hb2 c0 c1 c2
  have c0 := cellR 0 Q0.out rfl
  have c1 := cellR 1 Q0.out rfl
  have c2 := cellR 2 Q0.out rfl
  by_cases h1 : decide ((M : Int) ≤ 10) = true
  · by_cases h2 : (S3 != 0) = true
    · go_wp2_with fail
      go_ret
      exact ⟨_, rfl, HB.out⟩
    · have h3 : (S3 != 0) = false := by simpa using h2
      clear h2
      go_wp2_with fail
      go_ret
      exact ⟨_, rfl, HB.out⟩
  · have h3 : decide ((M : Int) ≤ 10) = false := by simpa using h1
    clear h1
    go_wp2_with fail
    go_ret
    exact ⟨_, rfl, HB.out⟩
theorem NetDistances_core {w : World} {sa : Option Addr} {l : List Int} (h : Ints w sa l) (sc : Nat) (kind hosts x y E : Int) (PD : Int → Prop) (PH : List Int → Prop)
    (hPD : ∀ a b, PD a → PD b → a = b) (hPH : ∀ a b, PH a → PH b → a = b)
    (H16 : Hid (∀ W, Below w.heap.size w W → Calls Tryz.prog 16 #[.agg #[.int .i64 kind, .slice sa l.length sc, .int .i64 hosts], .int .i64 x, .int .i64 y] W fun e w' => ∃ d, e = .returned (.tuple #[.int .i64 d, .int .i64 E]) ∧ PD d ∧ Below W.heap.size W w')) (H17 : Hid (∀ W, Below w.heap.size w W → Calls Tryz.prog 17 #[.agg #[.int .i64 kind, .slice sa l.length sc, .int .i64 hosts], .int .i64 x, .int .i64 y] W fun e w' => ∃ d, e = .returned (.tuple #[.int .i64 d, .int .i64 E]) ∧ PD d ∧ Below W.heap.size W w'))
    (H18 : Hid (∀ W, Below w.heap.size w W → Calls Tryz.prog 18 #[.agg #[.int .i64 kind, .slice sa l.length sc, .int .i64 hosts], .int .i64 x, .int .i64 y] W fun e w' => ∃ v L, e = .returned (.tuple #[v, .int .i64 E]) ∧ PH L ∧ (∃ a cap, v = .slice a L.length cap ∧ Ints w' a L) ∧ Below W.heap.size W w')) (H19 : Hid (∀ W, Below w.heap.size w W → Calls Tryz.prog 19 #[.agg #[.int .i64 kind, .slice sa l.length sc, .int .i64 hosts], .int .i64 x, .int .i64 y] W fun e w' => ∃ v L, e = .returned (.tuple #[v, .int .i64 E]) ∧ PH L ∧ (∃ a cap, v = .slice a L.length cap ∧ Ints w' a L) ∧ Below W.heap.size W w')) :
    Calls Tryz.prog 4 #[.agg #[.int .i64 kind, .slice sa l.length sc, .int .i64 hosts], .int .i64 x, .int .i64 y] w fun e w' => e = .returned (.bool true) ∧ Below w.heap.size w w' := by
  have HB := Lib.hid ((Below.refl w.heap.size w).alloc (Nat.le_refl _) (.cells #[.int .i64 kind, .slice sa l.length sc, .int .i64 hosts] 24))
  have Q0 := Lib.hid (heap_alloc_new w (.cells #[.int .i64 kind, .slice sa l.length sc, .int .i64 hosts] 24))
  have c0 := cellR 0 Q0.out rfl
  have c1 := cellR 1 Q0.out rfl
  have c2 := cellR 2 Q0.out rfl
  have HSP := Lib.hid (fun W => spec_any sa l.length sc kind hosts W)
  have HFW : Hid (∀ W, Below w.heap.size w W → Calls Tryz.prog 8 #[.agg #[.int .i64 kind, .slice sa l.length sc, .int .i64 hosts], .int .i64 100] W fun e w' => ∃ b, e = .returned (.bool b) ∧ Below W.heap.size W w') := fun W hb => few_any (h.keep hb) sc kind hosts 100
  have HWK := Lib.hid works_any
  have HPD := Lib.hid hPD
  have HPH := Lib.hid hPH
  clear h hPD hPH
  generalize l.length = M at *
  go_enter Tryz.func4, Tryz.ntmps4
  go_wp2_with fail
  generalize w.alloc (.cells #[.int .i64 kind, .slice sa M sc, .int .i64 hosts] 24) = X at *
  refine (HFW.out _ HB.out).mono ?_
  rintro e w1 ⟨b, rfl, hb1⟩
  replace Q0 := Lib.hid (heapB hb1 Q0.out)
  replace HB := Lib.hid (HB.out.trans (hb1.mono HB.out.size))
  clear hb1 c0 c1 c2
  have c0 := cellR 0 Q0.out rfl
  have c1 := cellR 1 Q0.out rfl
  have c2 := cellR 2 Q0.out rfl
  clear HFW
  cases b with
  | false =>
    go_wp2_with fail
    refine (HWK.out _).mono ?_
    rintro e w2 ⟨rfl, hb2⟩
    replace HB := Lib.hid (HB.out.trans (hb2.mono HB.out.size))
    clear hb2 c0 c1 c2 Q0 H16 H17 H18 H19 HSP HWK
    go_wp2_with fail
    go_ret
    exact ⟨rfl, HB.out⟩
  | true =>
    go_wp2_with fail
    refine (H16.out _ HB.out).mono ?_
    rintro e w2 ⟨d, rfl, hd, hb2⟩
    have HD1 := Lib.hid hd
    replace Q0 := Lib.hid (heapB hb2 Q0.out)
    replace HB := Lib.hid (HB.out.trans (hb2.mono HB.out.size))
    clear hb2 c0 c1 c2
    have c0 := cellR 0 Q0.out rfl
    have c1 := cellR 1 Q0.out rfl
    have c2 := cellR 2 Q0.out rfl
    clear H16 hd
    go_wp2_with fail
    refine (HSP.out _).mono ?_
    rintro e w3 ⟨rfl, hb3⟩
    replace Q0 := Lib.hid (heapB hb3 Q0.out)
    replace HB := Lib.hid (HB.out.trans (hb3.mono HB.out.size))
    clear hb3 c0 c1 c2
    have c0 := cellR 0 Q0.out rfl
    have c1 := cellR 1 Q0.out rfl
    have c2 := cellR 2 Q0.out rfl
    go_wp2_with fail
    refine (H17.out _ HB.out).mono ?_
    rintro e w4 ⟨d2, rfl, hd2, hb4⟩
    obtain rfl := HPD.out _ _ HD1.out hd2
    replace Q0 := Lib.hid (heapB hb4 Q0.out)
    replace HB := Lib.hid (HB.out.trans (hb4.mono HB.out.size))
    clear hb4 c0 c1 c2
    have c0 := cellR 0 Q0.out rfl
    have c1 := cellR 1 Q0.out rfl
    have c2 := cellR 2 Q0.out rfl
    clear H17 hd2 HD1 HPD
    go_wp2_with fail
    refine (H18.out _ HB.out).mono ?_
    rintro e w5 ⟨v1, L1, rfl, hL1, ⟨a1, k1, rfl, i1⟩, hb5⟩
    have HL1 := Lib.hid hL1
    have HI1 := Lib.hid i1
    replace Q0 := Lib.hid (heapB hb5 Q0.out)
    replace HB := Lib.hid (HB.out.trans (hb5.mono HB.out.size))
    clear hb5 c0 c1 c2
    have c0 := cellR 0 Q0.out rfl
    have c1 := cellR 1 Q0.out rfl
    have c2 := cellR 2 Q0.out rfl
    clear H18 hL1 i1
    go_wp2_with fail
    refine (HSP.out _).mono ?_
    rintro e w6 ⟨rfl, hb6⟩
    replace HI1 := Lib.hid (HI1.out.keep hb6)
    replace Q0 := Lib.hid (heapB hb6 Q0.out)
    replace HB := Lib.hid (HB.out.trans (hb6.mono HB.out.size))
    clear hb6 c0 c1 c2
    have c0 := cellR 0 Q0.out rfl
    have c1 := cellR 1 Q0.out rfl
    have c2 := cellR 2 Q0.out rfl
    go_wp2_with fail
    refine (H19.out _ HB.out).mono ?_
    rintro e w7 ⟨v2, L2, rfl, hL2, ⟨a2, k2, rfl, i2⟩, hb7⟩
    obtain rfl := HPH.out _ _ HL1.out hL2
    have HQ := Lib.hid (equal_any (HI1.out.keep hb7) i2 k1 k2)
    replace Q0 := Lib.hid (heapB hb7 Q0.out)
    replace HB := Lib.hid (HB.out.trans (hb7.mono HB.out.size))
    clear hb7 c0 c1 c2
    have c0 := cellR 0 Q0.out rfl
    have c1 := cellR 1 Q0.out rfl
    have c2 := cellR 2 Q0.out rfl
    clear H19 hL2 i2 HL1 HPH HI1 HSP
    have e1 : (d == d) = true := by simp
    have e2 : (E == E) = true := by simp
    have e3 : decide (L1 = L1) = true := by simp
    go_wp2_with fail
    refine HQ.out.mono ?_
    rintro e w8 ⟨rfl, hb8⟩
    replace HB := Lib.hid (HB.out.trans (hb8.mono HB.out.size))
    clear hb8 HQ c0 c1 c2 Q0
    go_wp2_with fail
    refine (HWK.out _).mono ?_
    rintro e w9 ⟨rfl, hb9⟩
    replace HB := Lib.hid (HB.out.trans (hb9.mono HB.out.size))
    clear hb9 HWK
    go_wp2_with fail
    go_ret
    exact ⟨rfl, HB.out⟩
end Go.Proofs.YtbhkenphcahifaaGreat

namespace Go.Proofs.YtbhkenphcahifaaGreat
open Go.RowKit Go.Shelf
set_option maxRecDepth 100000
set_option maxHeartbeats 4000000

theorem two_ok {kind : Int} {l : List Int} {hosts x y : Int} (hE : twoE kind l hosts x y = 0) : vOk kind l hosts ∧ (0 ≤ x ∧ x < swI kind l) ∧ 0 ≤ y ∧ y < swI kind l := by
  unfold twoE at hE
  by_cases hv : vOk kind l hosts
  · rw [if_pos hv] at hE
    by_cases hi : inB (swI kind l) [x, y] = true
    · refine ⟨hv, ?_⟩
      simp [inB] at hi
      omega
    · rw [if_neg hi] at hE; cases hE
  · rw [if_neg hv] at hE; cases hE
theorem near_unique {NB : Int → List Int} {N xn yn : Nat} (hx : xn < N) (hin : ∀ z ∈ NB (xn : Int), 0 ≤ z ∧ z < (N : Int)) {dl dm : List Int} (h1 : ∀ a : Nat, a < N → DistAt NB (yn : Int) (a : Int) (dl.getD a 0)) (h2 : ∀ a : Nat, a < N → DistAt NB (yn : Int) (a : Int) (dm.getD a 0)) : nearL dl xn (NB (xn : Int)) = nearL dm xn (NB (xn : Int)) := by
  have he : ∀ a : Nat, a < N → dl.getD a 0 = dm.getD a 0 := fun a ha => (h1 a ha).unique (h2 a ha)
  unfold nearL
  refine List.filter_congr fun z hz => ?_
  obtain ⟨z0, z1⟩ := hin z hz
  rw [he z.toNat (by omega), he xn hx]
theorem NetDistances_walk {w : World} {sa : Option Addr} {l : List Int} (h : Ints w sa l) (sc : Nat) (kind hosts x y : Int) :
    Calls Tryz.prog 4 #[.agg #[.int .i64 kind, .slice sa l.length sc, .int .i64 hosts], .int .i64 x, .int .i64 y] w fun e w' => e = .returned (.bool true) ∧ Below w.heap.size w w' := by
  by_cases hE : twoE kind l hosts x y = 0
  · obtain ⟨hv, ⟨h0, h1⟩, g0, g1⟩ := two_ok hE
    obtain ⟨xn, rfl⟩ := Int.eq_ofNat_of_zero_le h0
    obtain ⟨yn, rfl⟩ := Int.eq_ofNat_of_zero_le g0
    obtain ⟨N, hN⟩ := Int.eq_ofNat_of_zero_le (show 0 ≤ swI kind l by omega)
    have hx : xn < N := by omega
    have hy : yn < N := by omega
    have hin : ∀ z ∈ nbS kind l (xn : Int), 0 ≤ z ∧ z < (N : Int) := fun z hz => by
      have := (net_sym hv (x := (xn : Int)) (by omega) h1 z hz).1
      rw [hN] at this; exact this
    refine NetDistances_core h sc kind hosts (xn : Int) (yn : Int) 0 (DistAt (nbS kind l) (yn : Int) (xn : Int)) (fun L => ∃ dl, (∀ a : Nat, a < N → DistAt (nbS kind l) (yn : Int) (a : Int) (dl.getD a 0)) ∧ L = nearL dl xn (nbS kind l (xn : Int))) (fun a b ha hb => ha.unique hb) ?_ ?_ ?_ ?_ ?_
    · rintro a b ⟨dl, h3, rfl⟩ ⟨dm, h4, rfl⟩
      exact near_unique hx hin h3 h4
    · exact fun W hb => Distance_ok (h.keep hb) sc kind hosts hv h0 h1 g0 g1
    · exact fun W hb => rDistance_ok (h.keep hb) sc kind hosts hv hN hx hy
    · intro W hb
      refine (Hops_ok (h.keep hb) sc kind hosts hv h1 g1).mono ?_
      rintro e w' ⟨v, dl, rfl, h3, h4, h5⟩
      exact ⟨v, _, rfl, ⟨dl, fun a ha => h3 a (by omega), rfl⟩, h4.ints, h5⟩
    · intro W hb
      refine (rHops_ok (h.keep hb) sc kind hosts hv hN hx hy).mono ?_
      rintro e w' ⟨v, dl, rfl, h3, h4, h5⟩
      exact ⟨v, _, rfl, ⟨dl, h3, rfl⟩, h4.ints, h5⟩
  · refine NetDistances_core h sc kind hosts x y (twoE kind l hosts x y) (fun d => d = 0) (fun L => L = []) (fun a b ha hb => ha.trans hb.symm) (fun a b ha hb => ha.trans hb.symm) ?_ ?_ ?_ ?_
    · intro W hb
      refine (Distance_bad (h.keep hb) sc kind hosts x y hE).mono ?_
      rintro e w' ⟨rfl, h5⟩
      exact ⟨0, rfl, rfl, h5⟩
    · intro W hb
      refine (rDistance_bad (h.keep hb) sc kind hosts x y hE).mono ?_
      rintro e w' ⟨rfl, h5⟩
      exact ⟨0, rfl, rfl, h5⟩
    · intro W hb
      refine (Hops_bad (h.keep hb) sc kind hosts x y hE).mono ?_
      rintro e w' ⟨rfl, h5⟩
      exact ⟨_, [], rfl, rfl, ⟨none, 0, rfl, ints_nil _⟩, h5⟩
    · intro W hb
      refine (rHops_bad (h.keep hb) sc kind hosts x y hE).mono ?_
      rintro e w' ⟨rfl, h5⟩
      exact ⟨_, [], rfl, rfl, ⟨none, 0, rfl, ints_nil _⟩, h5⟩
end Go.Proofs.YtbhkenphcahifaaGreat

namespace Go.Proofs.YtbhkenphcahifaaGreat
open Go.RowKit Go.Shelf
attribute [local go_sem] Oper.semAt_some
set_option maxRecDepth 100000
set_option maxHeartbeats 4000000

/-- a row of pairs of one's own -/
def pairsV (L : List (Int × Int)) : List Value := L.flatMap fun p => [.int .i64 p.1, .int .i64 p.2]
theorem pairs_len (L : List (Int × Int)) : (pairsV L).length = L.length * 2 := by
  induction L with
  | nil => rfl
  | cons a L ih => unfold pairsV at ih ⊢; simp [ih]; omega
structure NewPairs (e : TypeId) (B : Nat) (w : World) (v : Value) (L : List (Int × Int)) : Prop where
  own : w.ownsRow B e 2 v L.length (pairsV L)
theorem NewPairs.keep2 {e : TypeId} {w w' : World} {lo : Nat} {v : Value} {L : List (Int × Int)} (h : NewPairs e lo w v L) (hb : Below w.heap.size w w') : NewPairs e lo w' v L := ⟨ownsRow_bl h.own hb⟩
/-- one more pair in a row of one's own -/
theorem appPair {t e : TypeId} (ht : Tryz.prog.underlying t = some (.slice e)) (hie : (Tryz.prog.info? e).map (fun i => (i.zero, i.size, i.bytes)) = some (some (.agg #[.int .i64 0, .int .i64 0]), 2, 16))
    {w : World} {lo : Nat} {v : Value} {R : List (Int × Int)} (h : NewPairs e lo w v R) (p : Int × Int) (hl : R.length ≤ 1000000) (hs : lo ≤ w.heap.size) :
    ∃ g cap w2, (Builtin.append_ #[t, t] t #[v, .slice (some ⟨w.heap.size, 0, none⟩) 1 1]).run Tryz.prog (w.alloc (.cells #[.int .i64 p.1, .int .i64 p.2] e)) = .ok (.slice (some ⟨g, 0, none⟩) (R.length + 1) cap) w2 ∧
      NewPairs e lo w2 (.slice (some ⟨g, 0, none⟩) (R.length + 1) cap) (R ++ [p]) ∧ (w.alloc (.cells #[.int .i64 p.1, .int .i64 p.2] e)).grownBy w2 v.ownBlock ∧ (v.ownBlock = some g ∨ w.heap.size < g) ∧ w.heap.size + 1 ≤ w2.heap.size := by
  obtain ⟨i0, hi, hz0, hz1, hz2⟩ := info_parts hie
  obtain ⟨g, cap, w2, hr, hown, hgrow, hat, hlt⟩ := run_append_lies (P := Tryz.prog) (w.alloc (.cells #[.int .i64 p.1, .int .i64 p.2] e)) t t lo e i0 (.agg #[.int .i64 0, .int .i64 0]) 2 16 ht hi hz0 hz1 hz2 (by simp [Value.cells, go_sem]) (by decide) v R.length (pairsV R) (h.own.alloc _) ⟨w.heap.size, 0, none⟩ 1 1 [.int .i64 p.1, .int .i64 p.2] (by simp)
    (World.news_of_block (cs := #[.int .i64 p.1, .int .i64 p.2]) (heap_alloc_new w (.cells #[.int .i64 p.1, .int .i64 p.2] e))) (by intro u hu; simp at hu; rcases hu with rfl | rfl <;> rfl) (by decide) (by unfold maxLen; omega) (by omega) (by simp; omega) _ rfl
  have hsz := hgrow.size
  simp at hsz
  refine ⟨g, cap, w2, hr, ⟨?_⟩, hgrow, ?_, hsz⟩
  · have e1 : pairsV (R ++ [p]) = pairsV R ++ [.int .i64 p.1, .int .i64 p.2] := by unfold pairsV; simp [List.flatMap_append]
    rw [e1]; simpa using hown
  · rcases hat with e | e
    · exact .inl e
    · simp at e; exact .inr (by omega)
theorem infoP37 : (Tryz.prog.info? 37).map (fun i => (i.zero, i.size, i.bytes)) = some (some (.agg #[.int .i64 0, .int .i64 0]), 2, 16) := by kernel_rfl
theorem infoP38 : (Tryz.prog.info? 38).map (fun i => (i.zero, i.size, i.bytes)) = some (some (.agg #[.int .i64 0, .int .i64 0]), 2, 16) := by kernel_rfl
/-- the reference's links: the row, what is older, the box -/
structure LS (w : World) (ROW : Array Value) (L : List (Int × Int)) (v : Value) (wr : World) : Prop where
  que : NewPairs 37 (w.heap.size + 1) wr v L
  bel : Below w.heap.size w wr
  box : wr.heap[w.heap.size]? = some (.cells ROW 34 (0, 0))
  lt : w.heap.size < wr.heap.size
theorem LS.later {w wr w' : World} {ROW : Array Value} {L : List (Int × Int)} {v : Value} (h : LS w ROW L v wr) (hb : Below wr.heap.size wr w') : LS w ROW L v w' :=
  ⟨h.que.keep2 hb, h.bel.trans (hb.mono h.bel.size), heapB hb h.box, Nat.lt_of_lt_of_le h.lt hb.size⟩
theorem LS.push {w wr : World} {ROW : Array Value} {L : List (Int × Int)} {v : Value} (h : LS w ROW L v wr) (p : Int × Int) (hl : L.length ≤ 1000000) :
    ∃ v' w2, (Builtin.append_ #[31, 31] 31 #[v, .slice (some ⟨wr.heap.size, 0, none⟩) 1 1]).run Tryz.prog (wr.alloc (.cells #[.int .i64 p.1, .int .i64 p.2] 37)) = .ok v' w2 ∧ LS w ROW (L ++ [p]) v' w2 ∧ (∀ b, b < wr.heap.size → v.ownBlock ≠ some b → w2.heap[b]? = wr.heap[b]? ∧ v'.ownBlock ≠ some b) ∧ wr.heap.size ≤ w2.heap.size := by
  have hlt := h.lt
  obtain ⟨b, cap, w2, hr, hn, hg, hat, hz⟩ := appPair Tryz.underlying31 infoP37 h.que p hl (by omega)
  have hal : Below wr.heap.size wr (wr.alloc (.cells #[.int .i64 p.1, .int .i64 p.2] 37)) := (Below.refl _ _).alloc (Nat.le_refl _) _
  have hne : ∀ k, k < wr.heap.size → v.ownBlock ≠ some k → w2.heap[k]? = wr.heap[k]? := fun k hk hv => (hg.block k (by simp; omega) (fun e => hv e.symm)).trans (hal.block k hk)
  have hge : ∀ k, v.ownBlock = some k → w.heap.size + 1 ≤ k := fun k hk => (h.que.own.lt k hk).1
  have hbel : Below (w.heap.size + 1) wr w2 := ⟨hg.os.trans hal.os, hg.tape.trans hal.tape, hg.output.trans hal.output, by have := hal.size; omega, fun k hk => hne k (by omega) (fun e => by have := hge k e; omega)⟩
  refine ⟨_, w2, hr, ⟨hn, h.bel.trans (hbel.mono (by omega)), (hbel.block _ (by omega)).trans h.box, by omega⟩, fun k hk hv => ⟨hne k hk hv, ?_⟩, by omega⟩
  rintro hk2
  obtain rfl : b = k := by simpa [Value.ownBlock] using hk2
  rcases hat with e | e
  · exact hv e
  · omega
theorem selL_len (x : Int) (K : List Int) : (selL x K).length ≤ K.length := by
  unfold selL
  rw [List.length_map]
  exact List.length_filter_le _ _
theorem lkL_len {NB : Int → List Int} {N : Nat} (h : ∀ x : Nat, x < N → (NB (x : Int)).length ≤ N) : ∀ i, i ≤ N → (lkL NB i).length ≤ i * N
  | 0, _ => by simp [lkL]
  | i + 1, hi => by
    have h1 := lkL_len h i (by omega)
    have h2 := selL_len (i : Int) (NB (i : Int))
    have h3 := h i (by omega)
    rw [lkL, List.length_append, Nat.add_mul, Nat.one_mul]
    omega
theorem nbS_few {kind : Int} {l : List Int} {hosts : Int} (hv : vOk kind l hosts) {N : Nat} (hN : swI kind l = (N : Int)) {x : Int} (h0 : 0 ≤ x) (h1 : x < (N : Int)) : (nbS kind l x).length ≤ N := by
  have := flt_len kind l x N
  have h2 := nbS_filter hv h0 (by rw [hN]; exact h1)
  rw [hN, Int.toNat_natCast] at h2
  unfold fltS at this
  rwa [h2] at this
theorem rLinks_bad {w : World} {sa : Option Addr} {l : List Int} (h : Ints w sa l) (sc : Nat) (kind hosts : Int) (hE : errI kind l hosts ≠ 0) :
    Calls Tryz.prog 11 #[.agg #[.int .i64 kind, .slice sa l.length sc, .int .i64 hosts]] w fun e w' => e = .returned (.tuple #[.slice none 0 0, .int .i64 (errI kind l hosts)]) ∧ Below w.heap.size w w' := by
  have HB := Lib.hid ((Below.refl w.heap.size w).alloc (Nat.le_refl _) (.cells #[.int .i64 kind, .slice sa l.length sc, .int .i64 hosts] 34))
  have c0 := cellR 0 (heap_alloc_new w (.cells #[.int .i64 kind, .slice sa l.length sc, .int .i64 hosts] 34)) rfl
  have c1 := cellR 1 (heap_alloc_new w (.cells #[.int .i64 kind, .slice sa l.length sc, .int .i64 hosts] 34)) rfl
  have c2 := cellR 2 (heap_alloc_new w (.cells #[.int .i64 kind, .slice sa l.length sc, .int .i64 hosts] 34)) rfl
  have H1 := Lib.hid (rCheck_any (h.keep HB.out) sc kind hosts)
  have hne : (errI kind l hosts != 0) = true := bne_iff_ne.2 hE
  generalize errI kind l hosts = E at *
  clear h hE
  go_enter Tryz.func11, Tryz.ntmps11
  go_wp2_with fail
  generalize w.alloc (.cells #[.int .i64 kind, .slice sa l.length sc, .int .i64 hosts] 34) = X at *
  refine H1.out.mono ?_
  rintro e w1 ⟨rfl, hb1⟩
  have HB1 := Lib.hid (HB.out.trans (hb1.mono HB.out.size))
  clear H1 hb1 HB c0 c1 c2
  go_wp2_with fail
  go_ret2
  exact ⟨rfl, HB1.out⟩
theorem rLinks_ok {w : World} {sa : Option Addr} {l : List Int} (h : Ints w sa l) (sc : Nat) (kind hosts : Int) {N : Nat} (hv : vOk kind l hosts) (hN : swI kind l = (N : Int)) :
    Calls Tryz.prog 11 #[.agg #[.int .i64 kind, .slice sa l.length sc, .int .i64 hosts]] w fun e w' => ∃ v, e = .returned (.tuple #[v, .int .i64 0]) ∧ NewPairs 37 w.heap.size w' v (lkL (nbS kind l) N) ∧ Below w.heap.size w w' := by
  have HB := Lib.hid ((Below.refl w.heap.size w).alloc (Nat.le_refl _) (.cells #[.int .i64 kind, .slice sa l.length sc, .int .i64 hosts] 34))
  have Q0 := Lib.hid (heap_alloc_new w (.cells #[.int .i64 kind, .slice sa l.length sc, .int .i64 hosts] 34))
  have c0 := cellR 0 Q0.out rfl
  have c1 := cellR 1 Q0.out rfl
  have c2 := cellR 2 Q0.out rfl
  have H1 := Lib.hid (rCheck_any (h.keep HB.out) sc kind hosts)
  rw [show errI kind l hosts = 0 from if_pos hv] at H1
  have HSW : Hid (∀ W, Below w.heap.size w W → Calls Tryz.prog 51 #[.agg #[.int .i64 kind, .slice sa l.length sc, .int .i64 hosts]] W fun e w' => e = .returned (.int .i64 (N : Int)) ∧ Below W.heap.size W w') := fun W hb => by
    have := rSwitches_any (h.keep hb) sc kind hosts hv
    rwa [hN] at this
  have HNB : Hid (∀ W, Below w.heap.size w W → ∀ x : Nat, x < N → Calls Tryz.prog 52 #[.agg #[.int .i64 kind, .slice sa l.length sc, .int .i64 hosts], .int .i64 (x : Int)] W fun e w' => ∃ v, e = .returned v ∧ NewInts W.heap.size w' v (nbS kind l (x : Int)) ∧ Below W.heap.size W w') := fun W hb x hx => rNeighbors_any (h.keep hb) sc hv (by omega) (by rw [hN]; omega)
  have HLN : Hid (∀ x : Nat, x < N → (nbS kind l (x : Int)).length ≤ N) := fun x hx => nbS_few hv hN (by omega) (by omega)
  have HNN : Hid (N ≤ 256) := by have := sw_max hv; show _ ≤ _; omega
  have HIN : Hid (∀ x : Nat, x < N → ∀ z ∈ nbS kind l (x : Int), 0 ≤ z ∧ z < (N : Int)) := fun x hx z hz => by
    have := (net_sym hv (x := (x : Int)) (by omega) (by rw [hN]; omega) z hz).1
    rw [hN] at this; exact this
  clear h hv hN
  generalize nbS kind l = NB at *
  generalize l.length = M at *
  go_enter Tryz.func11, Tryz.ntmps11
  go_wp2_with fail
  generalize w.alloc (.cells #[.int .i64 kind, .slice sa M sc, .int .i64 hosts] 34) = X at *
  refine H1.out.mono ?_
  rintro e w1 ⟨rfl, hb1⟩
  replace Q0 := Lib.hid (heapB hb1 Q0.out)
  have HB1 := Lib.hid (HB.out.trans (hb1.mono HB.out.size))
  clear H1 hb1 HB c0 c1 c2
  have HS0 : Hid (LS w #[.int .i64 kind, .slice sa M sc, .int .i64 hosts] (lkL NB 0) (.slice none 0 0) w1) := ⟨⟨World.ownsRow_nil _ _ _ _⟩, HB1.out, Q0.out, (Array.getElem?_eq_some_iff.1 Q0.out).1⟩
  clear Q0 HB1
  go_wp2_with fail
  go_loopw [5, 6] (fun v iv wr => ∃ (i : Nat), i ≤ N ∧ iv = .int .i64 (i : Int) ∧ Hid (LS w #[.int .i64 kind, .slice sa M sc, .int .i64 hosts] (lkL NB i) v wr)) (fun _ iv _ => N - (intOf iv).toNat)
  case atStart => exact ⟨0, Nat.zero_le _, rfl, HS0⟩
  case round =>
    clear HS0
    obtain ⟨i, hi, rfl, HI⟩ := hrel
    have c0 := cellR 0 HI.out.box rfl
    have c1 := cellR 1 HI.out.box rfl
    have c2 := cellR 2 HI.out.box rfl
    go_wp2_with fail
    refine (HSW.out _ HI.out.bel).mono ?_
    rintro e w2 ⟨rfl, hb⟩
    replace HI := Lib.hid (HI.out.later hb)
    clear hb c0 c1 c2
    have c0 := cellR 0 HI.out.box rfl
    have c1 := cellR 1 HI.out.box rfl
    have c2 := cellR 2 HI.out.box rfl
    by_cases hlt : i < N
    · have d1 : decide ((i : Int) < (N : Int)) = true := decide_eq_true (by omega)
      go_wp2_with fail
      refine (HNB.out _ HI.out.bel i hlt).mono ?_
      rintro e w3 ⟨nv, rfl, hn, hb⟩
      obtain ⟨an, cn, rfl, hin, hfr⟩ := hn.fresh
      have hkl := HLN.out i hlt
      have hn6 := HNN.out
      obtain ⟨K, hK⟩ : ∃ K, K = NB (i : Int) := ⟨_, rfl⟩
      rw [← hK] at hin hkl ⊢
      have HKE := Lib.hid hK
      have HKN : Hid (∀ z ∈ K, 0 ≤ z ∧ z < (N : Int)) := fun z hz => HIN.out i hlt z (by rw [← hK]; exact hz)
      have HLI : Hid ((lkL NB i).length ≤ 65536) := by
        have h1 := lkL_len HLN.out i hi
        have h2 := Nat.mul_le_mul (show i ≤ 256 by omega) (show N ≤ 256 by omega)
        show _ ≤ _; omega
      have HI0 : Hid (LS w #[.int .i64 kind, .slice sa M sc, .int .i64 hosts] (lkL NB i ++ selL (i : Int) (K.take 0)) u5 w3 ∧ Ints w3 an K ∧ ∀ b, an.map (·.block) = some b → u5.ownBlock ≠ some b) := by
        refine ⟨by simpa [selL] using HI.out.later hb, hin, fun b hb2 e => ?_⟩
        have h2 := hfr.ge b hb2
        have h4 := HI.out.que.own.lt b e
        omega
      have HWI0 := Lib.hid (wrap_small ((i : Int) + 1) (by omega) (by omega))
      have HCS0 : Hid (((i : Int) + 1) = ((i + 1 : Nat) : Int)) := by show _ = _; rw [Int.natCast_add]; rfl
      have HME0 : Hid (N - (intOf (.int .i64 ((i : Int) + 1))).toNat < N - (intOf (.int .i64 (i : Int))).toNat) := by show _ < _; simp [intOf]; omega
      have HMO0 : Hid (N - (intOf (.int .i64 (wrap64 ((i : Int) + 1)))).toNat < N - (intOf (.int .i64 (i : Int))).toNat) := by show _ < _; rw [HWI0.out]; exact HME0.out
      clear hn hb hin hfr hK HI c0 c1 c2
      go_wp2_with fail
      go_loopw [5, 8] (fun v jv wr => ∃ (j : Nat), j ≤ K.length ∧ jv = .int .i64 (j : Int) ∧ Hid (LS w #[.int .i64 kind, .slice sa M sc, .int .i64 hosts] (lkL NB i ++ selL (i : Int) (K.take j)) v wr ∧ Ints wr an K ∧ ∀ b, an.map (·.block) = some b → v.ownBlock ≠ some b)) (fun _ jv _ => K.length - (intOf jv).toNat)
      case atStart => exact ⟨0, Nat.zero_le _, rfl, HI0⟩
      case round =>
        clear HI0
        obtain ⟨j, hj, rfl, HJ⟩ := hrel
        by_cases hjl : j < K.length
        · obtain ⟨gn, on, rfl, hcn⟩ := HJ.out.2.1.at_ (ne_nil_of_lt hjl)
          have czn := hcn j hjl
          have hzK := HKN.out K[j] (List.getElem_mem hjl)
          obtain ⟨zi, hzi⟩ : ∃ zi, zi = K[j] := ⟨_, rfl⟩
          rw [← hzi] at hzK czn
          obtain ⟨hz0, hz1⟩ := hzK
          have HTK : Hid (selL (i : Int) (K.take (j + 1)) = selL (i : Int) (K.take j) ++ (if (i : Int) < zi then [((i : Int), zi)] else [])) := by
            show _ = _; rw [List.take_succ_eq_append_getElem hjl, selL_snoc, hzi]
          have HLJ : Hid ((lkL NB i ++ selL (i : Int) (K.take j)).length ≤ 1000000) := by
            have h1 := selL_len (i : Int) (K.take j)
            rw [List.length_take] at h1
            have h2 := HLI.out
            show _ ≤ _; rw [List.length_append]; omega
          have d1 : decide ((j : Int) < (K.length : Int)) = true := decide_eq_true (by omega)
          have HWI := Lib.hid (wrap_small ((j : Int) + 1) (by omega) (by omega))
          have HCS : Hid (((j : Int) + 1) = ((j + 1 : Nat) : Int)) := by show _ = _; rw [Int.natCast_add]; rfl
          have HME : Hid (K.length - (intOf (.int .i64 ((j : Int) + 1))).toNat < K.length - (intOf (.int .i64 (j : Int))).toNat) := by show _ < _; simp [intOf]; omega
          have HMO : Hid (K.length - (intOf (.int .i64 (wrap64 ((j : Int) + 1)))).toNat < K.length - (intOf (.int .i64 (j : Int))).toNat) := by show _ < _; rw [HWI.out]; exact HME.out
          have HK1 : Hid (j + 1 ≤ K.length) := hjl
          clear hcn hzi hz0 hz1 hj
          by_cases hgt : (i : Int) < zi
          · have d2 : decide ((i : Int) < zi) = true := decide_eq_true hgt
            obtain ⟨v', w2', hr, hd2, hmv, hsz⟩ := HJ.out.1.push ((i : Int), zi) HLJ.out
            have HI2 : Hid (LS w #[.int .i64 kind, .slice sa M sc, .int .i64 hosts] (lkL NB i ++ selL (i : Int) (K.take (j + 1))) v' w2' ∧ Ints w2' (some ⟨gn, on, none⟩) K ∧ ∀ b, (some (Addr.mk gn on none)).map (·.block) = some b → v'.ownBlock ≠ some b) := by
              obtain ⟨h1, h2, h3⟩ := HJ.out
              have hgs : gn < wr.heap.size := block_lt_of_cell czn
              refine ⟨?_, h2.move (fun b hb hbs => (hmv b hbs (h3 b hb)).1), fun b hb => ?_⟩
              · rw [HTK.out, if_pos hgt, ← List.append_assoc]; exact hd2
              · obtain rfl : gn = b := by simpa using hb
                exact (hmv _ hgs (h3 _ rfl)).2
            have HR := Lib.hid hr
            clear hr hd2 hmv hsz HJ hgt
            go_wp2_with (at_builtin; refine Lib.wpList_append_run _ rfl (.tmp 35) (.tmp 42) 31 31 rfl _ _ rfl rfl _ _ HR.out ?_)
            go_roundw
            case rel => exact ⟨j + 1, HK1.out, by first | rw [HWI.out, HCS.out] | rw [HCS.out], HI2⟩
            case measure => first | exact HMO.out | exact HME.out
          · have d2 : decide ((i : Int) < zi) = false := decide_eq_false hgt
            have HI2 : Hid (LS w #[.int .i64 kind, .slice sa M sc, .int .i64 hosts] (lkL NB i ++ selL (i : Int) (K.take (j + 1))) u5 wr ∧ Ints wr (some ⟨gn, on, none⟩) K ∧ ∀ b, (some (Addr.mk gn on none)).map (·.block) = some b → u5.ownBlock ≠ some b) := by
              rw [HTK.out, if_neg hgt, List.append_nil]; exact HJ
            clear hgt HJ
            go_wp2_with fail
            go_roundw
            case rel => exact ⟨j + 1, HK1.out, by first | rw [HWI.out, HCS.out] | rw [HCS.out], HI2⟩
            case measure => first | exact HMO.out | exact HME.out
        · obtain rfl : j = K.length := by omega
          have d2 : decide ((K.length : Int) < (K.length : Int)) = false := decide_eq_false (by omega)
          have HI9 : Hid (LS w #[.int .i64 kind, .slice sa M sc, .int .i64 hosts] (lkL NB (i + 1)) u5 wr) := by
            have h1 := HJ.out.1
            rw [List.take_length, HKE.out] at h1
            exact h1
          have HK1 : Hid (i + 1 ≤ N) := hlt
          clear HJ hjl hj
          go_wp2_with fail
          go_roundw
          case rel => exact ⟨i + 1, HK1.out, by first | rw [HWI0.out, HCS0.out] | rw [HCS0.out], HI9⟩
          case measure => first | exact HMO0.out | exact HME0.out
    · have hin : i = N := by omega
      subst hin
      have d1 : decide ((i : Int) < (i : Int)) = false := decide_eq_false (by omega)
      have HF : Hid (NewPairs 37 w.heap.size w2 u5 (lkL NB i) ∧ Below w.heap.size w w2) := ⟨⟨ownsRow_low HI.out.que.own (by omega)⟩, HI.out.bel⟩
      clear HI c0 c1 c2 hlt hi
      go_wp2_with fail
      go_ret2
      exact ⟨u5, rfl, HF.out.1, HF.out.2⟩
end Go.Proofs.YtbhkenphcahifaaGreat

namespace Go.Proofs.YtbhkenphcahifaaGreat
open Go.RowKit Go.Shelf
attribute [local go_sem] Oper.semAt_some
set_option maxRecDepth 100000
set_option maxHeartbeats 4000000

/-- a list of pairs that grows in a variable of its own -/
def OutP (n0 o : Nat) (xs : List (Int × Int)) (W : World) : Prop := ∃ v, Boxed W o 27 v ∧ W.ownsRow n0 38 2 v xs.length (pairsV xs)
theorem OutP.lt {n0 o : Nat} {xs : List (Int × Int)} {W : World} (h : OutP n0 o xs W) : o < W.heap.size := by obtain ⟨v, h1, _⟩ := h; exact h1.lt
theorem OutP.below {n0 o : Nat} {xs : List (Int × Int)} {W W' : World} (h : OutP n0 o xs W) (hb : Below W.heap.size W W') : OutP n0 o xs W' := by
  obtain ⟨v, h1, h2⟩ := h
  exact ⟨v, (hb.block o h1.lt).trans h1, ownsRow_bl h2 hb⟩
theorem OutP.own {α : Type} {n0 o B : Nat} (g : List α → List (Int × Int)) : OwnFrom B (fun (pre : List α) W => OutP n0 o (g pre) W) := by
  rintro s X Y row ⟨v, h1, h2⟩ hg hr
  refine ⟨v, h1.kept hg (fun e => ?_), h2.kept hg ?_⟩
  · obtain ⟨_, ob, ho, hc⟩ := hr o e.symm
    rw [show X.heap[o]? = _ from h1] at ho
    cases ho; cases hc
  · rcases h2.2 with ⟨rfl, _⟩ | ⟨q, cap, cur, rfl, _, hq, _⟩
    · exact .inl rfl
    · refine .inr (fun e => ?_)
      obtain ⟨_, ob, ho, hc⟩ := hr q e.symm
      rw [hq] at ho
      cases ho; cases hc
/-- one more pair -/
theorem OutP.append {n0 o : Nat} {xs : List (Int × Int)} {W : World} (h : OutP n0 o xs W) (p : Int × Int) (hl : xs.length ≤ 200000) (hn : n0 ≤ W.heap.size) (ho : n0 ≤ o) :
    ∃ v g cap wA, Boxed W o 27 v ∧ Boxed wA o 27 v ∧ (Builtin.append_ #[27, 27] 27 #[v, .slice (some ⟨W.heap.size, 0, none⟩) 1 1]).run Tryz.prog (W.alloc (.cells #[.int .i64 p.1, .int .i64 p.2] 38)) = .ok (.slice (some ⟨g, 0, none⟩) (xs.length + 1) cap) wA ∧
      OutP n0 o (xs ++ [p]) (wA.setCell ⟨o, 0, none⟩ (.slice (some ⟨g, 0, none⟩) (xs.length + 1) cap)) ∧ KeepsOthers W (wA.setCell ⟨o, 0, none⟩ (.slice (some ⟨g, 0, none⟩) (xs.length + 1) cap)) ∧ Kq n0 o W (wA.setCell ⟨o, 0, none⟩ (.slice (some ⟨g, 0, none⟩) (xs.length + 1) cap)) := by
  obtain ⟨v, h1, h2⟩ := h
  obtain ⟨i0, hi, hz0, hz1, hz2⟩ := info_parts infoP38
  obtain ⟨g, cap, wA, hr, hown, hgrow, hat, hlt⟩ := run_append_lies (P := Tryz.prog) (W.alloc (.cells #[.int .i64 p.1, .int .i64 p.2] 38)) 27 27 n0 38 i0 (.agg #[.int .i64 0, .int .i64 0]) 2 16 Tryz.underlying27 hi hz0 hz1 hz2 (by simp [Value.cells, go_sem]) (by decide) v xs.length (pairsV xs) (h2.alloc _) ⟨W.heap.size, 0, none⟩ 1 1 [.int .i64 p.1, .int .i64 p.2] (by simp)
    (World.news_of_block (cs := #[.int .i64 p.1, .int .i64 p.2]) (heap_alloc_new W (.cells #[.int .i64 p.1, .int .i64 p.2] 38))) (by intro u hu; simp at hu; rcases hu with rfl | rfl <;> rfl) (by decide) (by unfold maxLen; omega) (by omega) (by simp; omega) _ rfl
  obtain ⟨hv1, hv2, hr2, hk2, hb2⟩ := h1.appended (by decide) h2 hn ho hown hgrow
  have e1 : pairsV (xs ++ [p]) = pairsV xs ++ [.int .i64 p.1, .int .i64 p.2] := by unfold pairsV; simp [List.flatMap_append]
  refine ⟨v, g, cap, wA, h1, hv1, hr, ⟨_, hv2, by rw [e1]; simpa using hr2⟩, hk2, hb2, ?_⟩
  rintro b ⟨⟨ob, m1, m2⟩, m3, m4, m5⟩
  have hbl := (Array.getElem?_eq_some_iff.1 m1).1
  have hnb := m5 v h1.cell
  have e1 : (wA.setCell ⟨o, 0, none⟩ (.slice (some ⟨g, 0, none⟩) (xs.length + 1) cap)).heap[b]? = W.heap[b]? := by
    rw [heap_setCell_other _ _ _ _ m4, hgrow.block b (by simp; omega) (fun e => hnb e.symm), Below.heap_alloc _ _ _ hbl]
  refine ⟨e1, ⟨ob, e1.trans m1, m2⟩, m3, m4, fun u hu => ?_⟩
  rw [hv2.cell] at hu
  cases hu
  intro e
  have hgb : g = b := by simpa [Value.ownBlock] using e
  rcases hat with hat | hat
  · exact hnb (by rw [hat, hgb])
  · simp at hat; omega
/-- the links of an iterator, as a slice -/
theorem appendSeqL_any {B lo gf s0 : Nat} {lb : Array Value} {L : List (Int × Int)} {w : World} (hB : B ≤ s0) (hs : s0 ≤ w.heap.size) (hlB : lo = B) (hi : LIter gf lb lo L s0 w) (hL : L.length ≤ 100000) :
    Calls Tryz.prog 92 #[.slice none 0 0, .func (.func gf) #[] lb] w fun e w' => ∃ v, e = .returned v ∧ NewPairs 38 B w' v L ∧ Below B w w' := by
  subst hlB
  obtain ⟨heg, Nd, hNd, hSq⟩ := hi
  have r1 := heap_alloc_new w (.cells #[.slice none 0 0] 27)
  have hbw : Below w.heap.size w (w.alloc (.cells #[.slice none 0 0] 27)) := (Below.refl _ _).alloc (Nat.le_refl _) _
  have hz : (w.alloc (.cells #[.slice none 0 0] 27)).heap.size = w.heap.size + 1 := by simp
  have hO : OutP lo w.heap.size [] (w.alloc (.cells #[.slice none 0 0] 27)) := ⟨_, r1, World.ownsRow_nil _ _ _ _⟩
  have hbB : Below lo w (w.alloc (.cells #[.slice none 0 0] 27)) := hbw.mono (by omega)
  have hnd : ∀ b ∈ Nd, Fq lo w.heap.size b (w.alloc (.cells #[.slice none 0 0] 27)) := fun b hb => by
    obtain ⟨h1, o, h2, h3⟩ := hNd b hb
    have hlt := (Array.getElem?_eq_some_iff.1 h2).1
    refine ⟨⟨o, heapB hbw h2, h3⟩, by omega, by omega, fun v hv => ?_⟩
    rw [cellR 0 r1 rfl] at hv
    cases hv
    simp [Value.ownBlock]
  have HSQ := Lib.hid (fun n => (hSq n).later hbw)
  have HLN := Lib.hid hL
  have HBB := Lib.hid (And.intro hB hs)
  clear hNd hSq hbw r1 hL
  refine (callsIn_wide (n := 4)).1 ?_
  refine callsIn_of_wp_marks Tryz.func92 rfl trivial ?_ rfl
  simp only [Tryz.ntmps92, List.size_toArray, List.length_cons, List.length_nil, Nat.reduceAdd, Nat.reduceSub, Array.replicate_succ, Array.replicate_zero, List.push_toArray, List.append_toArray, List.nil_append, List.cons_append]
  gi_wp2
  generalize w.alloc (.cells #[.slice none 0 0] 27) = W0 at *
  refine range_x (L := L) (Nd := Nd) (lo := lo) (Fr := Fq lo w.heap.size) (by omega) rfl heg (HSQ.out _) hnd (by omega) (fun _ => rfl) (fun pre W => OutP lo w.heap.size pre W ∧ Below lo w W ∧ W0.heap.size ≤ W.heap.size) ?hG ⟨hO, hbB, Nat.le_refl _⟩ (fun p a' W => ∃ bl, a' = ⟨#[.slice none 0 0, .func (.func gf) #[] lb, .pointer (some ⟨w.heap.size, 0, none⟩), undef, .slice none 0 0, .pointer (some ⟨bl, 0, none⟩), .func (.func gf) #[] lb, .agg #[.int .i64 p.1, .int .i64 p.2], undef, undef, undef, undef, undef], []⟩ ∧ W.heap[bl]? = some (.cells #[.int .i64 p.1, .int .i64 p.2] 38 (0, 0)) ∧ w.heap.size < bl) ?hAx ?assign ?body ?done
  case hG =>
    intro pre
    refine ⟨fun W b hj hf => hf.1, fun W W2 b hj hb hs hc => ?_, fun W W2 b hj hf hb => hf.grow hj.1.lt hb, fun W W2 hj hb => ⟨hj.1.below hb, hj.2.1.trans (hb.mono (by have := hj.2.1.size; omega)), Nat.le_trans hj.2.2 hb.size⟩, fun W b o o' hj hb ho hc => ?_, fun W b c o o' hj hf hb ho hc => hf.put (s := w.heap.size + 1) (by omega) (by omega) ho hc⟩
    · obtain ⟨⟨v, h1, h2⟩, h3, h4⟩ := hj
      have hlt := h1.lt
      have h5 := h3.size
      refine ⟨hc, by omega, by omega, fun u hu e => ?_⟩
      rw [hb.cell (p := ⟨w.heap.size, 0, none⟩) hlt, h1.cell] at hu
      cases hu
      have := (h2.lt b e).2
      omega
    · have h5 := HBB.out
      refine ⟨OutP.own (B := W0.heap.size) (fun pre : List (Int × Int) => pre) pre W (W.putObj b o') (some b) hj.1 (grownBy_putObj' W b o') (fun k e => by cases e; exact ⟨by omega, o, ho, hc⟩), hj.2.1.trans ⟨rfl, rfl, rfl, by simp [World.putObj], fun k hk => World.putObj_heap_other (by omega)⟩, by simpa [World.putObj] using hj.2.2⟩
  case hAx =>
    rintro p a' s A B row ⟨bl, h1, h2, h3⟩ hg hr
    exact ⟨bl, h1, own_blk (β := Unit) W0.heap.size bl (fun _ => .cells #[.int .i64 p.1, .int .i64 p.2] 38 (0, 0)) (fun _ => rfl) () A B row h2 hg hr, h3⟩
  case assign =>
    rintro q pre p W K ⟨i1, i2, i3⟩ hpre hK
    have hal : Below W.heap.size W (W.alloc (.cells #[.int .i64 p.1, .int .i64 p.2] 38)) := (Below.refl _ _).alloc (Nat.le_refl _) _
    have hlo : lo ≤ W.heap.size := by have := i2.size; omega
    gi_wp2
    refine hK _ _ ((KeepsOthers.alloc W _).from _) ⟨hal.mono hlo, fun b hb => ⟨?_, hb.grow i1.lt hal⟩⟩ ⟨i1.below hal, i2.trans (hal.mono hlo), Nat.le_trans i3 hal.size⟩ ⟨W.heap.size, rfl, heap_alloc_new W _, i1.lt⟩
    obtain ⟨⟨ob, h1, h2⟩, _⟩ := hb
    rw [heapB hal h1, h1]
  case body =>
    rintro q pre p a' W ⟨i1, i2, i3⟩ ⟨bl, rfl, h2, h3⟩ hpre
    have hll : pre.length ≤ 200000 := by have := HLN.out; have := hpre.length_le; simp at this; omega
    obtain ⟨v, g, cap, wA, hv, hvA, hrun, hO4, hk4, hq4⟩ := i1.append p hll (by have := i2.size; omega) (by omega)
    have cv := hv.cell
    have cA := hvA.cell
    have fA := hvA.frozen
    have lA := hvA.lt
    have l1 : W.cell? ⟨bl, 0, none⟩ = some (.int .i64 p.1) := cellR 0 h2 rfl
    have l2 : W.cell? ⟨bl, 1, none⟩ = some (.int .i64 p.2) := cellR 1 h2 rfl
    clear hll h2
    gi_wp2_with (gi_at_builtin; refine wpListIn_append_run rfl _ _ 27 rfl rfl rfl hrun ?_)
    exact ⟨hk4.from _, hq4, hO4, i2.trans hq4.1, Nat.le_trans i3 hk4.size⟩
  case done =>
    rintro D W hD ⟨⟨v, hv, hrow⟩, hB3, _⟩ hK
    have cv := hv.cell
    gi_wp2
    refine ⟨by simp, .inl ⟨_, _, rfl, run_takeDeferred hK, ?_⟩⟩
    refine ⟨v, ?_, v, rfl, ⟨ownsRow_putObj hrow _ hK rfl⟩, hB3.trans ⟨rfl, rfl, rfl, by simp [World.putObj], fun k hk => World.putObj_heap_other (by omega)⟩⟩
    simp [results, Tryz.results92, go_sem]
end Go.Proofs.YtbhkenphcahifaaGreat

namespace Go.Proofs.YtbhkenphcahifaaGreat
open Go.RowKit Go.Shelf
attribute [local go_sem] Oper.semAt_some
set_option maxRecDepth 100000
set_option maxHeartbeats 4000000

theorem collectL_any {lo gf s0 : Nat} {lb : Array Value} {L : List (Int × Int)} {w : World} (hB : lo ≤ s0) (hs : s0 ≤ w.heap.size) (hi : LIter gf lb lo L s0 w) (hL : L.length ≤ 100000) :
    Calls Tryz.prog 48 #[.func (.func gf) #[] lb] w fun e w' => ∃ v, e = .returned v ∧ NewPairs 38 lo w' v L ∧ Below lo w w' := by
  have H := Lib.hid (appendSeqL_any hB hs rfl hi hL)
  clear hi
  go_enter Tryz.func48, Tryz.ntmps48
  go_wp2_with fail
  refine H.out.mono ?_
  rintro e w1 ⟨v, rfl, hv, hb⟩
  have HR : Hid (NewPairs 38 lo w1 v L ∧ Below lo w w1) := ⟨hv, hb⟩
  clear H hv hb
  go_wp2_with fail
  go_ret
  exact ⟨_, rfl, HR.out.1, HR.out.2⟩
theorem Links_bad {w : World} {sa : Option Addr} {l : List Int} (h : Ints w sa l) (sc : Nat) (kind hosts : Int) (hv : ¬ vOk kind l hosts) :
    Calls Tryz.prog 10 #[.agg #[.int .i64 kind, .slice sa l.length sc, .int .i64 hosts]] w fun e w' => e = .returned (.tuple #[.slice none 0 0, .int .i64 2]) ∧ Below w.heap.size w w' := by
  have HO : Hid (∀ W, Below w.heap.size w W → Calls Tryz.prog 47 #[.agg #[.int .i64 kind, .slice sa l.length sc, .int .i64 hosts]] W fun e w' => Below W.heap.size W w' ∧ ((vOk kind l hosts ∧ e = .returned (.tuple #[netV kind sa sc l, .int .i64 0])) ∨ (¬ vOk kind l hosts ∧ e = .returned (.tuple #[.nilIface, .int .i64 2])))) := fun W hb => networkOf_any (h.keep hb) sc kind hosts
  have HB := Lib.hid ((Below.refl w.heap.size w).alloc (Nat.le_refl _) (.cells #[.int .i64 kind, .slice sa l.length sc, .int .i64 hosts] 24))
  have Q0 := Lib.hid (heap_alloc_new w (.cells #[.int .i64 kind, .slice sa l.length sc, .int .i64 hosts] 24))
  have c0 := cellR 0 Q0.out rfl
  have c1 := cellR 1 Q0.out rfl
  have c2 := cellR 2 Q0.out rfl
  clear h Q0
  go_enter Tryz.func10, Tryz.ntmps10
  go_wp2_with fail
  generalize w.alloc (.cells #[.int .i64 kind, .slice sa l.length sc, .int .i64 hosts] 24) = X at *
  refine (HO.out _ HB.out).mono ?_
  rintro e w1 ⟨hb1, ⟨hn, _⟩ | ⟨_, rfl⟩⟩
  · exact absurd hn hv
  · have HB1 := Lib.hid (HB.out.trans (hb1.mono HB.out.size))
    clear c0 c1 c2 HB hb1 HO
    go_wp2_with fail
    go_ret2
    exact ⟨rfl, HB1.out⟩
theorem Links_ok {w : World} {sa : Option Addr} {l : List Int} (h : Ints w sa l) (sc : Nat) (kind hosts : Int) {N : Nat} (hv : vOk kind l hosts) (hN : swI kind l = (N : Int)) :
    Calls Tryz.prog 10 #[.agg #[.int .i64 kind, .slice sa l.length sc, .int .i64 hosts]] w fun e w' => ∃ v, e = .returned (.tuple #[v, .int .i64 0]) ∧ NewPairs 38 w.heap.size w' v (lkL (nbS kind l) N) ∧ Below w.heap.size w w' := by
  have HO : Hid (∀ W, Below w.heap.size w W → Calls Tryz.prog 47 #[.agg #[.int .i64 kind, .slice sa l.length sc, .int .i64 hosts]] W fun e w' => Below W.heap.size W w' ∧ ((vOk kind l hosts ∧ e = .returned (.tuple #[netV kind sa sc l, .int .i64 0])) ∨ (¬ vOk kind l hosts ∧ e = .returned (.tuple #[.nilIface, .int .i64 2])))) := fun W hb => networkOf_any (h.keep hb) sc kind hosts
  obtain ⟨ty, fs, fn, rcv, sw, hnv, hse, hsl, hnk⟩ := netK h sc hv
  obtain rfl : sw = N := by omega
  have HNV := Lib.hid hnv
  have HK := Lib.hid hnk
  have HLL : Hid ((lkL (nbS kind l) sw).length ≤ 100000) := by
    have h1 := lkL_len (NB := nbS kind l) (N := sw) (fun x hx => nbS_few hv hN (by omega) (by omega)) sw (Nat.le_refl _)
    have h3 := sw_max hv
    have h2 := Nat.mul_le_mul (show sw ≤ 256 by omega) (show sw ≤ 256 by omega)
    show _ ≤ _; omega
  have HB := Lib.hid ((Below.refl w.heap.size w).alloc (Nat.le_refl _) (.cells #[.int .i64 kind, .slice sa l.length sc, .int .i64 hosts] 24))
  have Q0 := Lib.hid (heap_alloc_new w (.cells #[.int .i64 kind, .slice sa l.length sc, .int .i64 hosts] 24))
  have c0 := cellR 0 Q0.out rfl
  have c1 := cellR 1 Q0.out rfl
  have c2 := cellR 2 Q0.out rfl
  clear h Q0 hnv hnk
  go_enter Tryz.func10, Tryz.ntmps10
  go_wp2_with fail
  generalize w.alloc (.cells #[.int .i64 kind, .slice sa l.length sc, .int .i64 hosts] 24) = X at *
  refine (HO.out _ HB.out).mono ?_
  rintro e w1 ⟨hb1, ⟨_, he⟩ | ⟨hn, _⟩⟩
  rotate_left
  · exact absurd hv hn
  rw [HNV.out] at he
  subst he
  have HB1 := Lib.hid (HB.out.trans (hb1.mono HB.out.size))
  clear c0 c1 c2 HB hb1 HO HNV
  go_wp2_with fail
  refine (links_any HB1.out.size hsl (HK.out.later HB1.out)).mono ?_
  rintro e w2 ⟨gf, lb, rfl, hli, hb2⟩
  have HC := Lib.hid (collectL_any HB1.out.size hb2.size hli HLL.out)
  have HB2 := Lib.hid (HB1.out.trans (hb2.mono HB1.out.size))
  clear hli hb2 HB1 HK HLL
  go_wp2_with fail
  refine HC.out.mono ?_
  rintro e w3 ⟨v, rfl, hp, hb3⟩
  have HF : Hid (NewPairs 38 w.heap.size w3 v (lkL (nbS kind l) sw) ∧ Below w.heap.size w w3) := ⟨hp, HB2.out.trans hb3⟩
  clear HC HB2 hp hb3
  go_wp2_with fail
  go_ret2
  exact ⟨v, rfl, HF.out.1, HF.out.2⟩
theorem Neighbors_bad {w : World} {sa : Option Addr} {l : List Int} (h : Ints w sa l) (sc : Nat) (kind hosts x : Int) (hE : plaE kind l hosts x ≠ 0) :
    Calls Tryz.prog 13 #[.agg #[.int .i64 kind, .slice sa l.length sc, .int .i64 hosts], .int .i64 x] w fun e w' => e = .returned (.tuple #[.slice none 0 0, .int .i64 (plaE kind l hosts x)]) ∧ Below w.heap.size w w' := by
  obtain ⟨hbx, q0, q1, hz⟩ := twoN w (.cells #[.int .i64 kind, .slice sa l.length sc, .int .i64 hosts] 24) (.cells #[.int .i64 x] 3)
  have HB := Lib.hid hbx
  have c0 := cellR 0 (heap_alloc_new w (.cells #[.int .i64 kind, .slice sa l.length sc, .int .i64 hosts] 24)) rfl
  have c1 := cellR 1 (heap_alloc_new w (.cells #[.int .i64 kind, .slice sa l.length sc, .int .i64 hosts] 24)) rfl
  have c2 := cellR 2 (heap_alloc_new w (.cells #[.int .i64 kind, .slice sa l.length sc, .int .i64 hosts] 24)) rfl
  have hi := ints_one (w.alloc (.cells #[.int .i64 kind, .slice sa l.length sc, .int .i64 hosts] 24)) x
  rw [show (w.alloc (.cells #[.int .i64 kind, .slice sa l.length sc, .int .i64 hosts] 24)).heap.size = w.heap.size + 1 by simp] at hi
  have HC : Hid (Calls Tryz.prog 53 #[.agg #[.int .i64 kind, .slice sa l.length sc, .int .i64 hosts], .slice (some ⟨w.heap.size + 1, 0, none⟩) 1 1] ((w.alloc (.cells #[.int .i64 kind, .slice sa l.length sc, .int .i64 hosts] 24)).alloc (.cells #[.int .i64 x] 3)) fun e w' => e = .returned (.tuple #[.nilIface, .int .i64 (plaE kind l hosts x)]) ∧ Below w.heap.size ((w.alloc (.cells #[.int .i64 kind, .slice sa l.length sc, .int .i64 hosts] 24)).alloc (.cells #[.int .i64 x] 3)) w') := by
    refine (networkWith_any (h.keep hbx) hi sc 1 kind hosts).mono ?_
    rintro e w' ⟨rfl, hb⟩
    refine ⟨?_, hb.mono (by rw [hz]; omega)⟩
    unfold withV
    unfold plaE at hE ⊢
    by_cases hv : vOk kind l hosts
    · rw [if_pos hv] at hE ⊢
      by_cases hi2 : inB (swI kind l) [x] = true
      · rw [if_pos hi2] at hE; exact absurd rfl hE
      · rw [if_neg hi2, if_pos hv, if_neg hi2]
    · rw [if_neg hv, if_neg hv]
  have hne : (plaE kind l hosts x != 0) = true := bne_iff_ne.2 hE
  generalize plaE kind l hosts x = E at *
  clear h hbx q0 q1 hi hz hE
  go_enter Tryz.func13, Tryz.ntmps13
  go_wp2_with fail
  refine HC.out.mono ?_
  rintro e w1 ⟨rfl, hb1⟩
  have HB1 := Lib.hid (HB.out.trans hb1)
  clear HC hb1 HB c0 c1 c2
  go_wp2_with fail
  go_ret2
  exact ⟨rfl, HB1.out⟩
theorem rNeighborsX_bad {w : World} {sa : Option Addr} {l : List Int} (h : Ints w sa l) (sc : Nat) (kind hosts x : Int) (hE : plaE kind l hosts x ≠ 0) :
    Calls Tryz.prog 14 #[.agg #[.int .i64 kind, .slice sa l.length sc, .int .i64 hosts], .int .i64 x] w fun e w' => e = .returned (.tuple #[.slice none 0 0, .int .i64 (plaE kind l hosts x)]) ∧ Below w.heap.size w w' := by
  have HB := Lib.hid ((Below.refl w.heap.size w).alloc (Nat.le_refl _) (.cells #[.int .i64 kind, .slice sa l.length sc, .int .i64 hosts] 34))
  have Q0 := Lib.hid (heap_alloc_new w (.cells #[.int .i64 kind, .slice sa l.length sc, .int .i64 hosts] 34))
  have c0 := cellR 0 Q0.out rfl
  have c1 := cellR 1 Q0.out rfl
  have c2 := cellR 2 Q0.out rfl
  have H1 := Lib.hid (rIs_any (h.keep HB.out) sc kind hosts x)
  have hne : (plaE kind l hosts x != 0) = true := bne_iff_ne.2 hE
  generalize plaE kind l hosts x = E at *
  clear h hE Q0
  go_enter Tryz.func14, Tryz.ntmps14
  go_wp2_with fail
  generalize w.alloc (.cells #[.int .i64 kind, .slice sa l.length sc, .int .i64 hosts] 34) = X at *
  refine H1.out.mono ?_
  rintro e w1 ⟨rfl, hb1⟩
  have HB1 := Lib.hid (HB.out.trans (hb1.mono HB.out.size))
  clear H1 hb1 HB c0 c1 c2
  go_wp2_with fail
  go_ret2
  exact ⟨rfl, HB1.out⟩
theorem rNeighborsX_ok {w : World} {sa : Option Addr} {l : List Int} (h : Ints w sa l) (sc : Nat) (kind hosts x : Int) (hv : vOk kind l hosts) (h0 : 0 ≤ x) (h1 : x < swI kind l) :
    Calls Tryz.prog 14 #[.agg #[.int .i64 kind, .slice sa l.length sc, .int .i64 hosts], .int .i64 x] w fun e w' => ∃ v, e = .returned (.tuple #[v, .int .i64 0]) ∧ NewInts w.heap.size w' v (nbS kind l x) ∧ Below w.heap.size w w' := by
  have HB := Lib.hid ((Below.refl w.heap.size w).alloc (Nat.le_refl _) (.cells #[.int .i64 kind, .slice sa l.length sc, .int .i64 hosts] 34))
  have Q0 := Lib.hid (heap_alloc_new w (.cells #[.int .i64 kind, .slice sa l.length sc, .int .i64 hosts] 34))
  have c0 := cellR 0 Q0.out rfl
  have c1 := cellR 1 Q0.out rfl
  have c2 := cellR 2 Q0.out rfl
  have H1 := Lib.hid (rIs_any (h.keep HB.out) sc kind hosts x)
  rw [show plaE kind l hosts x = 0 by unfold plaE; rw [if_pos hv, if_pos (by simp [inB]; omega)]] at H1
  have HN : Hid (∀ W, Below w.heap.size w W → Calls Tryz.prog 52 #[.agg #[.int .i64 kind, .slice sa l.length sc, .int .i64 hosts], .int .i64 x] W fun e w' => ∃ v, e = .returned v ∧ NewInts W.heap.size w' v (nbS kind l x) ∧ Below W.heap.size W w') := fun W hb => rNeighbors_any (h.keep hb) sc hv h0 h1
  clear h hv h0 h1
  generalize nbS kind l x = K at *
  go_enter Tryz.func14, Tryz.ntmps14
  go_wp2_with fail
  generalize w.alloc (.cells #[.int .i64 kind, .slice sa l.length sc, .int .i64 hosts] 34) = X at *
  refine H1.out.mono ?_
  rintro e w1 ⟨rfl, hb1⟩
  replace Q0 := Lib.hid (heapB hb1 Q0.out)
  replace HB := Lib.hid (HB.out.trans (hb1.mono HB.out.size))
  clear hb1 c0 c1 c2
  have c0 := cellR 0 Q0.out rfl
  have c1 := cellR 1 Q0.out rfl
  have c2 := cellR 2 Q0.out rfl
  clear H1
  go_wp2_with fail
  refine (HN.out _ HB.out).mono ?_
  rintro e w2 ⟨v, rfl, hn, hb2⟩
  have HF : Hid (NewInts w.heap.size w2 v K ∧ Below w.heap.size w w2) := ⟨⟨ownsRow_low hn.own HB.out.size, hn.len⟩, HB.out.trans (hb2.mono HB.out.size)⟩
  clear HN hn hb2 HB c0 c1 c2 Q0
  go_wp2_with fail
  go_ret2
  exact ⟨v, rfl, HF.out.1, HF.out.2⟩
end Go.Proofs.YtbhkenphcahifaaGreat

namespace Go.Proofs.YtbhkenphcahifaaGreat
open Go.RowKit Go.Shelf
attribute [local go_sem] Oper.semAt_some
set_option maxRecDepth 100000
set_option maxHeartbeats 4000000

theorem pairs_at : ∀ (L : List (Int × Int)) (j : Nat) (h : j < L.length), (pairsV L)[2 * j]? = some (.int .i64 L[j].1) ∧ (pairsV L)[2 * j + 1]? = some (.int .i64 L[j].2)
  | [], j, h => by simp at h
  | p :: L, 0, h => by constructor <;> rfl
  | p :: L, j + 1, h => by
    have ih := pairs_at L j (by simpa using h)
    have e : pairsV (p :: L) = .int .i64 p.1 :: .int .i64 p.2 :: pairsV L := rfl
    rw [e, show 2 * (j + 1) = 2 * j + 1 + 1 by omega]
    simpa using ih
/-- a slice of pairs -/
structure Prs (w : World) (a : Option Addr) (L : List (Int × Int)) : Prop where
  at_ : L ≠ [] → ∃ b, a = some ⟨b, 0, none⟩ ∧ ∀ j (h : j < L.length), w.cell? ⟨b, j * 2, none⟩ = some (.int .i64 L[j].1) ∧ w.cell? ⟨b, j * 2 + 1, none⟩ = some (.int .i64 L[j].2)
theorem Prs.keep {w w' : World} {a : Option Addr} {L : List (Int × Int)} (h : Prs w a L) (hb : Below w.heap.size w w') : Prs w' a L :=
  ⟨fun hl => by
    obtain ⟨b, ha, hc⟩ := h.at_ hl
    exact ⟨b, ha, fun j hj => ⟨kcell hb (hc j hj).1, kcell hb (hc j hj).2⟩⟩⟩
theorem NewPairs.prs {e : TypeId} {B : Nat} {w : World} {v : Value} {L : List (Int × Int)} (h : NewPairs e B w v L) : ∃ a cap, v = .slice a L.length cap ∧ Prs w a L := by
  have h0 := h.own
  rcases h0.2 with ⟨rfl, hn⟩ | ⟨g, cap, cur, rfl, _⟩
  · exact ⟨none, 0, by rw [hn], ⟨fun hl => absurd (List.length_eq_zero_iff.1 hn) hl⟩⟩
  · refine ⟨_, cap, rfl, ⟨fun _ => ⟨g, rfl, fun j hj => ?_⟩⟩⟩
    obtain ⟨p1, p2⟩ := pairs_at L j hj
    have q1 := h0.cells (g := g) rfl _ _ p1
    have q2 := h0.cells (g := g) rfl _ _ p2
    have e1 : (⟨g, 0, none⟩ : Addr).add (2 * j) = ⟨g, j * 2, none⟩ := by
      rw [Nat.mul_comm]; simp only [Addr.add]; split
      · rename_i h0; rw [h0]
      · simp
    have e2 : (⟨g, 0, none⟩ : Addr).add (2 * j + 1) = ⟨g, j * 2 + 1, none⟩ := by
      rw [Nat.mul_comm]; simp [Addr.add]
    rw [e1] at q1
    rw [e2] at q2
    exact ⟨q1, q2⟩
theorem NetLinks_core {w : World} {sa : Option Addr} {l : List Int} (h : Ints w sa l) (sc : Nat) (kind hosts x E E2 : Int) (L : List (Int × Int)) (K : List Int) (hL : L.length ≤ 100000)
    (H10 : Hid (∀ W, Below w.heap.size w W → Calls Tryz.prog 10 #[.agg #[.int .i64 kind, .slice sa l.length sc, .int .i64 hosts]] W fun e w' => ∃ v, e = .returned (.tuple #[v, .int .i64 E]) ∧ (∃ a cap, v = .slice a L.length cap ∧ Prs w' a L) ∧ Below W.heap.size W w')) (H11 : Hid (∀ W, Below w.heap.size w W → Calls Tryz.prog 11 #[.agg #[.int .i64 kind, .slice sa l.length sc, .int .i64 hosts]] W fun e w' => ∃ v, e = .returned (.tuple #[v, .int .i64 E]) ∧ (∃ a cap, v = .slice a L.length cap ∧ Prs w' a L) ∧ Below W.heap.size W w'))
    (H13 : Hid (∀ W, Below w.heap.size w W → Calls Tryz.prog 13 #[.agg #[.int .i64 kind, .slice sa l.length sc, .int .i64 hosts], .int .i64 x] W fun e w' => ∃ v, e = .returned (.tuple #[v, .int .i64 E2]) ∧ (∃ a cap, v = .slice a K.length cap ∧ Ints w' a K) ∧ Below W.heap.size W w')) (H14 : Hid (∀ W, Below w.heap.size w W → Calls Tryz.prog 14 #[.agg #[.int .i64 kind, .slice sa l.length sc, .int .i64 hosts], .int .i64 x] W fun e w' => ∃ v, e = .returned (.tuple #[v, .int .i64 E2]) ∧ (∃ a cap, v = .slice a K.length cap ∧ Ints w' a K) ∧ Below W.heap.size W w')) :
    Calls Tryz.prog 3 #[.agg #[.int .i64 kind, .slice sa l.length sc, .int .i64 hosts], .int .i64 x] w fun e w' => e = .returned (.bool true) ∧ Below w.heap.size w w' := by
  have HB := Lib.hid ((Below.refl w.heap.size w).alloc (Nat.le_refl _) (.cells #[.int .i64 kind, .slice sa l.length sc, .int .i64 hosts] 24))
  have Q0 := Lib.hid (heap_alloc_new w (.cells #[.int .i64 kind, .slice sa l.length sc, .int .i64 hosts] 24))
  have c0 := cellR 0 Q0.out rfl
  have c1 := cellR 1 Q0.out rfl
  have c2 := cellR 2 Q0.out rfl
  have HSP := Lib.hid (fun W => spec_any sa l.length sc kind hosts W)
  have HFW : Hid (∀ W, Below w.heap.size w W → Calls Tryz.prog 8 #[.agg #[.int .i64 kind, .slice sa l.length sc, .int .i64 hosts], .int .i64 64] W fun e w' => ∃ b, e = .returned (.bool b) ∧ Below W.heap.size W w') := fun W hb => few_any (h.keep hb) sc kind hosts 64
  have HWK := Lib.hid works_any
  have HLL := Lib.hid hL
  clear h hL
  generalize l.length = M at *
  go_enter Tryz.func3, Tryz.ntmps3
  go_wp2_with fail
  generalize w.alloc (.cells #[.int .i64 kind, .slice sa M sc, .int .i64 hosts] 24) = X at *
  refine (HFW.out _ HB.out).mono ?_
  rintro e w1 ⟨b, rfl, hb1⟩
  replace Q0 := Lib.hid (heapB hb1 Q0.out)
  replace HB := Lib.hid (HB.out.trans (hb1.mono HB.out.size))
  clear hb1 c0 c1 c2
  have c0 := cellR 0 Q0.out rfl
  have c1 := cellR 1 Q0.out rfl
  have c2 := cellR 2 Q0.out rfl
  clear HFW
  cases b with
  | false =>
    go_wp2_with fail
    refine (HWK.out _).mono ?_
    rintro e w2 ⟨rfl, hb2⟩
    replace HB := Lib.hid (HB.out.trans (hb2.mono HB.out.size))
    clear hb2 c0 c1 c2 Q0 H10 H11 H13 H14 HSP HWK
    go_wp2_with fail
    go_ret
    exact ⟨rfl, HB.out⟩
  | true =>
    go_wp2_with fail
    refine (H10.out _ HB.out).mono ?_
    rintro e w2 ⟨v1, rfl, ⟨a1, k1, rfl, i1⟩, hb2⟩
    have HP1 := Lib.hid i1
    replace Q0 := Lib.hid (heapB hb2 Q0.out)
    replace HB := Lib.hid (HB.out.trans (hb2.mono HB.out.size))
    clear hb2 c0 c1 c2
    have c0 := cellR 0 Q0.out rfl
    have c1 := cellR 1 Q0.out rfl
    have c2 := cellR 2 Q0.out rfl
    clear H10 i1
    go_wp2_with fail
    refine (HSP.out _).mono ?_
    rintro e w3 ⟨rfl, hb3⟩
    replace HP1 := Lib.hid (HP1.out.keep hb3)
    replace Q0 := Lib.hid (heapB hb3 Q0.out)
    replace HB := Lib.hid (HB.out.trans (hb3.mono HB.out.size))
    clear hb3 c0 c1 c2
    have c0 := cellR 0 Q0.out rfl
    have c1 := cellR 1 Q0.out rfl
    have c2 := cellR 2 Q0.out rfl
    go_wp2_with fail
    refine (H11.out _ HB.out).mono ?_
    rintro e w4 ⟨v2, rfl, ⟨a2, k2, rfl, i2⟩, hb4⟩
    replace HP1 := Lib.hid (HP1.out.keep hb4)
    have HP2 := Lib.hid i2
    replace Q0 := Lib.hid (heapB hb4 Q0.out)
    replace HB := Lib.hid (HB.out.trans (hb4.mono HB.out.size))
    clear hb4 c0 c1 c2
    have c0 := cellR 0 Q0.out rfl
    have c1 := cellR 1 Q0.out rfl
    have c2 := cellR 2 Q0.out rfl
    clear H11 i2
    have e1 : (E != E) = false := by simp
    have e2 : ((L.length : Int) != (L.length : Int)) = false := by simp
    have HW0 : Hid (Below w.heap.size w w4 ∧ Below w4.heap.size w4 w4) := ⟨HB.out, Below.refl _ _⟩
    clear c0 c1 c2
    go_wp2_with fail
    go_loopw [9] (fun iv wr => ∃ (i : Nat), i ≤ L.length ∧ iv = .int .i64 (i : Int) ∧ Hid (Below w.heap.size w wr ∧ Below w4.heap.size w4 wr)) (fun iv _ => L.length - (intOf iv).toNat)
    case atStart => exact ⟨0, Nat.zero_le _, rfl, HW0⟩
    case round =>
      clear HW0
      obtain ⟨i, hi, rfl, HI⟩ := hrel
      have hll := HLL.out
      by_cases hlt : i < L.length
      · obtain ⟨g1, rfl, hc1⟩ := (HP1.out.keep HI.out.2).at_ (ne_nil_of_lt hlt)
        obtain ⟨g2, rfl, hc2⟩ := (HP2.out.keep HI.out.2).at_ (ne_nil_of_lt hlt)
        obtain ⟨x1, x2⟩ := hc1 i hlt
        obtain ⟨y1, y2⟩ := hc2 i hlt
        have d1 : decide ((i : Int) < (L.length : Int)) = true := decide_eq_true (by omega)
        have HWI := Lib.hid (wrap_small ((i : Int) + 1) (by omega) (by omega))
        have HCS : Hid (((i : Int) + 1) = ((i + 1 : Nat) : Int)) := by show _ = _; rw [Int.natCast_add]; rfl
        have HME : Hid (L.length - (intOf (.int .i64 ((i : Int) + 1))).toNat < L.length - (intOf (.int .i64 (i : Int))).toNat) := by show _ < _; simp [intOf]; omega
        have HMO : Hid (L.length - (intOf (.int .i64 (wrap64 ((i : Int) + 1)))).toNat < L.length - (intOf (.int .i64 (i : Int))).toNat) := by show _ < _; rw [HWI.out]; exact HME.out
        have HK1 : Hid (i + 1 ≤ L.length) := hlt
        generalize L[i].1 = p1 at *
        generalize L[i].2 = p2 at *
        clear hc1 hc2 hi
        go_wp2_with fail
        go_quiet (fail)
        have HI2 : Hid (Below w.heap.size w (wr.drewN nq) ∧ Below w4.heap.size w4 (wr.drewN nq)) := ⟨below_drewN HI.out.1 _, below_drewN HI.out.2 _⟩
        clear x1 x2 y1 y2 HI
        generalize wr.drewN nq = W9 at *
        go_wp2_with fail
        go_roundw
        case rel => exact ⟨i + 1, HK1.out, by first | rw [HWI.out, HCS.out] | rw [HCS.out], HI2⟩
        case measure => first | exact HMO.out | exact HME.out
      · have hin : i = L.length := by omega
        subst hin
        have d1 : decide ((L.length : Int) < (L.length : Int)) = false := decide_eq_false (by omega)
        replace Q0 := Lib.hid (heapB HI.out.2 Q0.out)
        replace HB := Lib.hid HI.out.1
        have c0 := cellR 0 Q0.out rfl
        have c1 := cellR 1 Q0.out rfl
        have c2 := cellR 2 Q0.out rfl
        clear HI hlt hi hll HP1 HP2 HLL
        go_wp2_with fail
        refine (H13.out _ HB.out).mono ?_
        rintro e w5 ⟨v1, rfl, ⟨a3, k3, rfl, i3⟩, hb5⟩
        have HI1 := Lib.hid i3
        replace Q0 := Lib.hid (heapB hb5 Q0.out)
        replace HB := Lib.hid (HB.out.trans (hb5.mono HB.out.size))
        clear hb5 c0 c1 c2
        have c0 := cellR 0 Q0.out rfl
        have c1 := cellR 1 Q0.out rfl
        have c2 := cellR 2 Q0.out rfl
        clear H13 i3
        go_wp2_with fail
        refine (HSP.out _).mono ?_
        rintro e w6 ⟨rfl, hb6⟩
        replace HI1 := Lib.hid (HI1.out.keep hb6)
        replace Q0 := Lib.hid (heapB hb6 Q0.out)
        replace HB := Lib.hid (HB.out.trans (hb6.mono HB.out.size))
        clear hb6 c0 c1 c2
        have c0 := cellR 0 Q0.out rfl
        have c1 := cellR 1 Q0.out rfl
        have c2 := cellR 2 Q0.out rfl
        go_wp2_with fail
        refine (H14.out _ HB.out).mono ?_
        rintro e w7 ⟨v2, rfl, ⟨a4, k4, rfl, i4⟩, hb7⟩
        have HQ := Lib.hid (equal_any (HI1.out.keep hb7) i4 k3 k4)
        replace Q0 := Lib.hid (heapB hb7 Q0.out)
        replace HB := Lib.hid (HB.out.trans (hb7.mono HB.out.size))
        clear hb7 c0 c1 c2
        have c0 := cellR 0 Q0.out rfl
        have c1 := cellR 1 Q0.out rfl
        have c2 := cellR 2 Q0.out rfl
        clear H14 i4 HI1 HSP
        have e4 : (E2 == E2) = true := by simp
        have e3 : decide (K = K) = true := by simp
        go_wp2_with fail
        refine HQ.out.mono ?_
        rintro e w8 ⟨rfl, hb8⟩
        replace HB := Lib.hid (HB.out.trans (hb8.mono HB.out.size))
        clear hb8 HQ c0 c1 c2 Q0
        go_wp2_with fail
        refine (HWK.out _).mono ?_
        rintro e w9 ⟨rfl, hb9⟩
        replace HB := Lib.hid (HB.out.trans (hb9.mono HB.out.size))
        clear hb9 HWK
        go_wp2_with fail
        go_ret
        exact ⟨rfl, HB.out⟩
end Go.Proofs.YtbhkenphcahifaaGreat

namespace Go.Proofs.YtbhkenphcahifaaGreat
open Go.RowKit Go.Shelf
set_option maxRecDepth 100000
set_option maxHeartbeats 4000000

theorem pla_ok {kind : Int} {l : List Int} {hosts x : Int} (hE : plaE kind l hosts x = 0) : vOk kind l hosts ∧ 0 ≤ x ∧ x < swI kind l := by
  unfold plaE at hE
  by_cases hv : vOk kind l hosts
  · rw [if_pos hv] at hE
    by_cases hi : inB (swI kind l) [x] = true
    · refine ⟨hv, ?_⟩
      simp [inB] at hi
      omega
    · rw [if_neg hi] at hE; cases hE
  · rw [if_neg hv] at hE; cases hE
theorem prs_nil (w : World) : Prs w none [] := ⟨fun h => absurd rfl h⟩
theorem near_both {w : World} {sa : Option Addr} {l : List Int} (h : Ints w sa l) (sc : Nat) (kind hosts x : Int) : ∃ K : List Int,
    (∀ W, Below w.heap.size w W → Calls Tryz.prog 13 #[.agg #[.int .i64 kind, .slice sa l.length sc, .int .i64 hosts], .int .i64 x] W fun e w' => ∃ v, e = .returned (.tuple #[v, .int .i64 (plaE kind l hosts x)]) ∧ (∃ a cap, v = .slice a K.length cap ∧ Ints w' a K) ∧ Below W.heap.size W w') ∧
    (∀ W, Below w.heap.size w W → Calls Tryz.prog 14 #[.agg #[.int .i64 kind, .slice sa l.length sc, .int .i64 hosts], .int .i64 x] W fun e w' => ∃ v, e = .returned (.tuple #[v, .int .i64 (plaE kind l hosts x)]) ∧ (∃ a cap, v = .slice a K.length cap ∧ Ints w' a K) ∧ Below W.heap.size W w') := by
  by_cases hE : plaE kind l hosts x = 0
  · obtain ⟨hv, h0, h1⟩ := pla_ok hE
    refine ⟨nbS kind l x, fun W hb => ?_, fun W hb => ?_⟩
    · refine (Neighbors_ok (h.keep hb) sc kind hosts x hv h0 h1).mono ?_
      rintro e w' ⟨v, rfl, h3, h4⟩
      exact ⟨v, by rw [hE], h3.ints, h4⟩
    · refine (rNeighborsX_ok (h.keep hb) sc kind hosts x hv h0 h1).mono ?_
      rintro e w' ⟨v, rfl, h3, h4⟩
      exact ⟨v, by rw [hE], h3.ints, h4⟩
  · refine ⟨[], fun W hb => ?_, fun W hb => ?_⟩
    · refine (Neighbors_bad (h.keep hb) sc kind hosts x hE).mono ?_
      rintro e w' ⟨rfl, h4⟩
      exact ⟨_, rfl, ⟨none, 0, rfl, ints_nil _⟩, h4⟩
    · refine (rNeighborsX_bad (h.keep hb) sc kind hosts x hE).mono ?_
      rintro e w' ⟨rfl, h4⟩
      exact ⟨_, rfl, ⟨none, 0, rfl, ints_nil _⟩, h4⟩
theorem NetLinks_walk {w : World} {sa : Option Addr} {l : List Int} (h : Ints w sa l) (sc : Nat) (kind hosts x : Int) :
    Calls Tryz.prog 3 #[.agg #[.int .i64 kind, .slice sa l.length sc, .int .i64 hosts], .int .i64 x] w fun e w' => e = .returned (.bool true) ∧ Below w.heap.size w w' := by
  obtain ⟨K, H13, H14⟩ := near_both h sc kind hosts x
  by_cases hv : vOk kind l hosts
  · obtain ⟨N, hN⟩ := Int.eq_ofNat_of_zero_le (show 0 ≤ swI kind l by have := v_bound hv; omega)
    refine NetLinks_core h sc kind hosts x 0 (plaE kind l hosts x) (lkL (nbS kind l) N) K ?_ ?_ ?_ H13 H14
    · have h1 := lkL_len (NB := nbS kind l) (N := N) (fun x hx => nbS_few hv hN (by omega) (by omega)) N (Nat.le_refl _)
      have h3 := sw_max hv
      have h2 := Nat.mul_le_mul (show N ≤ 256 by omega) (show N ≤ 256 by omega)
      omega
    · intro W hb
      refine (Links_ok (h.keep hb) sc kind hosts hv hN).mono ?_
      rintro e w' ⟨v, rfl, h3, h4⟩
      exact ⟨v, rfl, h3.prs, h4⟩
    · intro W hb
      refine (rLinks_ok (h.keep hb) sc kind hosts hv hN).mono ?_
      rintro e w' ⟨v, rfl, h3, h4⟩
      exact ⟨v, rfl, h3.prs, h4⟩
  · have hE : errI kind l hosts = 2 := if_neg hv
    refine NetLinks_core h sc kind hosts x 2 (plaE kind l hosts x) [] K (by simp) ?_ ?_ H13 H14
    · intro W hb
      refine (Links_bad (h.keep hb) sc kind hosts hv).mono ?_
      rintro e w' ⟨rfl, h4⟩
      exact ⟨_, rfl, ⟨none, 0, rfl, prs_nil _⟩, h4⟩
    · intro W hb
      have := rLinks_bad (h.keep hb) sc kind hosts (by rw [hE]; decide)
      rw [hE] at this
      refine this.mono ?_
      rintro e w' ⟨rfl, h4⟩
      exact ⟨_, rfl, ⟨none, 0, rfl, prs_nil _⟩, h4⟩
end Go.Proofs.YtbhkenphcahifaaGreat

namespace Go.Proofs.YtbhkenphcahifaaGreat.netLinks
open Go.ChangeShapes Go.WideShapes Go.ChangeAt Go.RowKit

set_option maxRecDepth 100000 in
theorem lifted (os : Os) (started : os.Started) (H : Type) (enc : TypeId × Value → H) :
    ReturnsInHanded {} Tryz.checked os 3 .any (Rows.netLinksSpec.pre6 enc Tryz.prog Tryz.f3 Rows.netLinksRow.domain false) (Rows.netLinksSpec.post enc Tryz.prog Tryz.f3 false true false false) := by
  refine returnsInHanded_of_change_sized (C := Tryz.checked) own started (by kernel_rfl) Tryz.func3
    (ChangeSpec.witness6 (enc := enc) (C := Tryz.checked) false ⟨#[], #[.agg #[.int .i64 0, .slice none 0 0, .int .i64 0], .int .i64 0], []⟩ 8 (by kernel_rfl) (by kernel_rfl) (by kernel_rfl) (by kernel_rfl)) ?_
  intro W base args ds gs before hval0 hW hcnd hsz0 _
  have hval : ∀ (j : Nat) t v, Tryz.f3.params[j]? = some t → args[j]? = some v → Value.okWide Tryz.prog W .any base t v := hval0
  have hsz : (DataW.weightsEach Tryz.prog (Tryz.f3.params.toList ++ Rows.netLinksSpec.plain.varTypes Tryz.prog) (ds ++ gs)).all (· ≤ reachBytes) = true := hsz0
  have hW' := hW
  obtain ⟨p, q, hA0, hV, rfl, hfz, hnd⟩ := hW
  have hA : DataW.TrodAll enc Tryz.prog W 0 (fun _ => true) true Tryz.f3.params.toList args.toList ds p := hA0
  have hA1 := hA
  rw [Tryz.params3] at hA hval hsz
  obtain ⟨v0, vs0, d0, ds0, p0, q0, hargs, rfl, rfl, h0, r0⟩ := trodAll_cons hA
  obtain ⟨v1, vs1, d1, ds1, p1, q1, rfl, rfl, rfl, h1, r1⟩ := trodAll_cons r0
  obtain ⟨rfl, rfl, rfl⟩ := trodAll_nil r1
  obtain rfl : args = #[v0, v1] := by cases args; simp_all
  obtain ⟨rfl, rfl⟩ := trodVars_none hV
  obtain ⟨k0, o0, x0, cap0, l0, rfl, hc0, hn0, hI0, hw0, wk0, wo0⟩ := spec_of_trod (hval 0 24 v0 rfl rfl) h0 (j := 0) hsz rfl rfl
  obtain ⟨a1, rfl, _, _, w1⟩ := open_int Tryz.underlying3 (hval 1 3 v1 rfl rfl) h1
  refine (NetLinks_walk hI0 cap0 k0 o0 a1).mono fun e W' ⟨he, hb⟩ => ?_
  subst he
  have hlt : ∀ x ∈ (p0 ++ (p1 ++ [])), x.block < W.heap.size := fun x hx => hW'.lt x (by simpa using hx)
  refine ⟨_, rfl, _, _, _, [], _, [], hW', (trodAll_cons_mk (shut_bool Tryz.underlying4 _) trodAll_mk0), below_trodAll hb _ ?_ hA1 hlt, rfl, hb.frame _, fun h => by cases h⟩
  rw [Tryz.params3]
  exact of_decide_eq_true (by kernel_rfl)

theorem over : Rows.netLinksRow.holds Tryz.pinned (OpenSpec.ofChange Rows.netLinksSpec) :=
  OpenClaim.holds_of_wide 3 Tryz.f3 rfl rfl rfl rfl rfl rfl rfl ⟨rfl, rfl, rfl, rfl, rfl⟩ rfl rfl rfl rfl rfl (by kernel_rfl) Tryz.func3 (by kernel_rfl)
    (of_decide_eq_true (by kernel_rfl)) (by unfold Func.isWrapper; first | (rw [if_pos (by decide +kernel)]; kernel_rfl) | (rw [if_neg (by decide +kernel)]; exact ⟨rfl, rfl⟩))
    (fun os started H enc _ => lifted os started H enc)
end Go.Proofs.YtbhkenphcahifaaGreat.netLinks

namespace Go.Proofs.YtbhkenphcahifaaGreat
/-- the statement -/
theorem netLinks_holds : Rows.NetLinksSaid := netLinks.over
end Go.Proofs.YtbhkenphcahifaaGreat
