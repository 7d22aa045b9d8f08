/-
  NetCuts returns true at every description of a network and truth values, and its arguments read afterwards as they read before. Conditions: none.
-/
import Derived.Test.YtbhkenphcahifaaQCutsA
import Derived.Test.YtbhkenphcahifaaOA
import Derived.Test.YtbhkenphcahifaaPH
import Derived.Test.YtbhkenphcahifaaOI
import Derived.Deep.Grids
import Derived.Test.YtbhkenphcahifaaRows
import Derived.WalkKit
import Derived.ProofKit
import Derived.OpenShut
import Derived.Carry
import Derived.SizedLaws
namespace Go.Proofs.Ytbhkenphcahifaa
open Go.RowKit Go.Shelf
set_option maxRecDepth 100000
set_option maxHeartbeats 4000000

/-- how many of a switch's links to those behind it are across a side -/
def cutX (bs : List Bool) (x : Nat) (l : List Int) : Nat := (l.filter fun y => decide ((x : Int) < y) && (bs.getD x false != bs.getD y.toNat false)).length
def cutN (bs : List Bool) (NB : Int → List Int) : Nat → Nat
  | 0 => 0
  | x + 1 => cutN bs NB x + cutX bs x (NB (x : Int))
theorem cutL_append (bs : List Bool) (A B : List (Int × Int)) : cutL bs (A ++ B) = cutL bs A + cutL bs B := by
  unfold cutL; rw [List.filter_append, List.length_append]
theorem cutL_sel (bs : List Bool) (x : Nat) (l : List Int) : cutL bs (selL (x : Int) l) = cutX bs x l := by
  unfold cutL selL cutX
  rw [List.filter_map, List.length_map, List.filter_filter]
  congr 1
  refine List.filter_congr fun y _ => ?_
  simp [Bool.and_comm]
theorem cutL_eq (bs : List Bool) (NB : Int → List Int) : ∀ n, cutL bs (lkL NB n) = cutN bs NB n
  | 0 => rfl
  | n + 1 => by rw [lkL, cutL_append, cutL_eq bs NB n, cutL_sel, cutN]
theorem cutX_perm (bs : List Bool) (x : Nat) {l l' : List Int} (h : l.Perm l') : cutX bs x l = cutX bs x l' := (h.filter _).length_eq
theorem cutN_perm (bs : List Bool) {NB NB' : Int → List Int} : ∀ n, (∀ x : Nat, x < n → (NB (x : Int)).Perm (NB' (x : Int))) → cutN bs NB n = cutN bs NB' n
  | 0, _ => rfl
  | n + 1, h => by rw [cutN, cutN, cutN_perm bs n (fun x hx => h x (by omega)), cutX_perm bs n (h n (by omega))]
theorem cutX_not (bs : List Bool) (x : Nat) (l : List Int) (hx : x < bs.length) (hl : ∀ y ∈ l, 0 ≤ y ∧ y.toNat < bs.length) : cutX (bs.map (!·)) x l = cutX bs x l := by
  unfold cutX
  congr 1
  refine List.filter_congr fun y hy => ?_
  have h1 := (hl y hy).2
  simp [List.getD, List.getElem?_map, hx, h1]
/-- as many links are across a side as across its complement -/
theorem cutN_not (bs : List Bool) {NB : Int → List Int} : ∀ n, n ≤ bs.length → (∀ x : Nat, x < n → ∀ y ∈ NB (x : Int), 0 ≤ y ∧ y.toNat < bs.length) → cutN (bs.map (!·)) NB n = cutN bs NB n
  | 0, _, _ => rfl
  | n + 1, hn, h => by rw [cutN, cutN, cutN_not bs n (by omega) (fun x hx => h x (by omega)), cutX_not bs n _ (by omega) (h n (by omega))]

/-- dragonflies: the standard sides -/
def nbD0 (a h : Nat) (x : Int) : List Int := dgA a (x / a) (x % a) a ++ dgB a h ((a : Int) * h + 1) (x / a) (x % a) h
def sdD (a n g : Nat) : List Bool := (List.range n).map fun x => x / a == g
def chkD (a h : Nat) : Bool := (List.range (a * h + 1)).all (fun g => cutN (sdD a (a * (a * h + 1)) g) (nbD0 a h) (a * (a * h + 1)) == a * h) && (List.range (a * (a * h + 1))).all (fun x => (nbD0 a h (x : Int)).all fun y => decide (0 ≤ y) && decide (y.toNat < a * (a * h + 1)))
theorem chkD_all : ((List.range 8).all fun a => (List.range 5).all fun h => a == 0 || h == 0 || !decide (a * (a * h + 1) ≤ 64) || chkD a h) = true := by decide +kernel
theorem chkD_at {a h : Nat} (ha : 1 ≤ a) (hh : 1 ≤ h) (ha2 : a < 8) (hh2 : h < 5) (hn : a * (a * h + 1) ≤ 64) : chkD a h = true := by
  have h1 := List.all_eq_true.1 chkD_all a (List.mem_range.2 ha2)
  have h2 := List.all_eq_true.1 h1 h (List.mem_range.2 hh2)
  simp only [Bool.or_eq_true, beq_iff_eq, Bool.not_eq_true', decide_eq_false_iff_not] at h2
  rcases h2 with ((h2 | h2) | h2) | h2
  · omega
  · omega
  · exact absurd hn h2
  · exact h2
theorem cutD_all {a h : Nat} (ha : 1 ≤ a) (hh : 1 ≤ h) (ha2 : a < 8) (hh2 : h < 5) (hn : a * (a * h + 1) ≤ 64) {g : Nat} (hg : g < a * h + 1) : cutN (sdD a (a * (a * h + 1)) g) (nbD0 a h) (a * (a * h + 1)) = a * h := by
  have h1 := chkD_at ha hh ha2 hh2 hn
  unfold chkD at h1
  rw [Bool.and_eq_true] at h1
  simpa using List.all_eq_true.1 h1.1 g (List.mem_range.2 hg)
theorem nbD_in {a h : Nat} (ha : 1 ≤ a) (hh : 1 ≤ h) (ha2 : a < 8) (hh2 : h < 5) (hn : a * (a * h + 1) ≤ 64) {x : Nat} (hx : x < a * (a * h + 1)) : ∀ y ∈ nbD0 a h (x : Int), 0 ≤ y ∧ y.toNat < a * (a * h + 1) := by
  intro y hy
  have h1 := chkD_at ha hh ha2 hh2 hn
  unfold chkD at h1
  rw [Bool.and_eq_true] at h1
  have h2 := List.all_eq_true.1 (List.all_eq_true.1 h1.2 x (List.mem_range.2 hx)) y hy
  simpa using h2
/-- trees: the standard sides -/
def sdT (k lv level v : Nat) : List Bool := (List.range (lv * k ^ (lv - 1))).map fun x => decide (x / k ^ (lv - 1) < level) && (x % k ^ (lv - 1) / k ^ (level - 1) == v)
def chkT (k lv : Nat) : Bool := (List.range lv).all (fun level => level == 0 || (List.range (k ^ (lv - level))).all fun v => cutN (sdT k lv level v) (nbT k lv) (lv * k ^ (lv - 1)) == k ^ level) && (List.range (lv * k ^ (lv - 1))).all (fun x => (nbT k lv (x : Int)).all fun y => decide (0 ≤ y) && decide (y.toNat < lv * k ^ (lv - 1)))
theorem chkT_all : ((List.range 9).all fun k => (List.range 5).all fun lv => decide (k < 2) || lv == 0 || !decide (lv * k ^ (lv - 1) ≤ 64) || chkT k lv) = true := by decide +kernel
theorem chkT_at {k lv : Nat} (hk : 2 ≤ k) (hl : 1 ≤ lv) (hk2 : k < 9) (hl2 : lv < 5) (hn : lv * k ^ (lv - 1) ≤ 64) : chkT k lv = true := by
  have h1 := List.all_eq_true.1 chkT_all k (List.mem_range.2 hk2)
  have h2 := List.all_eq_true.1 h1 lv (List.mem_range.2 hl2)
  simp only [Bool.or_eq_true, beq_iff_eq, Bool.not_eq_true', decide_eq_false_iff_not, decide_eq_true_eq] at h2
  rcases h2 with ((h2 | h2) | h2) | h2
  · omega
  · omega
  · exact absurd hn h2
  · exact h2
theorem cutT_all {k lv : Nat} (hk : 2 ≤ k) (hl : 1 ≤ lv) (hk2 : k < 9) (hl2 : lv < 5) (hn : lv * k ^ (lv - 1) ≤ 64) {level v : Nat} (h0 : 1 ≤ level) (h1 : level < lv) (hv : v < k ^ (lv - level)) : cutN (sdT k lv level v) (nbT k lv) (lv * k ^ (lv - 1)) = k ^ level := by
  have h3 := chkT_at hk hl hk2 hl2 hn
  unfold chkT at h3
  rw [Bool.and_eq_true] at h3
  have h4 := List.all_eq_true.1 h3.1 level (List.mem_range.2 h1)
  rw [Bool.or_eq_true] at h4
  rcases h4 with h4 | h4
  · simp at h4; omega
  · simpa using List.all_eq_true.1 h4 v (List.mem_range.2 hv)
theorem nbT_in {k lv : Nat} (hk : 2 ≤ k) (hl : 1 ≤ lv) (hk2 : k < 9) (hl2 : lv < 5) (hn : lv * k ^ (lv - 1) ≤ 64) {x : Nat} (hx : x < lv * k ^ (lv - 1)) : ∀ y ∈ nbT k lv (x : Int), 0 ≤ y ∧ y.toNat < lv * k ^ (lv - 1) := by
  intro y hy
  have h1 := chkT_at hk hl hk2 hl2 hn
  unfold chkT at h1
  rw [Bool.and_eq_true] at h1
  have h2 := List.all_eq_true.1 (List.all_eq_true.1 h1.2 x (List.mem_range.2 hx)) y hy
  simpa using h2
end Go.Proofs.Ytbhkenphcahifaa

namespace Go.Proofs.Ytbhkenphcahifaa
open Go.RowKit Go.Shelf
set_option maxRecDepth 100000
set_option maxHeartbeats 4000000

/-- how many numbers below n -/
def cntN (p : Nat → Bool) : Nat → Nat
  | 0 => 0
  | n + 1 => cntN p n + (if p n = true then 1 else 0)
theorem cntN_add (p : Nat → Bool) (a : Nat) : ∀ r, cntN p (a + r) = cntN p a + cntN (fun j => p (a + j)) r
  | 0 => rfl
  | r + 1 => by rw [← Nat.add_assoc, cntN, cntN_add p a r, cntN, Nat.add_assoc]
theorem cntN_congr {p q : Nat → Bool} : ∀ n, (∀ x, x < n → p x = q x) → cntN p n = cntN q n
  | 0, _ => rfl
  | n + 1, h => by rw [cntN, cntN, cntN_congr n (fun x hx => h x (by omega)), h n (by omega)]
theorem cnt_block {T : Nat} (hT : 1 ≤ T) (v : Nat) : ∀ r, cntN (fun j => decide (j / T = v)) r = if r ≤ v * T then 0 else if r ≤ v * T + T then r - v * T else T
  | 0 => by simp [cntN]
  | r + 1 => by
    rw [cntN, cnt_block hT v r]
    have h : r / T = v ↔ v * T ≤ r ∧ r < v * T + T := by
      rw [Nat.div_eq_iff (by omega), Nat.mul_comm]
      omega
    have hif : (if decide (r / T = v) = true then 1 else 0) = if v * T ≤ r ∧ r < v * T + T then 1 else 0 := by
      by_cases hr : r / T = v
      · rw [if_pos (by simpa using hr), if_pos (h.1 hr)]
      · rw [if_neg (by simpa using hr), if_neg (fun e => hr (h.2 e))]
    show (if r ≤ v * T then 0 else if r ≤ v * T + T then r - v * T else T) + (if decide (r / T = v) = true then 1 else 0) = _
    rw [hif]
    generalize v * T = A
    clear hif h
    repeat' split
    all_goals omega
theorem cnt_total {T m v : Nat} (hT : 1 ≤ T) (hv : v < m) : ∀ H, cntN (fun x => decide (x / T % m = v)) (T * m * H) = T * H
  | 0 => by simp [cntN]
  | H + 1 => by
    rw [Nat.mul_succ, cntN_add, cnt_total hT hv H, Nat.mul_succ]
    congr 1
    have h1 : cntN (fun j => decide ((T * m * H + j) / T % m = v)) (T * m) = cntN (fun j => decide (j / T = v)) (T * m) := by
      refine cntN_congr _ fun x hx => ?_
      have e1 : (T * m * H + x) / T = m * H + x / T := by
        rw [Nat.mul_assoc, Nat.add_comm, Nat.add_mul_div_left _ _ (by omega), Nat.add_comm]
      have e2 : x / T < m := Nat.div_lt_of_lt_mul hx
      have e3 : (m * H + x / T) % m = x / T := by rw [Nat.mul_add_mod, Nat.mod_eq_of_lt e2]
      rw [e1, e3]
    rw [h1, cnt_block hT]
    have h2 : v * T + T ≤ T * m := by
      have : (v + 1) * T ≤ m * T := Nat.mul_le_mul_right T hv
      rw [Nat.add_mul, Nat.one_mul] at this
      rw [Nat.mul_comm T m]; exact this
    rw [if_neg (by omega)]
    split <;> omega
theorem cutN_sum (bs : List Bool) (NB : Int → List Int) (p q : Nat → Bool) : ∀ n, (∀ x, x < n → cutX bs x (NB (x : Int)) = (if p x = true then 1 else 0) + (if q x = true then 1 else 0)) → cutN bs NB n = cntN p n + cntN q n
  | 0, _ => rfl
  | n + 1, h => by
    rw [cutN, cutN_sum bs NB p q n (fun x hx => h x (by omega)), h n (by omega), cntN, cntN]
    omega
end Go.Proofs.Ytbhkenphcahifaa

namespace Go.Proofs.Ytbhkenphcahifaa
open Go.RowKit Go.Shelf
set_option maxRecDepth 100000
set_option maxHeartbeats 4000000

/-- every number below the product is that of coordinates -/
theorem num_onto {l : List Int} (hb : ∀ i, i < l.length → 2 ≤ l.getD i 0 ∧ l.getD i 0 ≤ 16) : ∀ k, k ≤ l.length → ∀ y, 0 ≤ y → y < prodI (l.take k) → ∃ d : List Int, d.length = l.length ∧ (∀ j, j < k → 0 ≤ d.getD j 0 ∧ d.getD j 0 < l.getD j 0) ∧ numK l d k = y
  | 0, _, y, h0, h1 => ⟨List.replicate l.length 0, by simp, fun j hj => by omega, by simp [prodI] at h1; rw [numK]; omega⟩
  | k + 1, hk, y, h0, h1 => by
    obtain ⟨b1, b2⟩ := hb k (by omega)
    rw [List.take_succ_eq_append_getElem (by omega), prodI_snoc, show l[k] = l.getD k 0 by simp [List.getD, show k < l.length by omega]] at h1
    obtain ⟨d, hd, hi, hn⟩ := num_onto hb k (by omega) (y / l.getD k 0) (Int.ediv_nonneg h0 (by omega)) (Int.ediv_lt_of_lt_mul (by omega) h1)
    refine ⟨d.set k (y % l.getD k 0), by rw [List.length_set, hd], fun j hj => ?_, ?_⟩
    · by_cases hjk : k = j
      · subst hjk
        rw [getD_set_same _ _ _ _ (by omega)]
        exact ⟨Int.emod_nonneg _ (by omega), Int.emod_lt_of_pos _ (by omega)⟩
      · rw [getD_set_other _ _ _ _ _ hjk]; exact hi j (by omega)
    · rw [numK, numK_set k (Nat.le_refl _), hn, getD_set_same _ _ _ _ (by omega), Int.mul_comm]
      exact Int.mul_ediv_add_emod y _
theorem num_of {l : List Int} (hb : ∀ i, i < l.length → 2 ≤ l.getD i 0 ∧ l.getD i 0 ≤ 16) {x : Int} (h0 : 0 ≤ x) (h1 : x < prodI l) : ∃ d, InT l d ∧ numI l d = x := by
  obtain ⟨d, hd, hi, hn⟩ := num_onto hb l.length (Nat.le_refl _) x h0 (by rw [List.take_length]; exact h1)
  exact ⟨d, ⟨hd, hi⟩, hn⟩
theorem nbK_iff {l : List Int} {x y : Int} : ∀ k, y ∈ nbK l x k ↔ ∃ i, i < k ∧ (y = nbA l x i 1 ∨ y = nbA l x i (-1))
  | 0 => by simp [nbK]
  | k + 1 => by
    rw [nbK, List.mem_append, nbK_iff k]
    constructor
    · rintro (⟨i, hi, h⟩ | h)
      · exact ⟨i, by omega, h⟩
      · exact ⟨k, by omega, by simpa using h⟩
    · rintro ⟨i, hi, h⟩
      by_cases hik : i = k
      · subst hik; exact .inr (by simpa using h)
      · exact .inl ⟨i, by omega, h⟩
/-- a neighbor by its coordinates -/
theorem nbA_num {l d : List Int} (hd : InT l d) {i : Nat} (hi : i < l.length) (s : Int) : nbA l (numI l d) i s = numI l (d.set i ((d.getD i 0 + s) % l.getD i 0)) := by
  unfold nbA
  rw [num_digit hd hi, num_set hi (by rw [hd.1]; exact hi)]
theorem emod_in {a m : Int} (hm : 2 ≤ m) : 0 ≤ a % m ∧ a % m < m := ⟨Int.emod_nonneg _ (by omega), Int.emod_lt_of_pos _ (by omega)⟩
theorem nbA_in {l : List Int} (hb : ∀ i, i < l.length → 2 ≤ l.getD i 0 ∧ l.getD i 0 ≤ 16) {x : Int} (h0 : 0 ≤ x) (h1 : x < prodI l) {i : Nat} (hi : i < l.length) (s : Int) : 0 ≤ nbA l x i s ∧ nbA l x i s < prodI l := by
  obtain ⟨d, hd, rfl⟩ := num_of hb h0 h1
  rw [nbA_num hd hi]
  obtain ⟨e1, e2⟩ := emod_in (a := d.getD i 0 + s) (hb i hi).1
  exact num_lt (hd.set hi e1 e2)
/-- a sorted list without what is twice -/
theorem sort_sorted (l : List Int) : (sortL l).Pairwise (· ≤ ·) := by
  have h := List.pairwise_mergeSort (le := fun x y : Int => decide (x ≤ y)) (fun a b c h1 h2 => by simp at *; omega) (fun a b => by simp; omega) l
  exact h.imp fun h => by simpa using h
theorem compact_nodup {l : List Int} (h : l.Pairwise (· ≤ ·)) : (Lib.compact l).Nodup := by
  unfold Lib.compact Lib.compactUpTo
  refine List.pairwise_map.2 ?_
  have hr : (List.range l.length).Pairwise (· < ·) := List.pairwise_lt_range
  refine (hr.filter _).imp_of_mem ?_
  intro a b ha hb hab he
  have hbl : b < l.length := List.mem_range.1 (List.mem_filter.1 hb).1
  have hk := (List.mem_filter.1 hb).2
  unfold Lib.keeps at hk
  simp only [decide_eq_true_eq] at hk
  rcases hk with hk | hk
  · omega
  · have hp : ∀ i j (hi : i < l.length) (hj : j < l.length), i < j → l[i] ≤ l[j] := fun i j hi hj hij => (List.pairwise_iff_getElem.1 h) i j hi hj hij
    simp only [List.getElem!_toArray, getElem!_pos, show a < l.length by omega, hbl, show b - 1 < l.length by omega] at he hk
    by_cases hab1 : a = b - 1
    · subst hab1; exact hk he.symm
    · have h1 := hp a (b - 1) (by omega) (by omega) (by omega)
      have h2 := hp (b - 1) b (by omega) hbl (by omega)
      exact hk (by omega)
theorem compactUpTo_sub (d : Array Int) : ∀ (m : Nat), m ≤ d.size → ∀ y ∈ Lib.compactUpTo d m, y ∈ d.toList := by
  intro m hm y hy
  unfold Lib.compactUpTo at hy
  obtain ⟨j, hj, rfl⟩ := List.mem_map.1 hy
  have hj2 := List.mem_range.1 (List.mem_filter.1 hj).1
  rw [getElem!_pos d j (by omega)]
  simp
theorem nbL_iff {l : List Int} {x y : Int} : y ∈ nbL l x ↔ y ∈ nbK l x l.length := by
  constructor
  · intro h
    have h1 := compactUpTo_sub _ _ (by simp) y h
    have h2 : y ∈ sortL (nbK l x l.length) := by simpa using h1
    unfold sortL at h2
    exact (List.mergeSort_perm _ _).mem_iff.1 h2
  · exact nbL_mem
theorem nbL_nodup (l : List Int) (x : Int) : (nbL l x).Nodup := compact_nodup (sort_sorted _)
theorem nbL_in {l : List Int} (hb : ∀ i, i < l.length → 2 ≤ l.getD i 0 ∧ l.getD i 0 ≤ 16) {x : Int} (h0 : 0 ≤ x) (h1 : x < prodI l) : ∀ y ∈ nbL l x, 0 ≤ y ∧ y < prodI l := by
  intro y hy
  obtain ⟨i, hi, h | h⟩ := (nbK_iff _).1 (nbL_iff.1 hy)
  · rw [h]; exact nbA_in hb h0 h1 hi _
  · rw [h]; exact nbA_in hb h0 h1 hi _
/-- which links are across the half of a ring -/
theorem cross_torus {l : List Int} (hb : ∀ i, i < l.length → 2 ≤ l.getD i 0 ∧ l.getD i 0 ≤ 16) {d : List Int} (hd : InT l d) {i : Nat} (hi : i < l.length) :
    ((nbL l (numI l d)).filter fun y => decide (numI l d < y) && (decide (d.getD i 0 < l.getD i 0 / 2) != decide (y / strI l i % l.getD i 0 < l.getD i 0 / 2))).length = (if d.getD i 0 + 1 = l.getD i 0 / 2 then 1 else 0) + (if d.getD i 0 = 0 ∧ 2 < l.getD i 0 then 1 else 0) := by
  obtain ⟨b1, b2⟩ := hb i hi
  obtain ⟨c1, c2⟩ := hd.2 i hi
  have hT : 1 ≤ strI l i := drop_pos hb (i + 1) (by omega)
  have hdi : i < d.length := by rw [hd.1]; exact hi
  have hdig : ∀ k, k < l.length → ∀ s, nbA l (numI l d) k s / strI l i % l.getD i 0 = if k = i then (d.getD i 0 + s) % l.getD i 0 else d.getD i 0 := fun k hk s => by
    obtain ⟨e1, e2⟩ := emod_in (a := d.getD k 0 + s) (hb k hk).1
    rw [nbA_num hd hk, num_digit (hd.set hk e1 e2) hi]
    by_cases hki : k = i
    · subst hki; rw [if_pos rfl, getD_set_same _ _ _ _ (by rw [hd.1]; exact hk)]
    · rw [if_neg hki, getD_set_other _ _ _ _ _ hki]
  have hval : ∀ s, nbA l (numI l d) i s = numI l d + strI l i * ((d.getD i 0 + s) % l.getD i 0 - d.getD i 0) := fun s => by unfold nbA; rw [num_digit hd hi]
  have hG : ((nbL l (numI l d)).filter fun y => decide (numI l d < y) && (decide (d.getD i 0 < l.getD i 0 / 2) != decide (y / strI l i % l.getD i 0 < l.getD i 0 / 2))).Perm ((if d.getD i 0 + 1 = l.getD i 0 / 2 then [numI l d + strI l i] else []) ++ (if d.getD i 0 = 0 ∧ 2 < l.getD i 0 then [numI l d + strI l i * (l.getD i 0 - 1)] else [])) := by
    refine (List.perm_ext_iff_of_nodup ((nbL_nodup l _).filter _) ?_).2 fun y => ?_
    · have hne : 2 < l.getD i 0 → numI l d + strI l i ≠ numI l d + strI l i * (l.getD i 0 - 1) := fun h e => by
        have h1 : strI l i * 2 ≤ strI l i * (l.getD i 0 - 1) := Int.mul_le_mul_of_nonneg_left (by omega) (by omega)
        omega
      split <;> split <;> simp_all
    · rw [List.mem_filter, nbL_iff, nbK_iff]
      constructor
      · rintro ⟨⟨k, hk, hy⟩, hc⟩
        simp only [Bool.and_eq_true, decide_eq_true_eq, bne_iff_ne, ne_eq, decide_eq_decide] at hc
        obtain ⟨hlt, hdiff⟩ := hc
        have hki : k = i := by
          by_cases h : k = i
          · exact h
          · exfalso
            apply hdiff
            rcases hy with rfl | rfl
            · rw [hdig k hk, if_neg h]
            · rw [hdig k hk, if_neg h]
        subst hki
        rcases hy with rfl | rfl
        · rw [hdig k hk, if_pos rfl] at hdiff
          rw [hval] at hlt ⊢
          by_cases hcm : d.getD k 0 + 1 < l.getD k 0
          · rw [Int.emod_eq_of_lt (by omega) hcm] at hdiff hlt ⊢
            have : d.getD k 0 + 1 = l.getD k 0 / 2 := by omega
            rw [if_pos this]
            rw [show d.getD k 0 + 1 - d.getD k 0 = 1 by omega, Int.mul_one]
            simp
          · exfalso
            have e : d.getD k 0 + 1 = l.getD k 0 := by omega
            rw [e, Int.emod_self] at hlt
            have h1 : strI l k * (0 - d.getD k 0) ≤ strI l k * 0 := Int.mul_le_mul_of_nonneg_left (by omega) (by omega)
            omega
        · rw [hdig k hk, if_pos rfl] at hdiff
          rw [hval] at hlt ⊢
          by_cases hc0 : d.getD k 0 = 0
          · rw [hc0] at hdiff hlt ⊢
            have e : ((0 : Int) + -1) % l.getD k 0 = l.getD k 0 - 1 := by
              rw [← Int.add_emod_right, Int.emod_eq_of_lt (by omega) (by omega)]; omega
            rw [e]
            by_cases hm2 : 2 < l.getD k 0
            · rw [if_pos (show (0 : Int) = 0 ∧ 2 < l.getD k 0 from ⟨rfl, hm2⟩), Int.sub_zero]
              simp
            · have hm : l.getD k 0 = 2 := by omega
              rw [hm, if_pos (by decide)]
              simp
          · exfalso
            rw [Int.emod_eq_of_lt (by omega) (by omega)] at hlt
            have h1 : strI l k * (d.getD k 0 + -1 - d.getD k 0) ≤ strI l k * 0 := Int.mul_le_mul_of_nonneg_left (by omega) (by omega)
            omega
      · intro hy
        rcases List.mem_append.1 hy with hy | hy
        · by_cases h1 : d.getD i 0 + 1 = l.getD i 0 / 2
          · rw [if_pos h1] at hy
            have hcm : d.getD i 0 + 1 < l.getD i 0 := by omega
            have e : nbA l (numI l d) i 1 = numI l d + strI l i := by rw [hval, Int.emod_eq_of_lt (by omega) hcm, show d.getD i 0 + 1 - d.getD i 0 = 1 by omega, Int.mul_one]
            obtain rfl : y = nbA l (numI l d) i 1 := by rw [e]; simpa using hy
            refine ⟨⟨i, hi, .inl rfl⟩, ?_⟩
            rw [hdig i hi, if_pos rfl, Int.emod_eq_of_lt (by omega) hcm, e]
            have g1 : decide (d.getD i 0 < l.getD i 0 / 2) = true := decide_eq_true (by omega)
            have g2 : decide (d.getD i 0 + 1 < l.getD i 0 / 2) = false := decide_eq_false (by omega)
            rw [g1, g2, Bool.and_eq_true]
            exact ⟨decide_eq_true (by omega), rfl⟩
          · rw [if_neg h1] at hy; simp at hy
        · by_cases h1 : d.getD i 0 = 0 ∧ 2 < l.getD i 0
          · rw [if_pos h1] at hy
            obtain ⟨hc0, hm2⟩ := h1
            have e0 : (d.getD i 0 + -1) % l.getD i 0 = l.getD i 0 - 1 := by
              rw [hc0, ← Int.add_emod_right, Int.emod_eq_of_lt (by omega) (by omega)]; omega
            have e : nbA l (numI l d) i (-1) = numI l d + strI l i * (l.getD i 0 - 1) := by rw [hval, e0, hc0, Int.sub_zero]
            obtain rfl : y = nbA l (numI l d) i (-1) := by rw [e]; simpa using hy
            refine ⟨⟨i, hi, .inr rfl⟩, ?_⟩
            rw [hdig i hi, if_pos rfl, e0, e]
            have g1 : decide (d.getD i 0 < l.getD i 0 / 2) = true := decide_eq_true (by omega)
            have g2 : decide (l.getD i 0 - 1 < l.getD i 0 / 2) = false := decide_eq_false (by omega)
            rw [g1, g2]
            have h1 : strI l i * 1 ≤ strI l i * (l.getD i 0 - 1) := Int.mul_le_mul_of_nonneg_left (by omega) (by omega)
            rw [Bool.and_eq_true]
            exact ⟨decide_eq_true (by omega), rfl⟩
          · rw [if_neg h1] at hy; simp at hy
  rw [hG.length_eq, List.length_append]
  split <;> split <;> rfl
end Go.Proofs.Ytbhkenphcahifaa

namespace Go.Proofs.Ytbhkenphcahifaa
open Go.RowKit Go.Shelf
set_option maxRecDepth 100000
set_option maxHeartbeats 4000000

theorem prodI_append (A B : List Int) : prodI (A ++ B) = prodI A * prodI B := by
  induction A with
  | nil => simp [prodI]
  | cons x A ih => rw [List.cons_append, prodI_cons, prodI_cons, ih, Int.mul_assoc]
/-- a torus' standard sides -/
def sdK (l : List Int) (i n : Nat) : List Bool := (List.range n).map fun (x : Nat) => decide ((x : Int) / strI l i % l.getD i 0 < l.getD i 0 / 2)
theorem sdK_at {l : List Int} {i n x : Nat} (hx : x < n) : (sdK l i n).getD x false = decide ((x : Int) / strI l i % l.getD i 0 < l.getD i 0 / 2) := by
  unfold sdK
  have h : ∀ (f : Nat → Bool), ((List.range n).map f).getD x false = f x := fun f => by simp [List.getD, hx]
  exact h _
theorem cutK_all {l : List Int} (hb : ∀ i, i < l.length → 2 ≤ l.getD i 0 ∧ l.getD i 0 ≤ 16) {i n : Nat} (hi : i < l.length) (hn : prodI l = (n : Int)) : ((cutN (sdK l i n) (nbL l) n : Nat) : Int) = if l.getD i 0 = 2 then (n : Int) / 2 else 2 * (n : Int) / l.getD i 0 := by
  obtain ⟨b1, b2⟩ := hb i hi
  have hT : 1 ≤ strI l i := drop_pos hb (i + 1) (by omega)
  have hP : prodI l = prodI (l.take i) * (l.getD i 0 * strI l i) := by
    rw [← str_step hi, ← prodI_append, List.take_append_drop]
  have hX : ∀ x : Nat, x < n → cutX (sdK l i n) x (nbL l (x : Int)) = (if decide ((x : Int) / strI l i % l.getD i 0 + 1 = l.getD i 0 / 2) = true then 1 else 0) + (if decide ((x : Int) / strI l i % l.getD i 0 = 0 ∧ 2 < l.getD i 0) = true then 1 else 0) := by
    intro x hx
    obtain ⟨d, hd, hnd⟩ := num_of hb (x := (x : Int)) (by omega) (by omega)
    have hdig : (x : Int) / strI l i % l.getD i 0 = d.getD i 0 := by rw [← hnd]; exact num_digit hd hi
    have hc := cross_torus hb hd hi
    rw [hnd] at hc
    rw [hdig]
    simp only [decide_eq_true_eq]
    rw [← hc]
    unfold cutX
    congr 1
    refine List.filter_congr fun y hy => ?_
    obtain ⟨y0, y1⟩ := nbL_in hb (x := (x : Int)) (by omega) (by omega) y hy
    obtain ⟨z, rfl⟩ := Int.eq_ofNat_of_zero_le y0
    rw [sdK_at hx, hdig, Int.toNat_natCast, sdK_at (by omega)]
  rw [cutN_sum _ _ (fun x => decide ((x : Int) / strI l i % l.getD i 0 + 1 = l.getD i 0 / 2)) (fun x => decide ((x : Int) / strI l i % l.getD i 0 = 0 ∧ 2 < l.getD i 0)) n hX]
  have hH0 : 0 ≤ prodI (l.take i) := by
    have h0 : 0 ≤ prodI (l.take i) * (l.getD i 0 * strI l i) := by rw [← hP, hn]; omega
    have h1 : 1 ≤ l.getD i 0 * strI l i := by
      have : 1 * 1 ≤ l.getD i 0 * strI l i := Int.mul_le_mul (by omega) hT (by omega) (by omega)
      omega
    by_cases h : 0 ≤ prodI (l.take i)
    · exact h
    · exfalso
      have h2 : prodI (l.take i) * (l.getD i 0 * strI l i) ≤ (-1) * (l.getD i 0 * strI l i) := Int.mul_le_mul_of_nonneg_right (by omega) (by omega)
      omega
  generalize strI l i = T at *
  generalize l.getD i 0 = m at *
  generalize prodI (l.take i) = H at *
  obtain ⟨T', rfl⟩ := Int.eq_ofNat_of_zero_le (show 0 ≤ T by omega)
  obtain ⟨m', rfl⟩ := Int.eq_ofNat_of_zero_le (show 0 ≤ m by omega)
  obtain ⟨H', rfl⟩ := Int.eq_ofNat_of_zero_le hH0
  have hnn : n = T' * m' * H' := by
    have h1 : (n : Int) = ((T' * m' * H' : Nat) : Int) := by
      rw [← hn, hP, Int.natCast_mul, Int.natCast_mul, Int.mul_comm (H' : Int), Int.mul_comm (m' : Int)]
    omega
  have hm2 : 2 ≤ m' := by omega
  have e1 : cntN (fun x => decide ((x : Int) / (T' : Int) % (m' : Int) + 1 = (m' : Int) / 2)) n = T' * H' := by
    rw [cntN_congr (q := fun x => decide (x / T' % m' = m' / 2 - 1)) n (fun x _ => ?_), hnn]
    · exact cnt_total (by omega) (by omega) H'
    · rw [← Int.natCast_ediv, ← Int.natCast_emod]
      refine decide_eq_decide.2 ⟨fun h => by omega, fun h => by omega⟩
  have e2 : cntN (fun x => decide ((x : Int) / (T' : Int) % (m' : Int) = 0 ∧ 2 < (m' : Int))) n = if m' = 2 then 0 else T' * H' := by
    by_cases h2 : m' = 2
    · rw [if_pos h2, cntN_congr (q := fun _ => false) n (fun x _ => decide_eq_false (by omega))]
      have : ∀ k, cntN (fun _ => false) k = 0 := fun k => by
        induction k with
        | zero => rfl
        | succ k ih => rw [cntN, ih]; rfl
      exact this n
    · rw [if_neg h2, cntN_congr (q := fun x => decide (x / T' % m' = 0)) n (fun x _ => ?_), hnn]
      · exact cnt_total (by omega) (by omega) H'
      · rw [← Int.natCast_ediv, ← Int.natCast_emod]
        refine decide_eq_decide.2 ⟨fun h => by omega, fun h => ⟨by omega, by omega⟩⟩
  rw [e1, e2]
  by_cases h2 : m' = 2
  · rw [if_pos h2, if_pos (by omega), hnn, h2, Nat.add_zero]
    rw [show ((T' * 2 * H' : Nat) : Int) = ((T' * H' : Nat) : Int) * 2 by rw [Nat.mul_right_comm]; omega, Int.mul_ediv_cancel _ (by decide)]
  · rw [if_neg h2, if_neg (by omega), hnn]
    rw [show 2 * ((T' * m' * H' : Nat) : Int) = (2 * ((T' * H' : Nat) : Int)) * (m' : Int) by rw [Nat.mul_right_comm, Int.natCast_mul (T' * H') m', Int.mul_assoc], Int.mul_ediv_cancel _ (by omega)]
    omega
end Go.Proofs.Ytbhkenphcahifaa

namespace Go.Proofs.Ytbhkenphcahifaa
open Go.RowKit Go.Shelf
attribute [local go_sem] Oper.semAt_some
set_option maxRecDepth 100000
set_option maxHeartbeats 4000000

/-- a function value that says of each switch whether it is on a side -/
structure SideFn (w0 : World) (lo sw : Nat) (S : Nat → Bool) (v : Value) (Ks : List Nat) (W : World) : Prop where
  ex : ∃ f caps, v = .func (.func f) #[] caps ∧ (∀ args W, (callFunc f args).run Try.prog W = .ok (.enter f args) W) ∧ ∀ W2, Below lo w0 W2 → (∀ b ∈ Ks, W2.heap[b]? = W.heap[b]?) → ∀ x : Nat, x < sw → Calls Try.prog f (#[.int .i64 (x : Int)] ++ caps) W2 fun e w' => e = .returned (.bool (S x)) ∧ Below W2.heap.size W2 w'
theorem SideFn.later {w0 : World} {lo sw : Nat} {S : Nat → Bool} {v : Value} {Ks : List Nat} {W W' : World} (h : SideFn w0 lo sw S v Ks W) (hk : ∀ b ∈ Ks, W'.heap[b]? = W.heap[b]?) : SideFn w0 lo sw S v Ks W' := by
  obtain ⟨f, caps, h1, h2, h3⟩ := h.ex
  exact ⟨f, caps, h1, h2, fun W2 hb hk2 => h3 W2 hb (fun b hm => (hk2 b hm).trans (hk b hm))⟩
/-- an iterator that yields such functions -/
def SeqF (n : Nat) (gf : Nat) (lb : Array Value) (Nd : List Nat) (lo sw : Nat) (S : List (Nat → Bool)) (w0 w : World) : Prop :=
  ∀ (l : Nat) (J : Nat → World → Prop) (Fr : Nat → World → Prop) (W : World), Below w.heap.size w W → (∀ b ∈ Nd, Fr b W) → (∀ i, PrivG W.heap.size (J i) Fr) →
    (∀ i v Ks W1 (hi : i < S.length), J i W1 → SideFn w0 lo sw S[i] v Ks W1 → (∀ b ∈ Ks, Fr b W1) → YieldAt Fence.wide (n - 1) Try.prog l #[v] W1 fun e W' => e = .returned (.bool true) ∧ J (i + 1) W' ∧ Kx lo Fr W1 W') →
    J 0 W → CallsIn Fence.wide n Try.prog gf (#[.func (.yield l) #[] #[]] ++ lb) W fun e W' => (∃ v, e = .returned v) ∧ J S.length W'
theorem SeqF.later {n gf lo sw : Nat} {lb : Array Value} {Nd : List Nat} {S : List (Nat → Bool)} {w0 w w2 : World} (h : SeqF n gf lb Nd lo sw S w0 w) (hb : Below w.heap.size w w2) : SeqF n gf lb Nd lo sw S w0 w2 :=
  fun l J Fr W hW => h l J Fr W (hb.trans (hW.mono hb.size))
/-- a range over such an iterator, by a body that never leaves -/
theorem range_f {n : Nat} {g : Operand} {ps : Array Tmp} {assign body : Code} {Q : Exit → Act → World → Prop} {a : Act} {w : World} (h1 : 1 ≤ n) {gf : Nat} {lb : Array Value}
    (hg : a.eval g = .func (.func gf) #[] lb) (eg : ∀ args w, (callFunc gf args).run Try.prog w = .ok (.enter gf args) w) {Nd : List Nat} {lo sw : Nat} {Fr : Nat → World → Prop} {S : List (Nat → Bool)} {w0 : World}
    (hseq : SeqF (n - 1) gf lb Nd lo sw S w0 w) (hnd : ∀ b ∈ Nd, Fr b w) (hlo : lo ≤ w.heap.size)
    (hps : ps.size = 1) (I : Nat → World → Prop) (hG : ∀ i, PrivG w.heap.size (I i) Fr) (h0 : I 0 w) (a₁ : Value → Act)
    (hassign : ∀ (l : Nat) (x : Value) (W : World) (K : Act → World → Prop), K (a₁ x) W → assign.wpIn (Fence.wide.inRound l) (n - 1 - 1) Try.prog (Exit.then K (fun _ _ _ => False)) { tmps := (ps.zip #[x]).foldl (fun t (p, v) => t.setIfInBounds p v) a.tmps, defers := [] } W)
    (hbody : ∀ (l i : Nat) (x : Value) (Ks : List Nat) (W : World) (hi : i < S.length), I i W → SideFn w0 lo sw S[i] x Ks W → (∀ b ∈ Ks, Fr b W) → body.wpIn (Fence.wide.inRound l) (n - 1 - 1) Try.prog (ownPostG w.heap.size (Kx lo Fr) (fun (_ : List Unit) => I (i + 1)) (fun _ _ _ => False) [] W) (a₁ x) W)
    (hdone : ∀ (D : Nat) (W : World), w.heap.size ≤ D → I S.length W → W.heap[D]? = some (.deferred (some [])) → Q .normal { a with defers := { target := .collected D, args := #[] } :: a.defers } W) :
    (Code.rangeFunc g ps assign body).wpIn Fence.wide n Try.prog Q a w := by
  have hI : OwnFrom w.heap.size I := own_of (fun s X Y h hb => (hG s).jgrow X Y h hb) (fun s X b o o' h hB ho hc => (hG s).jput X b o o' h hB ho hc)
  have hput : ∀ (pre : Nat) (V : World) (l : Nat) (o o' : Obj), I pre V → w.heap.size ≤ l → V.heap[l]? = some o → o.isCells = false → Kx lo Fr V (V.putObj l o') := fun pre V l o o' hi hl ho hc =>
    ⟨⟨rfl, rfl, rfl, by simp [World.putObj], fun k hk => World.putObj_heap_other (by omega)⟩, fun b hb => ⟨World.putObj_heap_other (fun e => by subst e; obtain ⟨oc, h1, h2⟩ := (hG pre).cells V _ hi hb; rw [ho] at h1; cases h1; rw [hc] at h2; cases h2), (hG pre).fput V l b o o' hi hb hl ho hc⟩⟩
  refine wpIn_rangeFunc ?_
  intro fn hfn
  rw [show Fence.wide.round = none from rfl]
  let rc : LoopState → Option Code → Loop := fun st pe => { state := st, pending := pe, fn, tmps := a.tmps, params := ps, assign, body, defers := w.heap.size }
  obtain ⟨W1, hW1⟩ : ∃ W1, (w.alloc (.deferred (some []))).alloc (.loop (rc .ready none)) = W1 := ⟨_, rfl⟩
  have hb1 : Below w.heap.size w W1 := by
    rw [← hW1]; exact ((Below.refl _ w).alloc (Nat.le_refl _) _).alloc (by simp) _
  have hl1 : W1.heap[w.heap.size + 1]? = some (.loop (rc .ready none)) := by
    rw [← hW1]; have := World.alloc_heap_new (w.alloc (.deferred (some []))) (.loop (rc .ready none)); rwa [World.size_alloc] at this
  have hk1 : W1.heap[w.heap.size]? = some (.deferred (some [])) := by
    rw [← hW1]; exact (Below.heap_alloc _ _ _ (by simp)).trans (World.alloc_heap_new w _)
  have hi1 : I 0 W1 := by rw [← hW1]; exact hI.alloc _ (hI.alloc _ h0)
  refine ⟨w.heap.size + 1, [{ target := .collected w.heap.size, args := #[] }], W1, { target := .fn (.func gf) lb, args := #[.func (.yield (w.heap.size + 1)) #[] #[]] }, W1, gf,
    #[.func (.yield (w.heap.size + 1)) #[] #[]] ++ lb, W1, ?_, ?_, ?_, ?_, fun _ => h1, ?_⟩
  · rw [← hW1]; exact run_enterLoop_outer _ _ _ _ _
  · simp only [resolve, hg]
    simp [go_sem]
  · intro f' hf'; trivial
  · simp [invoke, go_sem, eg]
  · have hz1 : W1.heap.size = w.heap.size + 2 := by rw [← hW1]; simp
    refine (hseq (w.heap.size + 1) (fun i W => I i W ∧ W.heap[w.heap.size + 1]? = some (.loop (rc .ready none)) ∧ W.heap[w.heap.size]? = some (.deferred (some []))) Fr W1 hb1 (fun b hb => (hG 0).grow w W1 b h0 (hnd b hb) hb1) ?_ ?_ ⟨hi1, hl1, hk1⟩).mono ?_
    · intro pre
      have p := hG pre
      refine ⟨fun W b hj => p.cells W b hj.1, fun W W2 b hj => p.new W W2 b hj.1, fun W W2 b hj => p.grow W W2 b hj.1, fun W W2 hj hb => ⟨p.jgrow W W2 hj.1 hb, ?_, ?_⟩, fun W b o o' hj hb ho hc => ⟨p.jput W b o o' hj.1 (by omega) ho hc, ?_, ?_⟩, fun W b c o o' hj hf hb ho hc => p.fput W b c o o' hj.1 hf (by omega) ho hc⟩
      · rw [hb.block _ (Array.getElem?_eq_some_iff.1 hj.2.1).1]; exact hj.2.1
      · rw [hb.block _ (Array.getElem?_eq_some_iff.1 hj.2.2).1]; exact hj.2.2
      · exact (World.putObj_heap_other (by omega)).trans hj.2.1
      · exact (World.putObj_heap_other (by omega)).trans hj.2.2
    · rintro pre x Ks W hlen ⟨hi, hl, hk⟩ hsf hks
      have hlt : w.heap.size + 1 < W.heap.size := (Array.getElem?_eq_some_iff.1 hl).1
      refine ⟨fn, _, assign, body, run_yield (P := Try.prog) (args := #[x]) hl (by rw [hps]; rfl), roundIn_of_wpIn hfn (hassign _ x W _ ?_)⟩
      refine ⟨_, run_beginRound hl rfl, ?_⟩
      have hl2 := World.putObj_heap_same (w := W) (o := .loop { rc .ready none with state := .busy }) hlt
      have hk2 : (W.putObj (w.heap.size + 1) (.loop { rc .ready none with state := .busy })).heap[w.heap.size]? = some (.deferred (some [])) := (World.putObj_heap_other (by omega)).trans hk
      have hkw := hput pre W (w.heap.size + 1) _ (.loop { rc .ready none with state := .busy }) hi (by omega) hl rfl
      refine wpIn_mono (hbody (w.heap.size + 1) pre x Ks _ hlen (hI.putObj _ hi (by omega) hl rfl) (hsf.later (fun b hb => (hkw.2 b (hks b hb)).1)) (fun b hb => (hkw.2 b (hks b hb)).2)) ?_
      rintro e a3 W3 hp
      cases e with
      | normal =>
        obtain ⟨hk3, hkp3, hi3⟩ := hp
        have hl3 := hk3.same _ _ (by omega) hl2 rfl
        have hk4 := hk3.same _ _ (Nat.le_refl _) hk2 rfl
        exact ⟨_, _, run_endRound (P := Try.prog) none hl3, rfl, ⟨hI.putObj _ hi3 (by omega) hl3 rfl, World.putObj_heap_same (Array.getElem?_eq_some_iff.1 hl3).1, (World.putObj_heap_other (by omega)).trans hk4⟩, Kx.trans (Kx.trans hkw hkp3) (hput _ W3 _ _ _ hi3 (by omega) hl3 rfl)⟩
      | ret => exact hp.2.elim
      | exit id => exact hp.2.elim
      | goto t => exact hp.2.elim
      | panic ch => exact hp.elim
      | outgrown => exact hp.elim
    · rintro e W2 ⟨⟨v, rfl⟩, hi, hl, hk⟩
      exact ⟨none, _, run_endLoop (P := Try.prog) hl (by simp), hdone _ _ (Nat.le_refl _) (hI.putObj _ hi (by omega) hl rfl) ((World.putObj_heap_other (by omega)).trans hk)⟩
end Go.Proofs.Ytbhkenphcahifaa

namespace Go.Proofs.Ytbhkenphcahifaa
open Go.RowKit Go.Shelf
attribute [local go_sem] Oper.semAt_some
set_option maxRecDepth 100000
set_option maxHeartbeats 4000000

theorem sideD_any (a g x : Nat) (h G : Int) (ha : 1 ≤ a) (ha2 : a ≤ 16) (hx : x ≤ 1000) (Bs bg : Nat) {W : World} (q0 : W.heap[Bs]? = some (.cells #[.int .i64 (a : Int), .int .i64 h, .int .i64 G] 113 (0, 0))) (q1 : W.heap[bg]? = some (.cells #[.int .i64 (g : Int)] 3 (0, 0))) :
    Calls Try.prog 161 #[.int .i64 (x : Int), .pointer (some ⟨Bs, 0, none⟩), .pointer (some ⟨bg, 0, none⟩)] W fun e w' => e = .returned (.bool (x / a == g)) ∧ Below W.heap.size W w' := by
  have c0 := cellR 0 q0 rfl
  have d0 := cellR 0 q1 rfl
  obtain ⟨q, hq⟩ : ∃ q, q = x / a := ⟨_, rfl⟩
  have hqx : q ≤ x := by rw [hq]; exact Nat.div_le_self _ _
  have hqi : (x : Int) / (a : Int) = (q : Int) := by rw [hq, Int.natCast_ediv]
  have HE0 : Hid (wrap64 ((x : Int) / (a : Int)) = (q : Int)) := by show _ = _; rw [hqi]; exact wrap_small _ (by omega) (by omega)
  have HE1 : Hid (wrap64 ((x : Int).tdiv (a : Int)) = (q : Int)) := by show _ = _; rw [Int.tdiv_eq_ediv_of_nonneg (by omega)]; exact HE0.out
  have hane : (a : Int) ≠ 0 := by omega
  have HBE : Hid (((q : Int) == (g : Int)) = (q == g)) := by
    show _ = _
    by_cases h9 : q = g
    · rw [h9]; simp
    · have h8 : ((q : Int) == (g : Int)) = false := by simp; omega
      have h7 : (q == g) = false := by simpa using h9
      rw [h8, h7]
  rw [← hq]
  clear q0 q1 hqi hqx hq ha ha2 hx
  have E0 := HE0.out
  have E1 := HE1.out
  go_enter Try.func161, Try.ntmps161
  go_wp2_with fail
  go_quiet (fail)
  have HB := Lib.hid (below_drewN (Below.refl W.heap.size W) nq)
  go_wp2_with fail
  go_ret
  exact ⟨by rw [← HBE.out]; first | rfl | (simp [E0, E1]; done), HB.out⟩
theorem sideK_any {sa : Option Addr} {l : List Int} (hb : ∀ i, i < l.length → 2 ≤ l.getD i 0 ∧ l.getD i 0 ≤ 16) (hp : prodI l ≤ 256) (sc : Nat) (x : Nat) (hx : (x : Int) < prodI l) (i : Nat) (hi : i < l.length) (Bs bd bl : Nat) {W : World} (hI : Ints W sa l) (q0 : W.heap[Bs]? = some (.cells #[.slice sa l.length sc, .int .i64 (prodI l)] 105 (0, 0))) (q1 : W.heap[bd]? = some (.cells #[.int .i64 (i : Int)] 3 (0, 0))) (q2 : W.heap[bl]? = some (.cells #[.int .i64 (l.getD i 0)] 3 (0, 0))) :
    Calls Try.prog 109 #[.int .i64 (x : Int), .pointer (some ⟨Bs, 0, none⟩), .pointer (some ⟨bd, 0, none⟩), .pointer (some ⟨bl, 0, none⟩)] W fun e w' => e = .returned (.bool (decide ((x : Int) / strI l i % l.getD i 0 < l.getD i 0 / 2))) ∧ Below W.heap.size W w' := by
  obtain ⟨d, hd, hnd⟩ := num_of hb (x := (x : Int)) (by omega) hx
  have hdg : (x : Int) / strI l i % l.getD i 0 = d.getD i 0 := by rw [← hnd]; exact num_digit hd hi
  have hco : coordsL l (x : Int) = d := by rw [← hnd]; exact coords_num hd
  have hpos : ∀ s ∈ l, 1 ≤ s ∧ s ≤ 64 := fun s hs => by
    obtain ⟨j, hj, rfl⟩ := List.getElem_of_mem hs
    have := hb j hj
    rw [show l.getD j 0 = l[j] by simp [List.getD, hj]] at this
    omega
  obtain ⟨N, hN⟩ : ∃ N, N = l.length := ⟨_, rfl⟩
  have HN := Lib.hid hN
  have HPX := Lib.hid (fun W' (hw : Below W.heap.size W W') => coords_any (hI.keep hw) hpos sc (prodI l) (x : Int) (by omega) (by omega))
  rw [hco] at HPX
  rw [hdg]
  have HDL : Hid (i < d.length) := by show i < d.length; rw [hd.1]; exact hi
  have hiN : i < N := by rw [hN]; exact hi
  obtain ⟨b1, b2⟩ := hb i hi
  have EQ := Lib.hid (fun W => i64_quo (l.getD i 0) 2 (by omega) (by omega) (by omega) W)
  have HQ0 : Hid (W.heap[Bs]? = some (.cells #[.slice sa N sc, .int .i64 (prodI l)] 105 (0, 0))) := by rw [hN]; exact q0
  have HQ1 := Lib.hid q1
  have HQ2 := Lib.hid q2
  rw [← hN] at HPX
  clear hI q0 q1 q2 hnd hdg hco hpos hd hN hp hx b1 b2 hi hb
  generalize l.getD i 0 = m at *
  generalize prodI l = P at *
  go_enter Try.func109, Try.ntmps109
  go_wp2_with fail
  refine (wpIn_wide (n := 0)).1 ?_
  refine region_det (by kernel_rfl) (I := fun listed a' w' => ∃ gc : Nat, Hid (Below W.heap.size W w') ∧ Hid (listed.getD 2 false = true → RowAt w' gc d) ∧ Hid (listed.getD 4 false = true → listed.getD 2 false = true) ∧ a' = ⟨#[Value.int IntKind.i64 ↑x, Value.pointer (some (Addr.mk Bs 0 none)), Value.pointer (some (Addr.mk bd 0 none)), Value.pointer (some (Addr.mk bl 0 none)), undef, (if listed.getD 9 false = true then Value.bool (decide (d.getD i 0 < m / 2)) else Value.bool false), (if listed.getD 0 false = true then Value.agg #[Value.slice sa N sc, Value.int IntKind.i64 P] else undef), (if listed.getD 1 false = true then Value.int IntKind.i64 ((x : Int)) else undef), (if listed.getD 2 false = true then Value.slice (some ⟨gc, 0, none⟩) N N else undef), (if listed.getD 3 false = true then Value.int IntKind.i64 ((i : Int)) else undef), (if listed.getD 4 false = true then Value.pointer (some ⟨gc, i, none⟩) else undef), (if listed.getD 5 false = true then Value.int IntKind.i64 (d.getD i 0) else undef), (if listed.getD 6 false = true then Value.int IntKind.i64 (m) else undef), (if listed.getD 7 false = true then Value.int IntKind.i64 (m / 2) else undef), (if listed.getD 8 false = true then Value.bool (decide (d.getD i 0 < m / 2)) else undef)], []⟩) (hup_check (by kernel_rfl)) ?h0 ?step ?fin
  case h0 => exact ⟨0, (Below.refl _ _).drew, (fun h => by simp at h), (fun h => by simp at h), rfl⟩
  case step => as_aux_lemma =>
    intro listed a' w' i hs hbi hdep hi ⟨gc, IB, IC, J4, ha⟩
    obtain ⟨ls⟩ := listed
    match ls, hs with
    | [x0, x1, x2, x3, x4, x5, x6, x7, x8, x9], _ =>
    subst ha
    have hi' : i = 0 ∨ i = 1 ∨ i = 2 ∨ i = 3 ∨ i = 4 ∨ i = 5 ∨ i = 6 ∨ i = 7 ∨ i = 8 ∨ i = 9 := by simp at hi; omega
    rcases hi' with rfl | rfl | rfl | rfl | rfl | rfl | rfl | rfl | rfl | rfl
    · obtain rfl : x0 = false := by simpa using hbi
      refine wpOpIn_load_row rfl rfl 105 _ rfl Bs rfl 105 _ _ _ (heapB IB.out HQ0.out) Try.underlying105 rfl info105 ?_
      exact ⟨gc, IB, IC, J4, rfl⟩
    · obtain rfl : x1 = false := by simpa using hbi
      refine wpOpIn_plain rfl rfl rfl ?_
      exact ⟨gc, IB, IC, J4, rfl⟩
    · obtain rfl : x2 = false := by simpa using hbi
      obtain rfl : x0 = true := hdep _ rfl ⟨0, .data⟩ (by simp) rfl
      obtain rfl : x1 = true := hdep _ rfl ⟨1, .data⟩ (by simp) rfl
      obtain rfl : x4 = false := Bool.eq_false_iff.2 fun h => by have := J4.out h; cases this
      refine wpOpIn_call (args := #[Value.agg #[Value.slice sa N sc, Value.int IntKind.i64 P], Value.int IntKind.i64 ((x : Int))]) rfl rfl (sem_call2 rfl rfl rfl (enters_of Try.func96 (by kernel_rfl) rfl)) (HPX.out w' IB.out) ?_
      rintro e V ⟨gb, rfl, hgb, hRb, hb⟩
      exact ⟨_, rfl, gb, (IB.out.trans (hb.mono IB.out.size)), (fun _ => hRb), (fun _ => rfl), rfl⟩
    · obtain rfl : x3 = false := by simpa using hbi
      have c9 := kcell IB.out (cellR 0 HQ1.out rfl)
      refine wpOpIn_plain (v := Value.int IntKind.i64 ((i : Int))) (w' := w') rfl rfl (by simp [Oper.semAt, execOp, go_sem, c9]) ?_
      exact ⟨gc, IB, IC, J4, rfl⟩
    · obtain rfl : x4 = false := by simpa using hbi
      obtain rfl : x2 = true := hdep _ rfl ⟨2, .data⟩ (by simp) rfl
      obtain rfl : x3 = true := hdep _ rfl ⟨3, .data⟩ (by simp) rfl
      refine wpOpIn_plain (v := Value.pointer (some ⟨gc, i, none⟩)) (w' := w') rfl rfl (by simp [Oper.semAt, execOp, go_sem, hiN]) ?_
      exact ⟨gc, IB, IC, (fun _ => rfl), rfl⟩
    · obtain rfl : x5 = false := by simpa using hbi
      obtain rfl : x4 = true := hdep _ rfl ⟨4, .data⟩ (by simp) rfl
      have c8 := (IC.out (J4.out rfl)).cell i HDL.out
      rw [show d[i]'HDL.out = d.getD i 0 by simp [List.getD, HDL.out]] at c8
      refine wpOpIn_plain (v := Value.int IntKind.i64 (d.getD i 0)) (w' := w') rfl rfl (by simp [Oper.semAt, execOp, go_sem, c8]) ?_
      exact ⟨gc, IB, IC, J4, rfl⟩
    · obtain rfl : x6 = false := by simpa using hbi
      have c9 := kcell IB.out (cellR 0 HQ2.out rfl)
      refine wpOpIn_plain (v := Value.int IntKind.i64 (m)) (w' := w') rfl rfl (by simp [Oper.semAt, execOp, go_sem, c9]) ?_
      exact ⟨gc, IB, IC, J4, rfl⟩
    · obtain rfl : x7 = false := by simpa using hbi
      obtain rfl : x6 = true := hdep _ rfl ⟨6, .data⟩ (by simp) rfl
      refine wpOpIn_plain (v := Value.int IntKind.i64 (m / 2)) (w' := w') rfl rfl (sem_bin (vx := Value.int IntKind.i64 (m)) (vy := Value.int IntKind.i64 (2)) rfl rfl rfl rfl (EQ.out w')) ?_
      exact ⟨gc, IB, IC, J4, rfl⟩
    · obtain rfl : x8 = false := by simpa using hbi
      obtain rfl : x5 = true := hdep _ rfl ⟨5, .data⟩ (by simp) rfl
      obtain rfl : x7 = true := hdep _ rfl ⟨7, .data⟩ (by simp) rfl
      refine wpOpIn_plain (v := Value.bool (decide (d.getD i 0 < m / 2))) (w' := w') rfl rfl (by simp [Oper.semAt, execOp, go_sem]) ?_
      exact ⟨gc, IB, IC, J4, rfl⟩
    · obtain rfl : x9 = false := by simpa using hbi
      obtain rfl : x8 = true := hdep _ rfl ⟨8, .data⟩ (by simp) rfl
      refine wpOpIn_plain rfl rfl rfl ?_
      exact ⟨gc, IB, IC, J4, rfl⟩
  case fin =>
  intro listed a' Z hs hall ⟨gc, IB, IC, J4, ha⟩
  obtain ⟨ls⟩ := listed
  match ls, hs with
  | [x0, x1, x2, x3, x4, x5, x6, x7, x8, x9], _ =>
  obtain rfl : x0 = true := hall 0 (by simp)
  obtain rfl : x1 = true := hall 1 (by simp)
  obtain rfl : x2 = true := hall 2 (by simp)
  obtain rfl : x3 = true := hall 3 (by simp)
  obtain rfl : x4 = true := hall 4 (by simp)
  obtain rfl : x5 = true := hall 5 (by simp)
  obtain rfl : x6 = true := hall 6 (by simp)
  obtain rfl : x7 = true := hall 7 (by simp)
  obtain rfl : x8 = true := hall 8 (by simp)
  obtain rfl : x9 = true := hall 9 (by simp)
  subst ha
  have HZ := IB
  clear IB IC J4 hall hs
  dsimp only [Exit.then, Exit.inBlock]
  go_wp2_with fail
  go_ret
  exact ⟨rfl, HZ.out⟩
end Go.Proofs.Ytbhkenphcahifaa

namespace Go.Proofs.Ytbhkenphcahifaa
open Go.RowKit Go.Shelf
attribute [local go_sem] Oper.semAt_some
set_option maxRecDepth 100000
set_option maxHeartbeats 4000000

def stdD (a G : Nat) : List (Nat → Bool) := (List.range G).map fun g => fun x => x / a == g
theorem map_range_at {β : Type} (f : Nat → β) (n i : Nat) {L : List β} (hL : L = (List.range n).map f) (h : i < L.length) : L[i] = f i := by
  subst hL
  simp
theorem stdD_at {a G g : Nat} (h : g < (stdD a G).length) : (stdD a G)[g] = fun x => x / a == g := map_range_at (fun g => fun x => x / a == g) G g rfl h
theorem sidesD (a G sw : Nat) (h : Int) (ha : 1 ≤ a) (ha2 : a ≤ 16) (hG1 : G ≤ 1000) (hsw : sw ≤ 1000) (Bs lo : Nat) {w0 w : World} (q0 : w.heap[Bs]? = some (.cells #[.int .i64 (a : Int), .int .i64 h, .int .i64 (G : Int)] 113 (0, 0))) (n : Nat) :
    SeqF n 160 #[.pointer (some ⟨Bs, 0, none⟩)] [Bs] lo sw (stdD a G) w0 w := by
  intro ll J Fr W hW hnd hG hY h0
  have HC : Hid (CapG Fr [(Bs, .cells #[.int .i64 (a : Int), .int .i64 h, .int .i64 (G : Int)] 113 (0, 0))] W) := by
    intro p hp
    obtain rfl : p = (Bs, .cells #[.int .i64 (a : Int), .int .i64 h, .int .i64 (G : Int)] 113 (0, 0)) := by simpa using hp
    exact ⟨hnd _ (by simp), heapB hW q0⟩
  have hSl : (stdD a G).length = G := by simp [stdD]
  have HSL := Lib.hid hSl
  have HY := Lib.hid hY
  have HG := Lib.hid hG
  have HAA := Lib.hid (And.intro ha (And.intro ha2 (And.intro hG1 hsw)))
  have c2 := cellR 2 HC.out.has.m0 rfl
  clear hY hG hW hnd q0 hSl ha ha2 hsw hG1
  refine callsIn_of_wp Try.func160 rfl trivial ?_ rfl
  simp only [Try.ntmps160, List.size_toArray, List.length_cons, List.length_nil, Nat.reduceAdd, Nat.reduceSub, Array.replicate_succ, Array.replicate_zero, List.push_toArray, List.append_toArray, List.nil_append, List.cons_append]
  gi_wp2
  gi_loopw [6] (fun a' wr => ∃ g : Nat, g ≤ G ∧ a' = .int .i64 (g : Int) ∧ J g wr ∧ Hid (CapG Fr [(Bs, .cells #[.int .i64 (a : Int), .int .i64 h, .int .i64 (G : Int)] 113 (0, 0))] wr)) (fun a' _ => G - (intOf a').toNat)
  case atStart => exact ⟨0, Nat.zero_le _, rfl, h0, HC⟩
  case round =>
    clear c2 HC h0
    obtain ⟨g, hg, rfl, hJ, HC⟩ := hrel
    by_cases hlt : g < G
    · have d1 : decide ((g : Int) < (G : Int)) = true := decide_eq_true (by omega)
      have qb : (wr.alloc (.cells #[.int .i64 (g : Int)] 3)).heap[wr.heap.size]? = some (.cells #[.int .i64 (g : Int)] 3 (0, 0)) := heap_alloc_new wr _
      have hba : Below wr.heap.size wr (wr.alloc (.cells #[.int .i64 (g : Int)] 3)) := (Below.refl _ _).alloc (Nat.le_refl _) _
      have hJ2 := (HG.out g).jgrow _ _ hJ hba
      have HC2 := Lib.hid (HC.out.below (HG.out g) hJ hba)
      have hFb := (HG.out g).new _ _ wr.heap.size hJ hba (Nat.le_refl _) ⟨_, qb, rfl⟩
      have hgl : g < (stdD a G).length := by rw [HSL.out]; exact hlt
      have hsf : SideFn w0 lo sw (stdD a G)[g] (.func (.func 161) #[] #[.pointer (some ⟨Bs, 0, none⟩), .pointer (some ⟨wr.heap.size, 0, none⟩)]) [Bs, wr.heap.size] (wr.alloc (.cells #[.int .i64 (g : Int)] 3)) := by
        refine ⟨161, _, rfl, enters_of Try.func161 (by kernel_rfl) rfl, fun W2 _ hk x hx => ?_⟩
        have h9 := HAA.out
        rw [stdD_at hgl]
        exact sideD_any a g x h (G : Int) h9.1 h9.2.1 (by omega) Bs wr.heap.size ((hk _ (by simp)).trans HC2.out.has.m0) ((hk _ (by simp)).trans qb)
      obtain ⟨fn, tm, as_, bd, hy, hR⟩ := HY.out g _ _ _ hgl hJ2 hsf (fun b hm => by
        simp only [List.mem_cons, List.not_mem_nil, or_false] at hm
        rcases hm with rfl | rfl
        · exact (HC2.out _ (List.mem_singleton.2 rfl)).1
        · exact hFb)
      have HWI := Lib.hid (wrap_small ((g : Int) + 1) (by omega) (by have := HAA.out; omega))
      have HCS : Hid (((g : Int) + 1) = ((g + 1 : Nat) : Int)) := by show _ = _; rw [Int.natCast_add]; rfl
      have HME : Hid (G - (intOf (.int .i64 ((g : Int) + 1))).toNat < G - (intOf (.int .i64 (g : Int))).toNat) := by show _ < _; simp [intOf]; omega
      have HMO : Hid (G - (intOf (.int .i64 (wrap64 ((g : Int) + 1)))).toNat < G - (intOf (.int .i64 (g : Int))).toNat) := by show _ < _; rw [HWI.out]; exact HME.out
      have HK1 : Hid (g + 1 ≤ G) := hlt
      clear hsf hFb qb hba hgl hJ HC
      gi_wp2
      refine ⟨fun h => (by cases h), ?_⟩
      refine hR.mono ?_
      rintro e W2 ⟨rfl, h1, hk⟩
      have HC3 := Lib.hid (HC2.out.kx hk)
      clear hy hR hk HC2 hJ2
      gi_wp2
      go_roundw
      case rel => exact ⟨g + 1, HK1.out, by first | rw [HWI.out, HCS.out] | rw [HCS.out], h1, HC3⟩
      case measure => first | exact HMO.out | exact HME.out
    · have hgG : g = G := by omega
      rw [hgG, ← HSL.out] at hJ
      gi_wp2
      go_end0
      exact ⟨⟨_, rfl⟩, hJ⟩
end Go.Proofs.Ytbhkenphcahifaa

namespace Go.Proofs.Ytbhkenphcahifaa
open Go.RowKit Go.Shelf
attribute [local go_sem] Oper.semAt_some
set_option maxRecDepth 100000
set_option maxHeartbeats 4000000

def stdK (l : List Int) : List (Nat → Bool) := (List.range l.length).map fun i => fun (x : Nat) => decide ((x : Int) / strI l i % l.getD i 0 < l.getD i 0 / 2)
theorem stdK_at {l : List Int} {i : Nat} (h : i < (stdK l).length) : (stdK l)[i] = fun (x : Nat) => decide ((x : Int) / strI l i % l.getD i 0 < l.getD i 0 / 2) := map_range_at (fun i => fun (x : Nat) => decide ((x : Int) / strI l i % l.getD i 0 < l.getD i 0 / 2)) l.length i rfl h
theorem sidesK {sa : Option Addr} {l : List Int} (hb : ∀ i, i < l.length → 2 ≤ l.getD i 0 ∧ l.getD i 0 ≤ 16) (hl4 : l.length ≤ 4) (hp : prodI l ≤ 256) (sc sw : Nat) (hsw : (sw : Int) = prodI l) (Bs : Nat) {w0 w : World} (hI : Ints w0 sa l) (hw0 : Below w0.heap.size w0 w) (q0 : w.heap[Bs]? = some (.cells #[.slice sa l.length sc, .int .i64 (prodI l)] 105 (0, 0))) (n : Nat) :
    SeqF n 108 #[.pointer (some ⟨Bs, 0, none⟩)] [Bs] w0.heap.size sw (stdK l) w0 w := by
  intro ll J Fr W hW hnd hG hY h0
  obtain ⟨N, hN⟩ : ∃ N, N = l.length := ⟨_, rfl⟩
  have HN := Lib.hid hN
  have HC : Hid (CapG Fr [(Bs, .cells #[.slice sa l.length sc, .int .i64 (prodI l)] 105 (0, 0))] W) := by
    intro p hp
    obtain rfl : p = (Bs, .cells #[.slice sa l.length sc, .int .i64 (prodI l)] 105 (0, 0)) := by simpa using hp
    exact ⟨hnd _ (by simp), heapB hW q0⟩
  have HB0 : Hid (Below w0.heap.size w0 W) := hw0.trans (hW.mono hw0.size)
  have hSl : (stdK l).length = l.length := by simp [stdK]
  have HSL := Lib.hid hSl
  have HY := Lib.hid hY
  have HG := Lib.hid hG
  have HII := Lib.hid hI
  have HAA := Lib.hid (And.intro hb (And.intro hl4 (And.intro hp hsw)))
  have HWS : Hid (w0.heap.size ≤ W.heap.size) := HB0.out.size
  rw [← hN] at HC
  have c0 := cellR 0 HC.out.has.m0 rfl
  clear hY hG hW hnd q0 hSl hb hl4 hp hsw hI hN hw0
  refine callsIn_of_wp Try.func108 rfl trivial ?_ rfl
  simp only [Try.ntmps108, List.size_toArray, List.length_cons, List.length_nil, Nat.reduceAdd, Nat.reduceSub, Array.replicate_succ, Array.replicate_zero, List.push_toArray, List.append_toArray, List.nil_append, List.cons_append]
  gi_wp2
  gi_loopw [8] (fun a' wr => ∃ i : Nat, i ≤ N ∧ a' = .int .i64 (i : Int) ∧ J i wr ∧ Hid (CapG Fr [(Bs, .cells #[.slice sa N sc, .int .i64 (prodI l)] 105 (0, 0))] wr ∧ Below w0.heap.size w0 wr)) (fun a' _ => N - (intOf a').toNat)
  case atStart => exact ⟨0, Nat.zero_le _, rfl, h0, HC.out, HB0.out⟩
  case round =>
    clear c0 HC h0 HB0
    obtain ⟨i, hi, rfl, hJ, HC⟩ := hrel
    by_cases hlt : i < N
    · have d1 : decide ((i : Int) < (N : Int)) = true := decide_eq_true (by omega)
      have hil : i < l.length := by rw [← HN.out]; exact hlt
      obtain ⟨gs, os, rfl, hcs⟩ := (HII.out.keep HC.out.2).at_ (ne_nil_of_lt hil)
      have e0 := hcs i hil
      rw [show l[i] = l.getD i 0 by simp [List.getD, hil]] at e0
      clear hcs
      obtain ⟨hbw, qa, qb, hz⟩ := twoN wr (.cells #[.int .i64 (i : Int)] 3) (.cells #[.int .i64 (l.getD i 0)] 3)
      have hJ2 := (HG.out i).jgrow _ _ hJ hbw
      have HC2 : Hid (CapG Fr [(Bs, .cells #[.slice (some ⟨gs, os, none⟩) N sc, .int .i64 (prodI l)] 105 (0, 0))] ((wr.alloc (.cells #[.int .i64 (i : Int)] 3)).alloc (.cells #[.int .i64 (l.getD i 0)] 3)) ∧ Below w0.heap.size w0 ((wr.alloc (.cells #[.int .i64 (i : Int)] 3)).alloc (.cells #[.int .i64 (l.getD i 0)] 3))) := ⟨HC.out.1.below (HG.out i) hJ hbw, HC.out.2.trans (hbw.mono HC.out.2.size)⟩
      have hF1 := (HG.out i).new _ _ wr.heap.size hJ hbw (Nat.le_refl _) ⟨_, qa, rfl⟩
      have hF2 := (HG.out i).new _ _ (wr.heap.size + 1) hJ hbw (by omega) ⟨_, qb, rfl⟩
      have hgl : i < (stdK l).length := by rw [HSL.out]; exact hil
      have hsf : SideFn w0 w0.heap.size sw (stdK l)[i] (.func (.func 109) #[] #[.pointer (some ⟨Bs, 0, none⟩), .pointer (some ⟨wr.heap.size, 0, none⟩), .pointer (some ⟨wr.heap.size + 1, 0, none⟩)]) [Bs, wr.heap.size, wr.heap.size + 1] ((wr.alloc (.cells #[.int .i64 (i : Int)] 3)).alloc (.cells #[.int .i64 (l.getD i 0)] 3)) := by
        refine ⟨109, _, rfl, enters_of Try.func109 (by kernel_rfl) rfl, fun W2 hbl hk x hx => ?_⟩
        have h9 := HAA.out
        rw [stdK_at hgl]
        have k0 := (hk Bs (by simp)).trans HC2.out.1.has.m0
        rw [HN.out] at k0
        exact sideK_any h9.1 h9.2.2.1 sc x (by have := h9.2.2.2; omega) i hil Bs wr.heap.size (wr.heap.size + 1) (HII.out.keep hbl) k0 ((hk _ (by simp)).trans qa) ((hk _ (by simp)).trans qb)
      obtain ⟨fn, tm, as_, bd, hy, hR⟩ := HY.out i _ _ _ hgl hJ2 hsf (fun b hm => by
        simp only [List.mem_cons, List.not_mem_nil, or_false] at hm
        rcases hm with rfl | rfl | rfl
        · exact (HC2.out.1 _ (List.mem_singleton.2 rfl)).1
        · exact hF1
        · exact hF2)
      have HWI := Lib.hid (wrap_small ((i : Int) + 1) (by omega) (by have := HAA.out.2.1; have := HN.out; omega))
      have HCS : Hid (((i : Int) + 1) = ((i + 1 : Nat) : Int)) := by show _ = _; rw [Int.natCast_add]; rfl
      have HME : Hid (N - (intOf (.int .i64 ((i : Int) + 1))).toNat < N - (intOf (.int .i64 (i : Int))).toNat) := by show _ < _; simp [intOf]; omega
      have HMO : Hid (N - (intOf (.int .i64 (wrap64 ((i : Int) + 1)))).toNat < N - (intOf (.int .i64 (i : Int))).toNat) := by show _ < _; rw [HWI.out]; exact HME.out
      have HK1 : Hid (i + 1 ≤ N) := hlt
      clear hsf hF1 hF2 qa qb hz hbw hgl hJ HC hil
      generalize l.getD i 0 = m at *
      gi_wp2
      refine ⟨fun h => (by cases h), ?_⟩
      refine hR.mono ?_
      rintro e W2 ⟨rfl, h1, hk⟩
      have HC3 : Hid (CapG Fr [(Bs, .cells #[.slice (some ⟨gs, os, none⟩) N sc, .int .i64 (prodI l)] 105 (0, 0))] W2 ∧ Below w0.heap.size w0 W2) := ⟨HC2.out.1.kx hk, HC2.out.2.trans hk.1⟩
      clear hy hR hk HC2 hJ2 e0
      gi_wp2
      go_roundw
      case rel => exact ⟨i + 1, HK1.out, by first | rw [HWI.out, HCS.out] | rw [HCS.out], h1, HC3⟩
      case measure => first | exact HMO.out | exact HME.out
    · have hgG : i = l.length := by rw [← HN.out]; omega
      rw [hgG, ← HSL.out] at hJ
      gi_wp2
      go_end0
      exact ⟨⟨_, rfl⟩, hJ⟩
end Go.Proofs.Ytbhkenphcahifaa

namespace Go.Proofs.Ytbhkenphcahifaa
open Go.RowKit Go.Shelf
attribute [local go_sem] Oper.semAt_some
set_option maxRecDepth 100000
set_option maxHeartbeats 4000000

theorem i64_eql (u v : Nat) (w : World) : (binOp .eql 3 (.int .i64 (u : Int)) (.int .i64 (v : Int))).run Try.prog w = .ok (.bool (u == v)) w := by
  have h : ((u : Int) == (v : Int)) = (u == v) := by
    by_cases h9 : u = v
    · rw [h9]; simp
    · have h8 : ((u : Int) == (v : Int)) = false := by simp; omega
      have h7 : (u == v) = false := by simpa using h9
      rw [h8, h7]
  rw [← h]
  simp [go_sem]
theorem sideT_any (k m v x ww : Nat) (lv : Int) (hk : 1 ≤ k) (hk2 : k ≤ 16) (hm : m ≤ 4) (hw1 : 1 ≤ ww) (hx : x ≤ 1000) (Bs bl bv : Nat) {W : World} (q0 : W.heap[Bs]? = some (.cells #[.int .i64 (k : Int), .int .i64 lv, .int .i64 (ww : Int)] 109 (0, 0))) (q1 : W.heap[bl]? = some (.cells #[.int .i64 ((m : Int) + 1)] 3 (0, 0))) (q2 : W.heap[bv]? = some (.cells #[.int .i64 (v : Int)] 3 (0, 0))) :
    Calls Try.prog 148 #[.int .i64 (x : Int), .pointer (some ⟨Bs, 0, none⟩), .pointer (some ⟨bl, 0, none⟩), .pointer (some ⟨bv, 0, none⟩)] W fun e w' => e = .returned (.bool (decide (x / ww < m + 1) && (x % ww / k ^ m == v))) ∧ Below W.heap.size W w' := by
  obtain ⟨q, hq⟩ : ∃ q, q = x / ww := ⟨_, rfl⟩
  obtain ⟨r, hr⟩ : ∃ r, r = x % ww := ⟨_, rfl⟩
  have hqx : q ≤ x := by rw [hq]; exact Nat.div_le_self _ _
  have hrx : r ≤ x := by rw [hr]; exact Nat.mod_le _ _
  have HQ0 := Lib.hid q0
  have HQ1 := Lib.hid q1
  have HQ2 := Lib.hid q2
  have EQ := Lib.hid (fun W => i64_quo (x : Int) (ww : Int) (by omega) (by omega) (by omega) W)
  have ER := Lib.hid (fun W => i64_rem (x : Int) (ww : Int) (by omega) (by omega) W)
  rw [show (x : Int) / (ww : Int) = (q : Int) by rw [hq, Int.natCast_ediv]] at EQ
  rw [show (x : Int) % (ww : Int) = (r : Int) by rw [hr, Int.natCast_emod]] at ER
  have HC := Lib.hid (fun W => without_any k m hk hk2 (by omega) lv (ww : Int) (r : Int) (by omega) (by omega) W)
  rw [show (r : Int) / ((k ^ m : Nat) : Int) = ((r / k ^ m : Nat) : Int) by rw [Int.natCast_ediv]] at HC
  rw [← hq, ← hr]
  generalize r / k ^ m = u at *
  have ES : Hid (∀ W, (binOp .sub 3 (.int .i64 ((m : Int) + 1)) (.int .i64 1)).run Try.prog W = .ok (.int .i64 (m : Int)) W) := fun W => by
    have h8 := i64_sub ((m : Int) + 1) 1 (by omega) (by omega) W
    rwa [show (m : Int) + 1 - 1 = (m : Int) by omega] at h8
  have EE := Lib.hid (fun W => i64_eql u v W)
  by_cases h1 : q < m + 1
  · rw [decide_eq_true h1, Bool.true_and]
    have EL : Hid (∀ W, (binOp .lss 3 (.int .i64 (q : Int)) (.int .i64 ((m : Int) + 1))).run Try.prog W = .ok (.bool true) W) := fun W => by
      have h9 : ((q : Int) < (m : Int) + 1) := by omega
      simp [go_sem, h9]
    clear q0 q1 q2 hq hr hqx hrx hx hw1 hk hk2 hm h1
    generalize (u == v) = bb at *
    go_enter Try.func148, Try.ntmps148
    go_wp2_with fail
    refine (wpIn_wide (n := 0)).1 ?_
    refine region_det (by kernel_rfl) (I := fun listed a' w' => Hid (Below W.heap.size W w') ∧ a' = ⟨#[Value.int IntKind.i64 ((x : Int)), Value.pointer (some ⟨Bs, 0, none⟩), Value.pointer (some ⟨bl, 0, none⟩), Value.pointer (some ⟨bv, 0, none⟩), undef, (if listed.getD 18 false = true then Value.bool bb else Value.bool false), (if listed.getD 0 false = true then Value.int IntKind.i64 ((x : Int)) else undef), (if listed.getD 1 false = true then Value.pointer (some ⟨Bs, 2, none⟩) else undef), (if listed.getD 2 false = true then Value.int IntKind.i64 ((ww : Int)) else undef), (if listed.getD 3 false = true then Value.int IntKind.i64 ((q : Int)) else undef), (if listed.getD 4 false = true then Value.int IntKind.i64 ((m : Int) + 1) else undef), (if listed.getD 5 false = true then Value.bool true else undef), (if listed.getD 6 false = true then Value.bool true else undef), (if listed.getD 7 false = true then Value.agg #[Value.int .i64 (k : Int), Value.int .i64 lv, Value.int .i64 (ww : Int)] else undef), (if listed.getD 8 false = true then Value.int IntKind.i64 ((x : Int)) else undef), (if listed.getD 9 false = true then Value.pointer (some ⟨Bs, 2, none⟩) else undef), (if listed.getD 10 false = true then Value.int IntKind.i64 ((ww : Int)) else undef), (if listed.getD 11 false = true then Value.int IntKind.i64 ((r : Int)) else undef), (if listed.getD 12 false = true then Value.int IntKind.i64 ((m : Int) + 1) else undef), (if listed.getD 13 false = true then Value.int IntKind.i64 ((m : Int)) else undef), (if listed.getD 14 false = true then Value.int IntKind.i64 ((u : Int)) else undef), (if listed.getD 15 false = true then Value.int IntKind.i64 ((v : Int)) else undef), (if listed.getD 16 false = true then Value.bool bb else undef), (if listed.getD 17 false = true then Value.bool bb else undef)], []⟩) (hup_check (by kernel_rfl)) ?h0 ?step ?fin
    case h0 => exact ⟨(Below.refl _ _).drew, rfl⟩
    case step => as_aux_lemma =>
      intro listed a' w' i hs hbi hdep hi ⟨IB, ha⟩
      obtain ⟨ls⟩ := listed
      match ls, hs with
      | [x0, x1, x2, x3, x4, x5, x6, x7, x8, x9, x10, x11, x12, x13, x14, x15, x16, x17, x18], _ =>
      subst ha
      have hi' : i = 0 ∨ i = 1 ∨ i = 2 ∨ i = 3 ∨ i = 4 ∨ i = 5 ∨ i = 6 ∨ i = 7 ∨ i = 8 ∨ i = 9 ∨ i = 10 ∨ i = 11 ∨ i = 12 ∨ i = 13 ∨ i = 14 ∨ i = 15 ∨ i = 16 ∨ i = 17 ∨ i = 18 := by simp at hi; omega
      rcases hi' with rfl | rfl | rfl | rfl | rfl | rfl | rfl | rfl | rfl | rfl | rfl | rfl | rfl | rfl | rfl | rfl | rfl | rfl | rfl
      · obtain rfl : x0 = false := by simpa using hbi
        refine wpOpIn_plain rfl rfl rfl ?_
        exact ⟨IB, rfl⟩
      · obtain rfl : x1 = false := by simpa using hbi
        refine wpOpIn_plain (v := Value.pointer (some ⟨Bs, 2, none⟩)) (w' := w') rfl rfl (by simp [Oper.semAt, execOp, go_sem]) ?_
        exact ⟨IB, rfl⟩
      · obtain rfl : x2 = false := by simpa using hbi
        obtain rfl : x1 = true := hdep _ rfl ⟨1, .data⟩ (by simp) rfl
        have c9 := kcell IB.out (cellR 2 HQ0.out rfl)
        refine wpOpIn_plain (v := Value.int IntKind.i64 ((ww : Int))) (w' := w') rfl rfl (by simp [Oper.semAt, execOp, go_sem, c9]) ?_
        exact ⟨IB, rfl⟩
      · obtain rfl : x3 = false := by simpa using hbi
        obtain rfl : x0 = true := hdep _ rfl ⟨0, .data⟩ (by simp) rfl
        obtain rfl : x2 = true := hdep _ rfl ⟨2, .data⟩ (by simp) rfl
        refine wpOpIn_plain (v := Value.int IntKind.i64 ((q : Int))) (w' := w') rfl rfl (sem_bin (vx := Value.int IntKind.i64 ((x : Int))) (vy := Value.int IntKind.i64 ((ww : Int))) rfl rfl rfl rfl (EQ.out w')) ?_
        exact ⟨IB, rfl⟩
      · obtain rfl : x4 = false := by simpa using hbi
        have c9 := kcell IB.out (cellR 0 HQ1.out rfl)
        refine wpOpIn_plain (v := Value.int IntKind.i64 ((m : Int) + 1)) (w' := w') rfl rfl (by simp [Oper.semAt, execOp, go_sem, c9]) ?_
        exact ⟨IB, rfl⟩
      · obtain rfl : x5 = false := by simpa using hbi
        obtain rfl : x3 = true := hdep _ rfl ⟨3, .data⟩ (by simp) rfl
        obtain rfl : x4 = true := hdep _ rfl ⟨4, .data⟩ (by simp) rfl
        refine wpOpIn_plain (v := Value.bool true) (w' := w') rfl rfl (sem_bin (vx := Value.int IntKind.i64 ((q : Int))) (vy := Value.int IntKind.i64 ((m : Int) + 1)) rfl rfl rfl rfl (EL.out w')) ?_
        exact ⟨IB, rfl⟩
      · obtain rfl : x6 = false := by simpa using hbi
        obtain rfl : x5 = true := hdep _ rfl ⟨5, .data⟩ (by simp) rfl
        refine wpOpIn_plain rfl rfl rfl ?_
        exact ⟨IB, rfl⟩
      · obtain rfl : x7 = false := by simpa using hbi
        obtain rfl : x6 = true := hdep _ rfl ⟨6, .guard⟩ (by simp) rfl
        refine wpOpIn_rowg rfl rfl rfl 109 _ rfl Bs rfl 109 _ _ _ (heapB IB.out HQ0.out) Try.underlying109 rfl info109 ?_
        exact ⟨IB, rfl⟩
      · obtain rfl : x8 = false := by simpa using hbi
        obtain rfl : x6 = true := hdep _ rfl ⟨6, .guard⟩ (by simp) rfl
        refine wpOpIn_guard (v := Value.int IntKind.i64 ((x : Int))) (w' := w') rfl rfl rfl (by simp [Oper.semAt, execOp, go_sem]) ?_
        exact ⟨IB, rfl⟩
      · obtain rfl : x9 = false := by simpa using hbi
        obtain rfl : x6 = true := hdep _ rfl ⟨6, .guard⟩ (by simp) rfl
        refine wpOpIn_guard (v := Value.pointer (some ⟨Bs, 2, none⟩)) (w' := w') rfl rfl rfl (by simp [Oper.semAt, execOp, go_sem]) ?_
        exact ⟨IB, rfl⟩
      · obtain rfl : x10 = false := by simpa using hbi
        obtain rfl : x9 = true := hdep _ rfl ⟨9, .data⟩ (by simp) rfl
        obtain rfl : x6 = true := hdep _ rfl ⟨6, .guard⟩ (by simp) rfl
        have c9 := kcell IB.out (cellR 2 HQ0.out rfl)
        refine wpOpIn_guard (v := Value.int IntKind.i64 ((ww : Int))) (w' := w') rfl rfl rfl (by simp [Oper.semAt, execOp, go_sem, c9]) ?_
        exact ⟨IB, rfl⟩
      · obtain rfl : x11 = false := by simpa using hbi
        obtain rfl : x8 = true := hdep _ rfl ⟨8, .data⟩ (by simp) rfl
        obtain rfl : x10 = true := hdep _ rfl ⟨10, .data⟩ (by simp) rfl
        obtain rfl : x6 = true := hdep _ rfl ⟨6, .guard⟩ (by simp) rfl
        refine wpOpIn_guard (v := Value.int IntKind.i64 ((r : Int))) (w' := w') rfl rfl rfl (sem_bin (vx := Value.int IntKind.i64 ((x : Int))) (vy := Value.int IntKind.i64 ((ww : Int))) rfl rfl rfl rfl (ER.out w')) ?_
        exact ⟨IB, rfl⟩
      · obtain rfl : x12 = false := by simpa using hbi
        obtain rfl : x6 = true := hdep _ rfl ⟨6, .guard⟩ (by simp) rfl
        have c9 := kcell IB.out (cellR 0 HQ1.out rfl)
        refine wpOpIn_guard (v := Value.int IntKind.i64 ((m : Int) + 1)) (w' := w') rfl rfl rfl (by simp [Oper.semAt, execOp, go_sem, c9]) ?_
        exact ⟨IB, rfl⟩
      · obtain rfl : x13 = false := by simpa using hbi
        obtain rfl : x12 = true := hdep _ rfl ⟨12, .data⟩ (by simp) rfl
        obtain rfl : x6 = true := hdep _ rfl ⟨6, .guard⟩ (by simp) rfl
        refine wpOpIn_guard (v := Value.int IntKind.i64 ((m : Int))) (w' := w') rfl rfl rfl (sem_bin (vx := Value.int IntKind.i64 ((m : Int) + 1)) (vy := Value.int IntKind.i64 (1)) rfl rfl rfl rfl (ES.out w')) ?_
        exact ⟨IB, rfl⟩
      · obtain rfl : x14 = false := by simpa using hbi
        obtain rfl : x7 = true := hdep _ rfl ⟨7, .data⟩ (by simp) rfl
        obtain rfl : x11 = true := hdep _ rfl ⟨11, .data⟩ (by simp) rfl
        obtain rfl : x13 = true := hdep _ rfl ⟨13, .data⟩ (by simp) rfl
        obtain rfl : x6 = true := hdep _ rfl ⟨6, .guard⟩ (by simp) rfl
        refine wpOpIn_callg (args := #[Value.agg #[Value.int .i64 (k : Int), Value.int .i64 lv, Value.int .i64 (ww : Int)], Value.int IntKind.i64 ((r : Int)), Value.int IntKind.i64 ((m : Int))]) rfl rfl rfl (sem_call3 rfl rfl rfl rfl (enters_of Try.func145 (by kernel_rfl) rfl)) (HC.out w') ?_
        rintro e V ⟨rfl, hb⟩
        exact ⟨_, rfl, (IB.out.trans (hb.mono IB.out.size)), rfl⟩
      · obtain rfl : x15 = false := by simpa using hbi
        obtain rfl : x6 = true := hdep _ rfl ⟨6, .guard⟩ (by simp) rfl
        have c9 := kcell IB.out (cellR 0 HQ2.out rfl)
        refine wpOpIn_guard (v := Value.int IntKind.i64 ((v : Int))) (w' := w') rfl rfl rfl (by simp [Oper.semAt, execOp, go_sem, c9]) ?_
        exact ⟨IB, rfl⟩
      · obtain rfl : x16 = false := by simpa using hbi
        obtain rfl : x14 = true := hdep _ rfl ⟨14, .data⟩ (by simp) rfl
        obtain rfl : x15 = true := hdep _ rfl ⟨15, .data⟩ (by simp) rfl
        obtain rfl : x6 = true := hdep _ rfl ⟨6, .guard⟩ (by simp) rfl
        refine wpOpIn_guard (v := Value.bool bb) (w' := w') rfl rfl rfl (sem_bin (vx := Value.int IntKind.i64 ((u : Int))) (vy := Value.int IntKind.i64 ((v : Int))) rfl rfl rfl rfl (EE.out w')) ?_
        exact ⟨IB, rfl⟩
      · obtain rfl : x17 = false := by simpa using hbi
        obtain rfl : x6 = true := hdep _ rfl ⟨6, .data⟩ (by simp) rfl
        obtain rfl : x16 = true := hdep _ rfl ⟨16, .data⟩ (by simp) rfl
        refine wpOpIn_plain (v := Value.bool bb) (w' := w') rfl rfl (by simp [Oper.semAt, execOp, go_sem]) ?_
        exact ⟨IB, rfl⟩
      · obtain rfl : x18 = false := by simpa using hbi
        obtain rfl : x17 = true := hdep _ rfl ⟨17, .data⟩ (by simp) rfl
        refine wpOpIn_plain rfl rfl rfl ?_
        exact ⟨IB, rfl⟩
    case fin =>
    intro listed a' Z hs hall ⟨IB, ha⟩
    obtain ⟨ls⟩ := listed
    match ls, hs with
    | [x0, x1, x2, x3, x4, x5, x6, x7, x8, x9, x10, x11, x12, x13, x14, x15, x16, x17, x18], _ =>
    obtain rfl : x0 = true := hall 0 (by simp)
    obtain rfl : x1 = true := hall 1 (by simp)
    obtain rfl : x2 = true := hall 2 (by simp)
    obtain rfl : x3 = true := hall 3 (by simp)
    obtain rfl : x4 = true := hall 4 (by simp)
    obtain rfl : x5 = true := hall 5 (by simp)
    obtain rfl : x6 = true := hall 6 (by simp)
    obtain rfl : x7 = true := hall 7 (by simp)
    obtain rfl : x8 = true := hall 8 (by simp)
    obtain rfl : x9 = true := hall 9 (by simp)
    obtain rfl : x10 = true := hall 10 (by simp)
    obtain rfl : x11 = true := hall 11 (by simp)
    obtain rfl : x12 = true := hall 12 (by simp)
    obtain rfl : x13 = true := hall 13 (by simp)
    obtain rfl : x14 = true := hall 14 (by simp)
    obtain rfl : x15 = true := hall 15 (by simp)
    obtain rfl : x16 = true := hall 16 (by simp)
    obtain rfl : x17 = true := hall 17 (by simp)
    obtain rfl : x18 = true := hall 18 (by simp)
    subst ha
    have HZ := IB
    clear IB hall hs
    dsimp only [Exit.then, Exit.inBlock]
    go_wp2_with fail
    go_ret
    exact ⟨rfl, HZ.out⟩
  · rw [decide_eq_false h1, Bool.false_and]
    have c0 := cellR 0 q0 rfl
    have c2 := cellR 2 q0 rfl
    have d0 := cellR 0 q1 rfl
    have h9 : decide ((q : Int) < (m : Int) + 1) = false := decide_eq_false (by omega)
    have HE0 : Hid (wrap64 ((x : Int) / (ww : Int)) = (q : Int)) := by show _ = _; rw [show (x : Int) / (ww : Int) = (q : Int) by rw [hq, Int.natCast_ediv]]; exact wrap_small _ (by omega) (by omega)
    have HE1 : Hid (wrap64 ((x : Int).tdiv (ww : Int)) = (q : Int)) := by show _ = _; rw [Int.tdiv_eq_ediv_of_nonneg (by omega)]; exact HE0.out
    have hane : (ww : Int) ≠ 0 := by omega
    clear q0 q1 q2 hq hr hqx hrx hx hw1 hk hk2 hm h1 HQ0 HQ1 HQ2 EQ ER ES EE HC
    have E0 := HE0.out
    have E1 := HE1.out
    go_enter Try.func148, Try.ntmps148
    go_wp2_with fail
    go_quiet (fail)
    have HB := Lib.hid (below_drewN (Below.refl W.heap.size W) nq)
    go_wp2_with fail
    go_ret
    exact ⟨rfl, HB.out⟩
end Go.Proofs.Ytbhkenphcahifaa

namespace Go.Proofs.Ytbhkenphcahifaa
open Go.RowKit Go.Shelf
attribute [local go_sem] Oper.semAt_some
set_option maxRecDepth 100000
set_option maxHeartbeats 4000000

theorem exp1_any {w : World} {sa : Option Addr} {l : List Int} (h : Ints w sa l) (sc : Nat) (hosts : Int) (n i : Nat) (hn : n ≤ 1000) (hi : i < l.length) (hm : 2 ≤ l.getD i 0) (hm2 : l.getD i 0 ≤ 16) :
    Calls Try.prog 36 #[.agg #[.int .i64 1, .slice sa l.length sc, .int .i64 hosts], .int .i64 (n : Int), .int .i64 (i : Int)] w fun e w' => e = .returned (.int .i64 (if l.getD i 0 = 2 then (n : Int) / 2 else 2 * (n : Int) / l.getD i 0)) ∧ Below w.heap.size w w' := by
  obtain ⟨g, o, rfl, hc⟩ := (h.keep ((Below.refl w.heap.size w).alloc (Nat.le_refl _) (.cells #[.int .i64 1, .slice sa l.length sc, .int .i64 hosts] 24))).at_ (ne_nil_of_lt hi)
  have e0 := hc i hi
  rw [show l[i] = l.getD i 0 by simp [List.getD, hi]] at e0
  have HB := Lib.hid ((Below.refl w.heap.size w).alloc (Nat.le_refl _) (.cells #[.int .i64 1, .slice (some ⟨g, o, none⟩) l.length sc, .int .i64 hosts] 24))
  have q0 := heap_alloc_new w (.cells #[.int .i64 1, .slice (some ⟨g, o, none⟩) l.length sc, .int .i64 hosts] 24)
  have c0 := cellR 0 q0 rfl
  have c1 := cellR 1 q0 rfl
  clear h hc
  generalize l.getD i 0 = m at *
  generalize l.length = N at *
  have E1 := Lib.hid (wrap_small ((n : Int) / 2) (by omega) (by omega))
  have E2 := Lib.hid (wrap_small (2 * (n : Int)) (by omega) (by omega))
  have hq0 : 0 ≤ 2 * (n : Int) / m := Int.ediv_nonneg (by omega) (by omega)
  have hq1 : 2 * (n : Int) / m ≤ 2 * (n : Int) := Int.ediv_le_self _ (by omega)
  have E3 := Lib.hid (wrap_small (2 * (n : Int) / m) (by omega) (by omega))
  have T1 : Hid ((n : Int).tdiv 2 = (n : Int) / 2) := Int.tdiv_eq_ediv_of_nonneg (by omega)
  have T2 : Hid ((2 * (n : Int)).tdiv m = 2 * (n : Int) / m) := Int.tdiv_eq_ediv_of_nonneg (by omega)
  have hm0 : m ≠ 0 := by omega
  have d1 : decide ((i : Int) < (N : Int)) = true := decide_eq_true (by omega)
  clear q0 hq0 hq1 hm hm2
  by_cases h2 : m = 2
  · subst h2
    rw [if_pos rfl]
    have hb : ((2 : Int) == 2) = true := rfl
    have w1 : wrap64 ((n : Int).tdiv 2) = (n : Int) / 2 := by rw [T1.out, E1.out]
    have HW1 := Lib.hid w1
    clear w1 T1 T2 E1 E2 E3
    have w1 := HW1.out
    go_enter Try.func36, Try.ntmps36
    go_wp2_with fail
    go_ret
    exact ⟨rfl, HB.out⟩
  · rw [if_neg h2]
    have hb : (m == 2) = false := by simpa using h2
    have HW1 : Hid (wrap64 ((2 * (n : Int)).tdiv m) = 2 * (n : Int) / m) := by show _ = _; rw [T2.out, E3.out]
    have w2 := E2.out
    have w1 := HW1.out
    clear T1 T2 E1 E3 h2
    go_enter Try.func36, Try.ntmps36
    go_wp2_with fail
    go_ret
    exact ⟨by show Ending.returned (.int .i64 (wrap64 ((2 * (n : Int)).tdiv m))) = _; rw [w1], HB.out⟩
theorem exp3_any {w : World} {sa : Option Addr} {l : List Int} (h : Ints w sa l) (sc : Nat) (hosts : Int) (n i : Int) (hl : l.length = 2) (ha : 1 ≤ l.getD 0 0 ∧ l.getD 0 0 ≤ 16) (hh : 1 ≤ l.getD 1 0 ∧ l.getD 1 0 ≤ 4) :
    Calls Try.prog 36 #[.agg #[.int .i64 3, .slice sa l.length sc, .int .i64 hosts], .int .i64 n, .int .i64 i] w fun e w' => e = .returned (.int .i64 (l.getD 0 0 * l.getD 1 0)) ∧ Below w.heap.size w w' := by
  obtain ⟨g, o, rfl, hc⟩ := (h.keep ((Below.refl w.heap.size w).alloc (Nat.le_refl _) (.cells #[.int .i64 3, .slice sa l.length sc, .int .i64 hosts] 24))).at_ (ne_nil_of_lt (k := 0) (by omega))
  have e0 := hc 0 (by omega)
  have e1 := hc 1 (by omega)
  rw [show l[0] = l.getD 0 0 by simp [List.getD, hl], Nat.add_zero] at e0
  rw [show l[1] = l.getD 1 0 by simp [List.getD, hl]] at e1
  rw [hl] at *
  have HB := Lib.hid ((Below.refl w.heap.size w).alloc (Nat.le_refl _) (.cells #[.int .i64 3, .slice (some ⟨g, o, none⟩) 2 sc, .int .i64 hosts] 24))
  have q0 := heap_alloc_new w (.cells #[.int .i64 3, .slice (some ⟨g, o, none⟩) 2 sc, .int .i64 hosts] 24)
  have c0 := cellR 0 q0 rfl
  have c1 := cellR 1 q0 rfl
  generalize l.getD 0 0 = a at *
  generalize l.getD 1 0 = b at *
  have hab : 1 * 1 ≤ a * b ∧ a * b ≤ 16 * 4 := ⟨Int.mul_le_mul ha.1 hh.1 (by omega) (by omega), Int.mul_le_mul ha.2 hh.2 (by omega) (by omega)⟩
  have E1 : wrap64 (a * b) = a * b := wrap_small _ (by omega) (by omega)
  clear h hc q0 hab ha hh
  go_enter Try.func36, Try.ntmps36
  go_wp2_with fail
  go_quiet (fail)
  have HB2 := Lib.hid (below_drewN HB.out nq)
  clear HB
  generalize (w.alloc (.cells #[.int .i64 3, .slice (some ⟨g, o, none⟩) 2 sc, .int .i64 hosts] 24)).drewN nq = Z at *
  go_wp2_with fail
  go_ret
  exact ⟨by first | (show Ending.returned (.int .i64 (a * b)) = _; rfl) | (show Ending.returned (.int .i64 (wrap64 (a * b))) = _; rw [E1]), HB2.out⟩
/-- where the standard sides of a level of a tree begin -/
def fst2 (k : Nat) : Nat → Nat
  | 0 => 0
  | j + 1 => fst2 k j + k ^ (j + 1)
theorem fst2_mono (k : Nat) {a b : Nat} (h : a ≤ b) : fst2 k a ≤ fst2 k b := by
  induction b with
  | zero => obtain rfl : a = 0 := by omega
            exact Nat.le_refl _
  | succ b ih =>
    by_cases hab : a = b + 1
    · subst hab; exact Nat.le_refl _
    · exact Nat.le_trans (ih (by omega)) (by rw [fst2]; omega)
theorem fst2_le {k n : Nat} (h : ∀ a, a ≤ n → k ^ a ≤ 256) : ∀ j, j ≤ n → fst2 k j ≤ j * 256 := by
  intro j
  induction j with
  | zero => intro _; exact Nat.zero_le _
  | succ j ih =>
    intro hj
    have h1 := ih (by omega)
    have h2 := h (j + 1) hj
    show fst2 k j + k ^ (j + 1) ≤ _
    omega
theorem exp2_any {w : World} {sa : Option Addr} {l : List Int} (h : Ints w sa l) (sc : Nat) (hosts n : Int) (k lv j v : Nat) (hl : l.length = 2) (hk : l.getD 0 0 = (k : Int)) (hlv : l.getD 1 0 = (lv : Int)) (hk1 : 2 ≤ k) (hk2 : k ≤ 8) (hlv2 : lv ≤ 4) (hj : j + 1 < lv) (hv : v < k ^ (j + 1)) (hkk : ∀ a, a ≤ lv → k ^ a ≤ 256) :
    Calls Try.prog 36 #[.agg #[.int .i64 2, .slice sa l.length sc, .int .i64 hosts], .int .i64 n, .int .i64 ((fst2 k j + v : Nat) : Int)] w fun e w' => e = .returned (.int .i64 ((k ^ (lv - 1 - j) : Nat) : Int)) ∧ Below w.heap.size w w' := by
  obtain ⟨g, o, rfl, hc⟩ := (h.keep ((Below.refl w.heap.size w).alloc (Nat.le_refl _) (.cells #[.int .i64 2, .slice sa l.length sc, .int .i64 hosts] 24))).at_ (ne_nil_of_lt (k := 0) (by omega))
  have e0 := hc 0 (by omega)
  have e1 := hc 1 (by omega)
  rw [show l[0] = l.getD 0 0 by simp [List.getD, hl], hk, Nat.add_zero] at e0
  rw [show l[1] = l.getD 1 0 by simp [List.getD, hl], hlv] at e1
  rw [hl] at *
  have HB := Lib.hid ((Below.refl w.heap.size w).alloc (Nat.le_refl _) (.cells #[.int .i64 2, .slice (some ⟨g, o, none⟩) 2 sc, .int .i64 hosts] 24))
  have q0 := heap_alloc_new w (.cells #[.int .i64 2, .slice (some ⟨g, o, none⟩) 2 sc, .int .i64 hosts] 24)
  have c0 := cellR 0 q0 rfl
  have c1 := cellR 1 q0 rfl
  have HL : Hid (1 ≤ lv) := by show 1 ≤ lv; omega
  have e2 : wrap64 ((lv : Int) - 1) = (lv : Int) - 1 := wrap_small _ (by omega) (by omega)
  have HKK := Lib.hid hkk
  obtain ⟨i, hi⟩ : ∃ i, i = fst2 k j + v := ⟨_, rfl⟩
  rw [← hi]
  have HI := Lib.hid hi
  have HV := Lib.hid hv
  clear h hc q0 hk hlv hi hv hkk
  go_enter Try.func36, Try.ntmps36
  go_wp2_with fail
  go_quiet (fail)
  have HB2 := Lib.hid (below_drewN HB.out nq)
  have BX := below_drewN (Below.refl (w.alloc (.cells #[.int .i64 2, .slice (some ⟨g, o, none⟩) 2 sc, .int .i64 hosts] 24)).heap.size (w.alloc (.cells #[.int .i64 2, .slice (some ⟨g, o, none⟩) 2 sc, .int .i64 hosts] 24))) nq
  have c1' := kcell BX c1
  have e0' := kcell BX e0
  clear HB BX c0 c1 e0 e1
  generalize (w.alloc (.cells #[.int .i64 2, .slice (some ⟨g, o, none⟩) 2 sc, .int .i64 hosts] 24)).drewN nq = Z at *
  go_wp2_with fail
  go_loop [8, 9, 10] (fun a b c => ∃ m : Nat, m ≤ j ∧ a = .int .i64 ((lv : Int) - 1 - m) ∧ b = .int .i64 ((k ^ (m + 1) : Nat) : Int) ∧ c = .int .i64 ((fst2 k m : Nat) : Int)) (fun a _ _ => (intOf a).toNat)
  case atStart => exact ⟨0, Nat.zero_le _, by rw [Int.natCast_zero, Int.sub_zero], by rw [Nat.zero_add, Nat.pow_one], rfl⟩
  case round =>
    obtain ⟨m, hm, rfl, rfl, rfl⟩ := hrel
    have HF : Hid (fst2 k (m + 1) = fst2 k m + k ^ (m + 1)) := rfl
    have HP : Hid (k ^ (m + 1 + 1) = k ^ (m + 1) * k) := Nat.pow_succ ..
    have b1 := fst2_le HKK.out m (by omega)
    have b2 := HKK.out (m + 1) (by omega)
    have b3 := HKK.out (m + 1 + 1) (by omega)
    by_cases hlt : m < j
    · have HD : Hid (fst2 k (m + 1) ≤ i) := by have := fst2_mono k (show m + 1 ≤ j by omega); show _ ≤ i; rw [HI.out]; omega
      generalize hG2 : fst2 k (m + 1) = F2 at *
      generalize hK2 : k ^ (m + 1 + 1) = P2 at *
      have HG2 := Lib.hid hG2
      have HK2 := Lib.hid hK2
      clear hG2 hK2
      generalize fst2 k m = F at *
      generalize k ^ (m + 1) = P at *
      have hF2 := HF.out
      have hP2 := HP.out
      have hD := HD.out
      have W1 : Hid (wrap64 ((F : Int) + (P : Int)) = (F2 : Int)) := by
        have hsi : ((F : Int) + (P : Int)) = (F2 : Int) := by omega
        show _ = _
        rw [hsi]; exact wrap_small _ (by omega) (by omega)
      have W2 : Hid (wrap64 ((P : Int) * (k : Int)) = (P2 : Int)) := by
        have hmi : (P : Int) * (k : Int) = (P2 : Int) := by rw [hP2, Int.natCast_mul]
        show _ = _
        rw [hmi]; exact wrap_small _ (by omega) (by omega)
      have W3 := Lib.hid (wrap_small ((lv : Int) - 1 - m - 1) (by omega) (by omega))
      have d1 : decide ((F2 : Int) ≤ (i : Int)) = true := decide_eq_true (by omega)
      have d2 : decide (F2 ≤ i) = true := decide_eq_true (by omega)
      have HLT := Lib.hid hlt
      have HE : Hid ((lv : Int) - 1 - m - 1 = (lv : Int) - 1 - ((m + 1 : Nat) : Int)) := by show _ = _; rw [Int.natCast_add]; omega
      have HME : Hid ((intOf (.int .i64 ((lv : Int) - 1 - m - 1))).toNat < (intOf (.int .i64 ((lv : Int) - 1 - m))).toNat) := by show _ < _; simp [intOf]; omega
      have w1 := W1.out
      clear hF2 hP2 hD b1 b2 b3 hm hlt HKK HI HV HL
      go_wp2_with fail
      go_round
      case rel => exact ⟨m + 1, HLT.out, by first | rw [W3.out, HE.out] | rw [HE.out], by rw [HK2.out]; first | rw [W2.out] | rfl, by rw [HG2.out]; first | rw [W1.out] | rfl⟩
      case measure => first | (rw [W3.out]; exact HME.out) | exact HME.out
    · obtain rfl : m = j := by omega
      have HD : Hid (i < fst2 k m + k ^ (m + 1)) := by have := HV.out; show i < _; rw [HI.out]; omega
      have HPS : Hid (∀ d, d ≤ lv - 1 - m → k ^ d ≤ 256) := fun d hd => HKK.out d (by omega)
      generalize fst2 k m = F at *
      generalize k ^ (m + 1) = P at *
      have W1 := Lib.hid (wrap_small ((F : Int) + (P : Int)) (by omega) (by omega))
      have hD := HD.out
      have d1 : decide ((F : Int) + (P : Int) ≤ (i : Int)) = false := decide_eq_false (by omega)
      have d2 : decide (F + P ≤ i) = false := decide_eq_false (by omega)
      have HT : Hid (((lv : Int) - 1 - m) = ((lv - 1 - m : Nat) : Int)) := by show _ = _; omega
      have HT5 : Hid (lv - 1 - m ≤ 5) := by show _ ≤ 5; omega
      have w1 := W1.out
      rw [HT.out]
      clear b1 b2 b3 HF HP HD hm hlt HKK HI HV HL hD hlv2 hj e2
      generalize hTE : lv - 1 - m = T at *
      have HTE := Lib.hid hTE
      clear HT hTE
      go_wp2_with fail
      go_loop [11, 12] (fun a b => ∃ d : Nat, d ≤ T ∧ b = .int .i64 (d : Int) ∧ a = .int .i64 ((k ^ d : Nat) : Int)) (fun _ b => T - (intOf b).toNat)
      case atStart => exact ⟨0, Nat.zero_le _, rfl, by rw [Nat.pow_zero]; rfl⟩
      case round =>
        obtain ⟨d, hd, rfl, rfl⟩ := hrel
        by_cases hlt : d < T
        · have b1 := HPS.out d hd
          have b2 := HPS.out (d + 1) hlt
          have h2 : k ^ (d + 1) = k ^ d * k := Nat.pow_succ ..
          generalize hP3 : k ^ (d + 1) = P3 at *
          generalize k ^ d = Q at *
          have HP3 := Lib.hid hP3
          have W2 : Hid (wrap64 ((Q : Int) * (k : Int)) = (P3 : Int)) := by
            have hmi : (Q : Int) * (k : Int) = (P3 : Int) := by rw [h2, Int.natCast_mul]
            show _ = _
            rw [hmi]; exact wrap_small _ (by omega) (by omega)
          have W3 := Lib.hid (wrap_small ((d : Int) + 1) (by have := HT5.out; omega) (by have := HT5.out; omega))
          have HCS : Hid (((d : Int) + 1) = ((d + 1 : Nat) : Int)) := by show _ = _; rw [Int.natCast_add]; rfl
          have d3 : decide ((d : Int) < (T : Int)) = true := decide_eq_true (by omega)
          have HME : Hid (T - (intOf (.int .i64 ((d : Int) + 1))).toNat < T - (intOf (.int .i64 (d : Int))).toNat) := by show _ < _; simp [intOf]; omega
          have HLT := Lib.hid hlt
          clear hP3 b1 b2 h2 hlt hd w1 d1 d2
          go_wp2_with fail
          go_round
          case rel => exact ⟨d + 1, HLT.out, by first | rw [W3.out, HCS.out] | rw [HCS.out], by rw [HP3.out]; first | rw [W2.out] | rfl⟩
          case measure => first | (rw [W3.out]; exact HME.out) | exact HME.out
        · obtain rfl : d = T := by omega
          clear w1 d1 d2
          go_wp2_with fail
          go_ret
          refine ⟨?_, HB2.out⟩
          rw [HTE.out]
          first | rfl | (show Ending.returned (.int .i64 ((k : Int) ^ d)) = _; rfl) | (show Ending.returned (.int .i64 ((k : Int) ^ d)) = _; rw [Int.natCast_pow])
end Go.Proofs.Ytbhkenphcahifaa

namespace Go.Proofs.Ytbhkenphcahifaa
open Go.RowKit Go.Shelf
attribute [local go_sem] Oper.semAt_some
set_option maxRecDepth 100000
set_option maxHeartbeats 4000000

/-- the standard sides of a tree, level by level from above -/
def lvlT (k lv j v : Nat) : Nat → Bool := fun x => decide (x / k ^ (lv - 1) < lv - 1 - j) && (x % k ^ (lv - 1) / k ^ (lv - 1 - j - 1) == v)
def stdTn (k lv : Nat) : Nat → List (Nat → Bool)
  | 0 => []
  | j + 1 => stdTn k lv j ++ (List.range (k ^ (j + 1))).map fun v => lvlT k lv j v
def stdT (k lv : Nat) : List (Nat → Bool) := stdTn k lv (lv - 1)
theorem stdTn_len (k lv : Nat) : ∀ j, (stdTn k lv j).length = fst2 k j
  | 0 => rfl
  | j + 1 => by rw [stdTn, List.length_append, stdTn_len k lv j, List.length_map, List.length_range]; rfl
theorem stdTn_at (k lv : Nat) {j v : Nat} (hv : v < k ^ (j + 1)) : ∀ n, j < n → ∀ (h : fst2 k j + v < (stdTn k lv n).length), (stdTn k lv n)[fst2 k j + v] = lvlT k lv j v := by
  intro n
  induction n with
  | zero => intro h; omega
  | succ n ih =>
    intro hj h
    by_cases hjn : j = n
    · subst hjn
      have e : stdTn k lv (j + 1) = stdTn k lv j ++ (List.range (k ^ (j + 1))).map fun v => lvlT k lv j v := rfl
      have hl := stdTn_len k lv j
      simp only [e]
      rw [List.getElem_append_right (by omega)]
      simp [hl]
    · have e : stdTn k lv (n + 1) = stdTn k lv n ++ (List.range (k ^ (n + 1))).map fun v => lvlT k lv n v := rfl
      have hl := stdTn_len k lv n
      have hm := fst2_mono k (show j + 1 ≤ n by omega)
      have hm2 : fst2 k (j + 1) = fst2 k j + k ^ (j + 1) := rfl
      simp only [e]
      rw [List.getElem_append_left (by omega)]
      exact ih (by omega) _
/-- the number in the box that a value points to -/
def boxN (a : Value) (w : World) : Nat := match a with
  | .pointer (some p) => (match w.heap[p.block]? with | some (.cells cs _ _) => (intOf (cs.getD 0 undef)).toNat | _ => 0)
  | _ => 0
theorem boxN_of {b n : Nat} {w : World} (h : w.heap[b]? = some (.cells #[.int .i64 (n : Int)] 3 (0, 0))) : boxN (.pointer (some ⟨b, 0, none⟩)) w = n := by
  simp [boxN, h, intOf]
theorem sidesT (k L : Nat) (hk : 2 ≤ k) (hk2 : k ≤ 8) (hL : L ≤ 3) (hkk : ∀ a, a ≤ L → k ^ a ≤ 256) (lo sw : Nat) (hsw : sw ≤ 1000) (Bs : Nat) {w0 w : World} (q0 : w.heap[Bs]? = some (.cells #[.int .i64 (k : Int), .int .i64 ((L : Int) + 1), .int .i64 ((k ^ L : Nat) : Int)] 109 (0, 0))) (n : Nat) :
    SeqF n 147 #[.pointer (some ⟨Bs, 0, none⟩)] [Bs] lo sw (stdT k (L + 1)) w0 w := by
  intro ll J Fr W hW hnd hG hY h0
  have HPW := Lib.hid (show 1 ≤ k ^ L from pow_pos' (by omega))
  generalize hWW : k ^ L = ww at *
  have HWW := Lib.hid hWW
  have HC : Hid (CapG Fr [(Bs, .cells #[.int .i64 (k : Int), .int .i64 ((L : Int) + 1), .int .i64 (ww : Int)] 109 (0, 0))] W) := by
    intro p hp
    obtain rfl : p = (Bs, .cells #[.int .i64 (k : Int), .int .i64 ((L : Int) + 1), .int .i64 (ww : Int)] 109 (0, 0)) := by simpa using hp
    exact ⟨hnd _ (by simp), heapB hW q0⟩
  have hSl : (stdT k (L + 1)).length = fst2 k L := stdTn_len k (L + 1) L
  have HSL := Lib.hid hSl
  have HY := Lib.hid hY
  have HG := Lib.hid hG
  have HAA := Lib.hid (And.intro hk (And.intro hk2 (And.intro hL (And.intro hkk hsw))))
  have c1 := cellR 1 HC.out.has.m0 rfl
  have e1 : wrap64 (L : Int) = (L : Int) := wrap_small _ (by omega) (by omega)
  have e2 : (L : Int) + 1 - 1 = (L : Int) := by omega
  have E1 := Lib.hid e1
  clear hY hG hW hnd q0 hSl hkk hsw hWW hk hk2 hL
  refine callsIn_of_wp Try.func147 rfl trivial ?_ rfl
  simp only [Try.ntmps147, List.size_toArray, List.length_cons, List.length_nil, Nat.reduceAdd, Nat.reduceSub, Array.replicate_succ, Array.replicate_zero, List.push_toArray, List.append_toArray, List.nil_append, List.cons_append]
  have qb : (W.alloc (.cells #[.int .i64 (L : Int)] 3)).heap[W.heap.size]? = some (.cells #[.int .i64 (L : Int)] 3 (0, 0)) := heap_alloc_new W _
  have hba : Below W.heap.size W (W.alloc (.cells #[.int .i64 (L : Int)] 3)) := (Below.refl _ _).alloc (Nat.le_refl _) _
  have HC2 : Hid (CapG Fr [(Bs, .cells #[.int .i64 (k : Int), .int .i64 ((L : Int) + 1), .int .i64 (ww : Int)] 109 (0, 0)), (W.heap.size, .cells #[.int .i64 (L : Int)] 3 (0, 0))] (W.alloc (.cells #[.int .i64 (L : Int)] 3))) := by
    intro p hp
    rcases List.mem_cons.1 hp with rfl | hp
    · exact HC.out.below (HG.out 0) h0 hba _ (by simp)
    · obtain rfl := List.mem_singleton.1 hp
      exact ⟨(HG.out 0).new _ _ W.heap.size h0 hba (Nat.le_refl _) ⟨_, qb, rfl⟩, qb⟩
  replace h0 := (HG.out 0).jgrow _ _ h0 hba
  have HQB := Lib.hid qb
  clear qb hba HC
  gi_wp2
  gi_loopw [3] (fun a' wr => ∃ (j level b : Nat), j + level = L ∧ a' = .pointer (some ⟨b, 0, none⟩) ∧ J (fst2 k j) wr ∧ Hid (CapG Fr [(Bs, .cells #[.int .i64 (k : Int), .int .i64 ((L : Int) + 1), .int .i64 (ww : Int)] 109 (0, 0)), (b, .cells #[.int .i64 (level : Int)] 3 (0, 0))] wr)) (fun a' wr => boxN a' wr)
  case atStart => exact ⟨0, L, W.heap.size, Nat.zero_add _, rfl, h0, HC2.out⟩
  case round =>
    clear c1 HC2 h0 HQB
    obtain ⟨j, level, b, hjl, rfl, hJ, HC⟩ := hrel
    have cb := cellR 0 HC.out.has.m1 rfl
    have HBX := Lib.hid (boxN_of HC.out.has.m1)
    by_cases hlt : 0 < level
    · have d1 : decide (0 < (level : Int)) = true := decide_eq_true (by omega)
      have d2 : decide ((level : Int) > 0) = true := d1
      have c0 := cellR 0 HC.out.has.m0 rfl
      have c1 := cellR 1 HC.out.has.m0 rfl
      have hsb : (L : Int) + 1 - (level : Int) = ((j + 1 : Nat) : Int) := by omega
      have HAB := Lib.hid hjl
      have E3 := Lib.hid (wrap_small ((L : Int) + 1 - (level : Int)) (by have := HAA.out; omega) (by have := HAA.out; omega))
      have HPW2 := Lib.hid (fun W => power_any k (j + 1) (by have := HAA.out; omega) (by have := HAA.out; omega) W)
      have e3 := E3.out
      have HSB := Lib.hid hsb
      rw [← hsb] at HPW2
      clear hsb hjl e1 e2
      gi_wp2
      refine ⟨trivial, fun h => (by cases h), callsIn_wide.2 ((HPW2.out _).mono ?_)⟩
      rintro e w9 ⟨rfl, rfl⟩
      clear HPW2 e3
      generalize hPP : k ^ (j + 1) = P at *
      have HPP := Lib.hid hPP
      have HP5 : Hid (P ≤ 256) := by show P ≤ 256; rw [← hPP]; exact HAA.out.2.2.2.1 _ (by have := HAB.out; omega)
      clear hPP
      gi_wp2
      gi_loopw [20] (fun a' wq => ∃ v : Nat, v ≤ P ∧ a' = .int .i64 (v : Int) ∧ J (fst2 k j + v) wq ∧ Hid (CapG Fr [(Bs, .cells #[.int .i64 (k : Int), .int .i64 ((L : Int) + 1), .int .i64 (ww : Int)] 109 (0, 0)), (b, .cells #[.int .i64 (level : Int)] 3 (0, 0))] wq)) (fun a' _ => P - (intOf a').toNat)
      case atStart => exact ⟨0, Nat.zero_le _, rfl, hJ, HC⟩
      case round =>
        clear c0 c1 cb HC hJ
        obtain ⟨v, hv, rfl, hJ, HC⟩ := hrel
        by_cases hvl : v < P
        · have d3 : decide ((v : Int) < (P : Int)) = true := decide_eq_true (by omega)
          have qv : (wr.alloc (.cells #[.int .i64 (v : Int)] 3)).heap[wr.heap.size]? = some (.cells #[.int .i64 (v : Int)] 3 (0, 0)) := heap_alloc_new wr _
          have hbv : Below wr.heap.size wr (wr.alloc (.cells #[.int .i64 (v : Int)] 3)) := (Below.refl _ _).alloc (Nat.le_refl _) _
          have hJ2 := (HG.out _).jgrow _ _ hJ hbv
          have HC2 := Lib.hid (HC.out.below (HG.out _) hJ hbv)
          have hFv := (HG.out _).new _ _ wr.heap.size hJ hbv (Nat.le_refl _) ⟨_, qv, rfl⟩
          have hgl : fst2 k j + v < (stdT k (L + 1)).length := by
            rw [HSL.out]
            have h2 := fst2_mono k (show j + 1 ≤ L by have := HAB.out; omega)
            have h3 : fst2 k (j + 1) = fst2 k j + P := by rw [← HPP.out]; rfl
            omega
          have hsf : SideFn w0 lo sw ((stdT k (L + 1))[fst2 k j + v]) (.func (.func 148) #[] #[.pointer (some ⟨Bs, 0, none⟩), .pointer (some ⟨b, 0, none⟩), .pointer (some ⟨wr.heap.size, 0, none⟩)]) [Bs, b, wr.heap.size] (wr.alloc (.cells #[.int .i64 (v : Int)] 3)) := by
            refine ⟨148, _, rfl, enters_of Try.func148 (by kernel_rfl) rfl, fun W2 _ hk3 x hx => ?_⟩
            have h9 := HAA.out
            obtain ⟨m, hm⟩ : ∃ m, level = m + 1 := ⟨level - 1, by omega⟩
            rw [show (stdT k (L + 1))[fst2 k j + v] = lvlT k (L + 1) j v from stdTn_at k (L + 1) (by rw [HPP.out]; exact hvl) L (by have := HAB.out; omega) hgl]
            have k1 := (hk3 b (by simp)).trans HC2.out.has.m1
            rw [show ((level : Nat) : Int) = (m : Int) + 1 by omega] at k1
            have := sideT_any k m v x ww ((L : Int) + 1) (by omega) (by omega) (by have := HAB.out; omega) HPW.out (by omega) Bs b wr.heap.size ((hk3 Bs (by simp)).trans HC2.out.has.m0) k1 ((hk3 _ (by simp)).trans qv)
            unfold lvlT
            rw [show L + 1 - 1 = L by omega, HWW.out, show L - j = m + 1 by have := HAB.out; omega, show m + 1 - 1 = m by omega]
            exact this
          obtain ⟨fn, tm, as_, bd, hy, hR⟩ := HY.out _ _ _ _ hgl hJ2 hsf (fun q hm => by
            simp only [List.mem_cons, List.not_mem_nil, or_false] at hm
            rcases hm with rfl | rfl | rfl
            · exact (HC2.out _ (List.mem_cons_self ..)).1
            · exact (HC2.out _ (List.mem_cons_of_mem _ (List.mem_singleton.2 rfl))).1
            · exact hFv)
          have HWI := Lib.hid (wrap_small ((v : Int) + 1) (by omega) (by have := HP5.out; omega))
          have HCS : Hid (((v : Int) + 1) = ((v + 1 : Nat) : Int)) := by show _ = _; rw [Int.natCast_add]; rfl
          have HME : Hid (P - (intOf (.int .i64 ((v : Int) + 1))).toNat < P - (intOf (.int .i64 (v : Int))).toNat) := by show _ < _; simp [intOf]; omega
          have HMO : Hid (P - (intOf (.int .i64 (wrap64 ((v : Int) + 1)))).toNat < P - (intOf (.int .i64 (v : Int))).toNat) := by show _ < _; rw [HWI.out]; exact HME.out
          have HK1 : Hid (v + 1 ≤ P) := hvl
          clear hsf hFv qv hbv hgl hJ HC hvl hv
          gi_wp2
          refine ⟨fun h => (by cases h), ?_⟩
          refine hR.mono ?_
          rintro e W2 ⟨rfl, h1, hk⟩
          have HC3 := Lib.hid (HC2.out.kx hk)
          clear hy hR hk HC2 hJ2
          gi_wp2
          go_roundw
          case rel => exact ⟨v + 1, HK1.out, by first | rw [HWI.out, HCS.out] | rw [HCS.out], h1, HC3⟩
          case measure => first | exact HMO.out | exact HME.out
        · obtain rfl : v = P := by omega
          have HJ3 : Hid (J (fst2 k (j + 1)) wr) := by show J (fst2 k j + k ^ (j + 1)) wr; rw [HPP.out]; exact hJ
          have cb := cellR 0 HC.out.has.m1 rfl
          have e5 : wrap64 ((level : Int) - 1) = (level : Int) - 1 := wrap_small _ (by omega) (by have := HAA.out; have := HAB.out; omega)
          gi_wp2
          obtain ⟨t, ht⟩ : ∃ t, level = t + 1 := ⟨level - 1, by omega⟩
          rw [show (level : Int) - 1 = (t : Int) by omega]
          have qz : (wr.alloc (.cells #[.int .i64 (t : Int)] 3)).heap[wr.heap.size]? = some (.cells #[.int .i64 (t : Int)] 3 (0, 0)) := heap_alloc_new wr _
          have hbz : Below wr.heap.size wr (wr.alloc (.cells #[.int .i64 (t : Int)] 3)) := (Below.refl _ _).alloc (Nat.le_refl _) _
          refine ⟨⟨j + 1, t, wr.heap.size, by have := HAB.out; omega, rfl, (HG.out _).jgrow _ _ HJ3.out hbz, ?_⟩, ?_⟩
          · show CapG Fr _ _
            intro p hp
            rcases List.mem_cons.1 hp with rfl | hp
            · exact HC.out.below (HG.out _) HJ3.out hbz _ (List.mem_cons_self ..)
            · obtain rfl := List.mem_singleton.1 hp
              exact ⟨(HG.out _).new _ _ wr.heap.size HJ3.out hbz (Nat.le_refl _) ⟨_, qz, rfl⟩, qz⟩
          · rw [HBX.out, boxN_of qz]; omega
    · obtain rfl : level = 0 := by omega
      obtain rfl : j = L := by omega
      rw [← HSL.out] at hJ
      gi_wp2
      go_end0
      exact ⟨⟨_, rfl⟩, hJ⟩
end Go.Proofs.Ytbhkenphcahifaa

namespace Go.Proofs.Ytbhkenphcahifaa
open Go.RowKit Go.Shelf
attribute [local go_sem] Oper.semAt_some
set_option maxRecDepth 100000
set_option maxHeartbeats 4000000

theorem m_sides1 (sa : Option Addr) (n sc : Nat) (m : Int) (w : World) : (method 288 105 (.agg #[.slice sa n sc, .int .i64 m]) "armada/net.sides").run Try.prog w = .ok (98, .agg #[.slice sa n sc, .int .i64 m]) w := by kernel_rfl
theorem m_sides2 (a b c : Int) (w : World) : (method 288 109 (.agg #[.int .i64 a, .int .i64 b, .int .i64 c]) "armada/net.sides").run Try.prog w = .ok (139, .agg #[.int .i64 a, .int .i64 b, .int .i64 c]) w := by kernel_rfl
theorem m_sides3 (a b c : Int) (w : World) : (method 288 113 (.agg #[.int .i64 a, .int .i64 b, .int .i64 c]) "armada/net.sides").run Try.prog w = .ok (153, .agg #[.int .i64 a, .int .i64 b, .int .i64 c]) w := by kernel_rfl
/-- a function that makes an iterator over sides -/
def FMake (g : Nat) (args : Array Value) (S : List (Nat → Bool)) (sw : Nat) (w0 W : World) : Prop :=
  Calls Try.prog g args W fun e w' => ∃ gf lb Nd, e = .returned (.func (.func gf) #[] lb) ∧ (∀ args w, (callFunc gf args).run Try.prog w = .ok (.enter gf args) w) ∧ (∀ b ∈ Nd, W.heap.size ≤ b ∧ ∃ o, w'.heap[b]? = some o ∧ o.isCells = true) ∧ (∀ n, SeqF n gf lb Nd w0.heap.size sw S w0 w') ∧ Below W.heap.size W w'
theorem sides_make1 {sa : Option Addr} {l : List Int} (hb : ∀ i, i < l.length → 2 ≤ l.getD i 0 ∧ l.getD i 0 ≤ 16) (hl4 : l.length ≤ 4) (hp : prodI l ≤ 256) (sc sw : Nat) (hsw : (sw : Int) = prodI l) {w0 W : World} (hI : Ints w0 sa l) (hw0 : Below w0.heap.size w0 W) :
    FMake 98 #[.agg #[.slice sa l.length sc, .int .i64 (prodI l)]] (stdK l) sw w0 W := by
  have q0 := heap_alloc_new W (.cells #[.slice sa l.length sc, .int .i64 (prodI l)] 105)
  have hbw : Below W.heap.size W (W.alloc (.cells #[.slice sa l.length sc, .int .i64 (prodI l)] 105)) := (Below.refl _ _).alloc (Nat.le_refl _) _
  have HR : Hid ((∀ b ∈ [W.heap.size], W.heap.size ≤ b ∧ ∃ o, (W.alloc (.cells #[.slice sa l.length sc, .int .i64 (prodI l)] 105)).heap[b]? = some o ∧ o.isCells = true) ∧ (∀ n, SeqF n 108 #[.pointer (some ⟨W.heap.size, 0, none⟩)] [W.heap.size] w0.heap.size sw (stdK l) w0 (W.alloc (.cells #[.slice sa l.length sc, .int .i64 (prodI l)] 105))) ∧ Below W.heap.size W (W.alloc (.cells #[.slice sa l.length sc, .int .i64 (prodI l)] 105))) :=
    ⟨fun b hm => by obtain rfl := List.mem_singleton.1 hm; exact ⟨Nat.le_refl _, _, q0, rfl⟩, fun n => sidesK hb hl4 hp sc sw hsw W.heap.size hI (hw0.trans (hbw.mono hw0.size)) q0 n, hbw⟩
  clear q0 hbw hI hw0 hb hl4 hp hsw
  unfold FMake
  generalize stdK l = S at *
  generalize prodI l = P at *
  generalize l.length = N at *
  go_enter Try.func98, Try.ntmps98
  go_wp2_with fail
  go_ret
  exact ⟨108, _, _, rfl, enters_of Try.func108 (by kernel_rfl) rfl, HR.out.1, HR.out.2.1, HR.out.2.2⟩
theorem sides_make2 (k L : Nat) (hk : 2 ≤ k) (hk2 : k ≤ 8) (hL : L ≤ 3) (hkk : ∀ a, a ≤ L → k ^ a ≤ 256) (sw : Nat) (hsw : sw ≤ 1000) (w0 W : World) :
    FMake 139 #[.agg #[.int .i64 (k : Int), .int .i64 ((L : Int) + 1), .int .i64 ((k ^ L : Nat) : Int)]] (stdT k (L + 1)) sw w0 W := by
  have q0 := heap_alloc_new W (.cells #[.int .i64 (k : Int), .int .i64 ((L : Int) + 1), .int .i64 ((k ^ L : Nat) : Int)] 109)
  have hbw : Below W.heap.size W (W.alloc (.cells #[.int .i64 (k : Int), .int .i64 ((L : Int) + 1), .int .i64 ((k ^ L : Nat) : Int)] 109)) := (Below.refl _ _).alloc (Nat.le_refl _) _
  have HR : Hid ((∀ b ∈ [W.heap.size], W.heap.size ≤ b ∧ ∃ o, (W.alloc (.cells #[.int .i64 (k : Int), .int .i64 ((L : Int) + 1), .int .i64 ((k ^ L : Nat) : Int)] 109)).heap[b]? = some o ∧ o.isCells = true) ∧ (∀ n, SeqF n 147 #[.pointer (some ⟨W.heap.size, 0, none⟩)] [W.heap.size] w0.heap.size sw (stdT k (L + 1)) w0 (W.alloc (.cells #[.int .i64 (k : Int), .int .i64 ((L : Int) + 1), .int .i64 ((k ^ L : Nat) : Int)] 109))) ∧ Below W.heap.size W (W.alloc (.cells #[.int .i64 (k : Int), .int .i64 ((L : Int) + 1), .int .i64 ((k ^ L : Nat) : Int)] 109))) :=
    ⟨fun b hm => by obtain rfl := List.mem_singleton.1 hm; exact ⟨Nat.le_refl _, _, q0, rfl⟩, fun n => sidesT k L hk hk2 hL hkk w0.heap.size sw hsw W.heap.size q0 n, hbw⟩
  clear q0 hbw hk hk2 hL hkk hsw
  unfold FMake
  generalize stdT k (L + 1) = S at *
  generalize k ^ L = ww at *
  go_enter Try.func139, Try.ntmps139
  go_wp2_with fail
  go_ret
  exact ⟨147, _, _, rfl, enters_of Try.func147 (by kernel_rfl) rfl, HR.out.1, HR.out.2.1, HR.out.2.2⟩
theorem sides_make3 (a G sw : Nat) (h : Int) (ha : 1 ≤ a) (ha2 : a ≤ 16) (hG1 : G ≤ 1000) (hsw : sw ≤ 1000) (w0 W : World) :
    FMake 153 #[.agg #[.int .i64 (a : Int), .int .i64 h, .int .i64 (G : Int)]] (stdD a G) sw w0 W := by
  have q0 := heap_alloc_new W (.cells #[.int .i64 (a : Int), .int .i64 h, .int .i64 (G : Int)] 113)
  have hbw : Below W.heap.size W (W.alloc (.cells #[.int .i64 (a : Int), .int .i64 h, .int .i64 (G : Int)] 113)) := (Below.refl _ _).alloc (Nat.le_refl _) _
  have HR : Hid ((∀ b ∈ [W.heap.size], W.heap.size ≤ b ∧ ∃ o, (W.alloc (.cells #[.int .i64 (a : Int), .int .i64 h, .int .i64 (G : Int)] 113)).heap[b]? = some o ∧ o.isCells = true) ∧ (∀ n, SeqF n 160 #[.pointer (some ⟨W.heap.size, 0, none⟩)] [W.heap.size] w0.heap.size sw (stdD a G) w0 (W.alloc (.cells #[.int .i64 (a : Int), .int .i64 h, .int .i64 (G : Int)] 113))) ∧ Below W.heap.size W (W.alloc (.cells #[.int .i64 (a : Int), .int .i64 h, .int .i64 (G : Int)] 113))) :=
    ⟨fun b hm => by obtain rfl := List.mem_singleton.1 hm; exact ⟨Nat.le_refl _, _, q0, rfl⟩, fun n => sidesD a G sw h ha ha2 hG1 hsw W.heap.size w0.heap.size q0 n, hbw⟩
  clear q0 hbw ha ha2 hG1 hsw
  unfold FMake
  generalize stdD a G = S at *
  go_enter Try.func153, Try.ntmps153
  go_wp2_with fail
  go_ret
  exact ⟨160, _, _, rfl, enters_of Try.func160 (by kernel_rfl) rfl, HR.out.1, HR.out.2.1, HR.out.2.2⟩
end Go.Proofs.Ytbhkenphcahifaa

namespace Go.Proofs.Ytbhkenphcahifaa
open Go.RowKit Go.Shelf
attribute [local go_sem] Oper.semAt_some
set_option maxRecDepth 100000
set_option maxHeartbeats 4000000

theorem Try.info58 : (Try.prog.info? 58).map (fun i => (i.zero, i.size, i.bytes)) = some (some (.slice none 0 0), 1, 24) := by kernel_rfl
/-- a list of rows of bools that grows in a variable of its own: the rows lie beside it -/
def OutB (n0 o sw : Nat) (S : List (Nat → Bool)) (W : World) : Prop := ∃ (v : Value) (bs : List Nat), Boxed W o 60 v ∧ W.ownsRow n0 58 1 v S.length (bs.map fun b => Value.slice (some ⟨b, 0, none⟩) sw sw) ∧ bs.length = S.length ∧ ∀ i, i < S.length → BAt W (bs.getD i 0) ((List.range sw).map (S.getD i fun _ => false)) ∧ Fq n0 o (bs.getD i 0) W
theorem OutB.lt {n0 o sw : Nat} {S : List (Nat → Bool)} {W : World} (h : OutB n0 o sw S W) : o < W.heap.size := by obtain ⟨v, bs, h1, _⟩ := h; exact h1.lt
theorem OutB.below {n0 o sw : Nat} {S : List (Nat → Bool)} {W W' : World} (h : OutB n0 o sw S W) (hb : Below W.heap.size W W') : OutB n0 o sw S W' := by
  have hlt := h.lt
  obtain ⟨v, bs, h1, h2, h3, h4⟩ := h
  exact ⟨v, bs, (hb.block o h1.lt).trans h1, ownsRow_bl h2 hb, h3, fun i hi => ⟨heapB hb (h4 i hi).1, (h4 i hi).2.grow hlt hb⟩⟩
theorem OutB.put {n0 o sw s b : Nat} {S : List (Nat → Bool)} {W : World} {o1 o' : Obj} (h : OutB n0 o sw S W) (ho : o < s) (hb : s ≤ b) (h1 : W.heap[b]? = some o1) (h2 : o1.isCells = false) : OutB n0 o sw S (W.putObj b o') := by
  obtain ⟨v, bs, k1, k2, k3, k4⟩ := h
  refine ⟨v, bs, (World.putObj_heap_other (by omega)).trans k1, ownsRow_putObj k2 o' h1 h2, k3, fun i hi => ⟨?_, (k4 i hi).2.put ho hb h1 h2⟩⟩
  have hne : bs.getD i 0 ≠ b := by
    intro e
    have h9 := (k4 i hi).1
    unfold BAt at h9
    rw [e, h1] at h9
    cases h9; cases h2
  exact (World.putObj_heap_other hne).trans (k4 i hi).1
theorem OutB.append {n0 o sw : Nat} {S : List (Nat → Bool)} {W : World} (h : OutB n0 o sw S W) (T : Nat → Bool) (b : Nat) (hT : BAt W b ((List.range sw).map T)) (hf : Fq n0 o b W) (hl : S.length ≤ 200000) (hn : n0 ≤ W.heap.size) (ho : n0 ≤ o) :
    ∃ v g cap wA, Boxed W o 60 v ∧ Boxed wA o 60 v ∧ (Builtin.append_ #[60, 60] 60 #[v, .slice (some ⟨W.heap.size, 0, none⟩) 1 1]).run Try.prog (W.alloc (.cells #[.slice (some ⟨b, 0, none⟩) sw sw] 58)) = .ok (.slice (some ⟨g, 0, none⟩) (S.length + 1) cap) wA ∧
      OutB n0 o sw (S ++ [T]) (wA.setCell ⟨o, 0, none⟩ (.slice (some ⟨g, 0, none⟩) (S.length + 1) cap)) ∧ KeepsOthers W (wA.setCell ⟨o, 0, none⟩ (.slice (some ⟨g, 0, none⟩) (S.length + 1) cap)) ∧ Kq n0 o W (wA.setCell ⟨o, 0, none⟩ (.slice (some ⟨g, 0, none⟩) (S.length + 1) cap)) := by
  obtain ⟨v, bs, h1, h2, h3, h4⟩ := h
  obtain ⟨i0, hi, hz0, hz1, hz2⟩ := info_parts Try.info58
  obtain ⟨g, cap, wA, hr, hown, hgrow, hat, hlt⟩ := run_append_lies (P := Try.prog) (W.alloc (.cells #[.slice (some ⟨b, 0, none⟩) sw sw] 58)) 60 60 n0 58 i0 (.slice none 0 0) 1 24 Try.underlying60 hi hz0 hz1 hz2 rfl (by decide) v S.length _ (h2.alloc _) ⟨W.heap.size, 0, none⟩ 1 1 [.slice (some ⟨b, 0, none⟩) sw sw] (by simp)
    (World.news_of_block (cs := #[.slice (some ⟨b, 0, none⟩) sw sw]) (heap_alloc_new W (.cells #[.slice (some ⟨b, 0, none⟩) sw sw] 58))) (by intro u hu; simp at hu; subst hu; rfl) (by decide) (by unfold maxLen; omega) (by omega) (by simp; omega) _ rfl
  obtain ⟨hv1, hv2, hr2, hk2, hb2⟩ := h1.appended (by decide) h2 hn ho hown hgrow
  have HK : Kq n0 o W (wA.setCell ⟨o, 0, none⟩ (.slice (some ⟨g, 0, none⟩) (S.length + 1) cap)) := by
    refine ⟨hb2, ?_⟩
    rintro b ⟨⟨ob, m1, m2⟩, m3, m4, m5⟩
    have hbl := (Array.getElem?_eq_some_iff.1 m1).1
    have hnb := m5 v h1.cell
    have e1 : (wA.setCell ⟨o, 0, none⟩ (.slice (some ⟨g, 0, none⟩) (S.length + 1) cap)).heap[b]? = W.heap[b]? := by
      rw [heap_setCell_other _ _ _ _ m4, hgrow.block b (by simp; omega) (fun e => hnb e.symm), Below.heap_alloc _ _ _ hbl]
    refine ⟨e1, ⟨ob, e1.trans m1, m2⟩, m3, m4, fun u hu => ?_⟩
    rw [hv2.cell] at hu
    cases hu
    intro e
    have hgb : g = b := by simpa [Value.ownBlock] using e
    rcases hat with hat | hat
    · exact hnb (by rw [hat, hgb])
    · simp at hat; omega
  refine ⟨v, g, cap, wA, h1, hv1, hr, ⟨_, bs ++ [b], hv2, by simpa using hr2, by simp [h3], fun i hi => ?_⟩, hk2, HK⟩
  have hcase : i < S.length ∨ i = S.length := by simp at hi; omega
  rcases hcase with hi | rfl
  · have e1 : (bs ++ [b]).getD i 0 = bs.getD i 0 := by simp [List.getD, List.getElem?_append_left (show i < bs.length by omega)]
    have e2 : (S ++ [T]).getD i (fun _ => false) = S.getD i fun _ => false := by simp [List.getD, List.getElem?_append_left hi]
    rw [e1, e2]
    have hk := HK.2 _ (h4 i hi).2
    exact ⟨hk.1.trans (h4 i hi).1, hk.2⟩
  · have e1 : (bs ++ [b]).getD S.length 0 = b := by rw [← h3]; simp [List.getD]
    have e2 : (S ++ [T]).getD S.length (fun _ => false) = T := by simp [List.getD]
    rw [e1, e2]
    have hk := HK.2 _ hf
    exact ⟨hk.1.trans hT, hk.2⟩
theorem OutB.priv {n0 o sw nb s : Nat} {S : List (Nat → Bool)} {w : World} {ob : Obj} (hn : n0 ≤ w.heap.size) (ho : o < s) (hnb : nb < s) (hno : n0 ≤ o) : PrivG s (fun W => OutB n0 o sw S W ∧ Below n0 w W ∧ W.heap[nb]? = some ob) (Fq n0 o) where
  cells := fun W b _ h => h.1
  new := by
    rintro W W2 b ⟨⟨v, bs, h1, h2, _⟩, hw, _⟩ hb hsz hc
    have hlt := h1.lt
    have hws := hw.size
    refine ⟨hc, by omega, by omega, fun u hu e => ?_⟩
    rw [hb.cell (p := ⟨o, 0, none⟩) hlt, h1.cell] at hu
    cases hu
    have := (h2.lt b e).2
    omega
  grow := fun W W2 b h hf hb => hf.grow h.1.lt hb
  jgrow := fun W W2 h hb => ⟨h.1.below hb, h.2.1.trans (hb.mono (by have := h.2.1.size; omega)), heapB hb h.2.2⟩
  jput := fun W b o1 o' h hs h1 h2 => ⟨h.1.put ho hs h1 h2, h.2.1.trans ((Below.refl n0 W).grown (grownBy_putObj' W b o') (by have := h.2.1.size; have := (Array.getElem?_eq_some_iff.1 h1).1; omega) (fun k e => by cases e; omega)), (World.putObj_heap_other (by omega)).trans h.2.2⟩
  fput := fun W b c o1 o' h hf hs h1 h2 => hf.put ho hs h1 h2
end Go.Proofs.Ytbhkenphcahifaa

namespace Go.Proofs.Ytbhkenphcahifaa
open Go.RowKit Go.Shelf
attribute [local go_sem] Oper.semAt_some
set_option maxRecDepth 100000
set_option maxHeartbeats 4000000

/-- a network with its sides -/
structure NetF (w0 : World) (ty fs fm : Nat) (rcv : Value) (sw : Nat) (ho : Int) (S : List (Nat → Bool)) : Prop where
  ms : ∀ W, (method 288 ty rcv "armada/net.size").run Try.prog W = .ok (fs, rcv) W
  mm : ∀ W, (method 288 ty rcv "armada/net.sides").run Try.prog W = .ok (fm, rcv) W
  es : ∀ args W, (callFunc fs args).run Try.prog W = .ok (.enter fs args) W
  em : ∀ args W, (callFunc fm args).run Try.prog W = .ok (.enter fm args) W
  sz : ∀ W, Below w0.heap.size w0 W → Calls Try.prog fs #[rcv] W fun e w' => e = .returned (.tuple #[.int .i64 (sw : Int), .int .i64 ho]) ∧ Below W.heap.size W w'
  mak : ∀ W, Below w0.heap.size w0 W → FMake fm #[rcv] S sw w0 W
/-- a row of bools that has been filled as far as m -/
def rowB (T : Nat → Bool) (sw m : Nat) : List Bool := (List.range m).map T ++ List.replicate (sw - m) false
theorem rowB_zero (T : Nat → Bool) (sw : Nat) : rowB T sw 0 = List.replicate sw false := by simp [rowB]
theorem rowB_full (T : Nat → Bool) (sw : Nat) : rowB T sw sw = (List.range sw).map T := by simp [rowB]
theorem rowB_len (T : Nat → Bool) (sw m : Nat) (h : m ≤ sw) : (rowB T sw m).length = sw := by simp [rowB]; omega
theorem rowB_set (T : Nat → Bool) (sw m : Nat) (h : m < sw) : (rowB T sw m).set m (T m) = rowB T sw (m + 1) := by
  apply List.ext_getElem (by simp [rowB]; omega)
  intro i h1 h2
  simp only [rowB, List.getElem_set, List.getElem_append, List.length_map, List.length_range, List.getElem_map, List.getElem_range, List.getElem_replicate]
  by_cases hi : m = i
  · subst hi; simp
  · by_cases hlt : i < m
    · simp [hi, hlt, show i < m + 1 by omega]
    · simp [hi, hlt, show ¬ i < m + 1 by omega]
theorem Sides_ok {w : World} {sa : Option Addr} {l : List Int} (h : Ints w sa l) (sc : Nat) (kind hosts : Int) (hv : vOk kind l hosts) {ty fs fm : Nat} {rcv : Value} {sw : Nat} {ho : Int} {S : List (Nat → Bool)} (hnv : netV kind sa sc l = .iface ty rcv) (hnf : NetF w ty fs fm rcv sw ho S) (hsl : sw ≤ 1000) (hSl : S.length ≤ 2000) :
    Calls Try.prog 35 #[.agg #[.int .i64 kind, .slice sa l.length sc, .int .i64 hosts]] w fun e w' => ∃ (v : Value) (bs : List Nat), e = .returned (.tuple #[v, .int .i64 0]) ∧ w'.ownsRow w.heap.size 58 1 v S.length (bs.map fun b => Value.slice (some ⟨b, 0, none⟩) sw sw) ∧ bs.length = S.length ∧ (∀ i, i < S.length → BAt w' (bs.getD i 0) ((List.range sw).map (S.getD i fun _ => false))) ∧ Below w.heap.size w w' := by
  have HO : Hid (∀ W, Below w.heap.size w W → Calls Try.prog 42 #[.agg #[.int .i64 kind, .slice sa l.length sc, .int .i64 hosts]] W fun e w' => e = .returned (.tuple #[.iface ty rcv, .int .i64 0]) ∧ Below W.heap.size W w') := fun W hb => by
    refine (networkOf_any (h.keep hb) sc kind hosts).mono ?_
    rintro e w' ⟨h1, ⟨_, rfl⟩ | ⟨h2, _⟩⟩
    · exact ⟨by rw [hnv], h1⟩
    · exact absurd hv h2
  have HB := Lib.hid ((Below.refl w.heap.size w).alloc (Nat.le_refl _) (.cells #[.int .i64 kind, .slice sa l.length sc, .int .i64 hosts] 24))
  have q0 := heap_alloc_new w (.cells #[.int .i64 kind, .slice sa l.length sc, .int .i64 hosts] 24)
  have c0 := cellR 0 q0 rfl
  have c1 := cellR 1 q0 rfl
  have c2 := cellR 2 q0 rfl
  have HNF := Lib.hid hnf
  have HSL := Lib.hid hsl
  have HSS := Lib.hid hSl
  have hes := hnf.es
  have hms := hnf.ms
  clear h q0 hv hnv hnf hsl hSl
  generalize l.length = N at *
  refine (callsIn_wide (n := 4)).1 ?_
  refine callsIn_of_wp_marks Try.func35 rfl trivial ?_ rfl
  simp only [Try.ntmps35, List.size_toArray, List.length_cons, List.length_nil, Nat.reduceAdd, Nat.reduceSub, Array.replicate_succ, Array.replicate_zero, List.push_toArray, List.append_toArray, List.nil_append, List.cons_append]
  gi_wp2
  clear c0 c1 c2
  refine ⟨trivial, callsIn_wide.2 ((HO.out _ HB.out).mono ?_)⟩
  rintro e w1 ⟨rfl, hb1⟩
  have HB1 := Lib.hid (HB.out.trans (hb1.mono HB.out.size))
  clear HO hb1
  gi_wp2
  refine ⟨trivial, callsIn_wide.2 ((HNF.out.sz w1 HB1.out).mono ?_)⟩
  rintro e w2 ⟨rfl, hb2⟩
  have HB2 : Hid (Below w.heap.size w w2) := HB1.out.trans (hb2.mono HB1.out.size)
  obtain ⟨hb3, qn, qo, hz⟩ := twoN w2 (.cells #[.int .i64 (sw : Int)] 3) (.cells #[.slice none 0 0] 60)
  clear HB1 hb2 hes hms HB
  have hem := HNF.out.em
  have hmm := HNF.out.mm
  gi_wp2
  have HB3 : Hid (Below w.heap.size w ((w2.alloc (.cells #[.int .i64 (sw : Int)] 3)).alloc (.cells #[.slice none 0 0] 60))) := HB2.out.trans (hb3.mono HB2.out.size)
  have HO0 : Hid (OutB w.heap.size (w2.heap.size + 1) sw [] ((w2.alloc (.cells #[.int .i64 (sw : Int)] 3)).alloc (.cells #[.slice none 0 0] 60))) := ⟨_, [], qo, ⟨rfl, .inl ⟨rfl, rfl⟩⟩, rfl, fun i hi => by simp at hi⟩
  have HQN := Lib.hid qn
  have HZ := Lib.hid hz
  have HSZ : Hid (w.heap.size ≤ w2.heap.size) := HB2.out.size
  have HMK := Lib.hid (HNF.out.mak _ HB3.out)
  clear hb3 qn qo hz HB2 HNF
  generalize (w2.alloc (.cells #[.int .i64 (sw : Int)] 3)).alloc (.cells #[.slice none 0 0] 60) = Y at *
  refine ⟨trivial, callsIn_wide.2 (HMK.out.mono ?_)⟩
  rintro e w3 ⟨gf, lb, Nd, rfl, heg, hNd, hSq, hb4⟩
  have HO3 : Hid (OutB w.heap.size (w2.heap.size + 1) sw (S.take 0) w3) := by show OutB _ _ _ _ _; rw [List.take_zero]; exact HO0.out.below hb4
  have HB4 : Hid (Below w.heap.size w w3) := HB3.out.trans (hb4.mono HB3.out.size)
  have HQ3 := Lib.hid (heapB hb4 HQN.out)
  have HND : Hid (∀ b ∈ Nd, Fq w.heap.size (w2.heap.size + 1) b w3) := fun b hb => by
    obtain ⟨h1, h2⟩ := hNd b hb
    have h3 := HZ.out
    have h4 := HSZ.out
    refine ⟨h2, by omega, by omega, fun v hv => ?_⟩
    obtain ⟨v2, bs, k1, k2, _⟩ := HO0.out
    rw [hb4.cell (p := ⟨w2.heap.size + 1, 0, none⟩) (by show w2.heap.size + 1 < _; omega), k1.cell] at hv
    cases hv
    intro e
    have := (k2.lt b e).2
    omega
  have HSQ := Lib.hid hSq
  have HZ4 : Hid (w2.heap.size + 2 ≤ w3.heap.size) := by have h5 := hb4.size; show _ ≤ _; rw [← HZ.out]; exact h5
  clear hNd hSq hb4 HMK HB3 HO0 HQN HZ hem hmm
  gi_wp2
  refine range_f (S := S) (Nd := Nd) (lo := w.heap.size) (w0 := w) (sw := sw) (Fr := Fq w.heap.size (w2.heap.size + 1)) (by omega) rfl heg (HSQ.out _) HND.out HB4.out.size rfl (fun i W => OutB w.heap.size (w2.heap.size + 1) sw (S.take i) W ∧ Below w.heap.size w W ∧ W.heap[w2.heap.size]? = some (.cells #[.int .i64 (sw : Int)] 3 (0, 0))) (fun i => OutB.priv (Nat.le_refl _) (by have := HZ4.out; omega) (by have := HZ4.out; omega) (by have := HSZ.out; omega)) ⟨HO3.out, HB4.out, HQ3.out⟩ (fun x => ⟨#[Value.agg #[Value.int IntKind.i64 kind, Value.slice sa N sc, Value.int IntKind.i64 hosts], Value.pointer (some (Addr.mk w.heap.size 0 none)), Value.slice none 0 0, Value.int IntKind.i64 0, Value.iface ty rcv, Value.int IntKind.i64 0, Value.pointer (some (Addr.mk w2.heap.size 0 none)), Value.int IntKind.i64 ho, Value.pointer (some (Addr.mk (w2.heap.size + 1) 0 none)), x, undef, undef, Value.tuple #[Value.iface ty rcv, Value.int IntKind.i64 0], Value.agg #[Value.int IntKind.i64 kind, Value.slice sa N sc, Value.int IntKind.i64 hosts], Value.tuple #[Value.iface ty rcv, Value.int IntKind.i64 0], Value.iface ty rcv, Value.int IntKind.i64 0, Value.int IntKind.i64 0, Value.bool false, undef, Value.tuple #[Value.int IntKind.i64 ↑sw, Value.int IntKind.i64 ho], Value.iface ty rcv, Value.tuple #[Value.int IntKind.i64 ↑sw, Value.int IntKind.i64 ho], Value.int IntKind.i64 ↑sw, Value.int IntKind.i64 ho, Value.iface ty rcv, Value.func (Fn.func gf) #[] lb, x, undef, undef, undef, undef, undef, undef, undef, undef, undef, undef, undef, undef, undef, undef, undef, undef, undef, undef, undef], []⟩) ?assign ?body ?done
  case assign =>
    intro q x W K hK
    gi_wp2
    exact hK
  case body =>
    rintro q i x Ks W hi ⟨i1, i2, i3⟩ hsf hks
    obtain ⟨f, caps, rfl, hef, hcf⟩ := hsf.ex
    have c6 := cellR 0 i3 rfl
    have HI := Lib.hid (And.intro i1 (And.intro i2 i3))
    have HMB := Lib.hid (make_bools sw (by have := HSL.out; omega) W)
    have hmb := HMB.out
    have HKS := Lib.hid hks
    have HCF := Lib.hid hcf
    have HIL := Lib.hid hi
    have HA : Hid (Below W.heap.size W (W.alloc (.cells (boolA (List.replicate sw false)) 4)) ∧ BAt (W.alloc (.cells (boolA (List.replicate sw false)) 4)) W.heap.size (rowB S[i] sw 0)) := ⟨(Below.refl _ _).alloc (Nat.le_refl _) _, by rw [rowB_zero]; exact heap_alloc_new W _⟩
    clear hsf hks hcf i1 i2 i3 HMB HSQ HND HO3 HB4 HQ3
    gi_wp2
    clear hmb c6
    gi_loopw [32] (fun a' wr => ∃ m : Nat, m ≤ sw ∧ a' = .int .i64 (m : Int) ∧ Hid (Below W.heap.size W wr ∧ BAt wr W.heap.size (rowB S[i] sw m))) (fun a' _ => sw - (intOf a').toNat)
    case atStart => exact ⟨0, Nat.zero_le _, rfl, HA.out⟩
    case round =>
      clear HA
      obtain ⟨m, hm, rfl, HC⟩ := hrel
      by_cases hlt : m < sw
      · have d1 : decide ((m : Int) < (sw : Int)) = true := decide_eq_true (by omega)
        have HCL : Hid (Calls Try.prog f (#[.int .i64 (m : Int)] ++ caps) wr fun e w' => e = .returned (.bool (S[i] m)) ∧ Below wr.heap.size wr w') := HCF.out wr (HI.out.2.1.trans (HC.out.1.mono HI.out.2.1.size)) (fun b hb => HC.out.1.block b (by obtain ⟨⟨ob, h1, _⟩, _⟩ := HKS.out b hb; exact (Array.getElem?_eq_some_iff.1 h1).1)) m hlt
        have HWI := Lib.hid (wrap_small ((m : Int) + 1) (by omega) (by have := HSL.out; omega))
        have HCS : Hid (((m : Int) + 1) = ((m + 1 : Nat) : Int)) := by show _ = _; rw [Int.natCast_add]; rfl
        have HME : Hid (sw - (intOf (.int .i64 ((m : Int) + 1))).toNat < sw - (intOf (.int .i64 (m : Int))).toNat) := by show _ < _; simp [intOf]; omega
        have HMO : Hid (sw - (intOf (.int .i64 (wrap64 ((m : Int) + 1)))).toNat < sw - (intOf (.int .i64 (m : Int))).toNat) := by show _ < _; rw [HWI.out]; exact HME.out
        have HK1 : Hid (m + 1 ≤ sw) := hlt
        have HST : Hid ((rowB S[i] sw m).set m (S[i] m) = rowB S[i] sw (m + 1)) := rowB_set _ _ _ hlt
        clear hm
        generalize S[i] m = bv at *
        gi_wp2
        refine ⟨trivial, CallsIn.inRound _ (callsIn_wide.2 (HCL.out.mono ?_))⟩
        rintro e w9 ⟨rfl, hb9⟩
        have hB9 : BAt w9 W.heap.size (rowB S[i] sw m) := heapB hb9 HC.out.2
        have HC9 : Hid (Below W.heap.size W (w9.setCell ⟨W.heap.size, m, none⟩ (.bool bv)) ∧ BAt (w9.setCell ⟨W.heap.size, m, none⟩ (.bool bv)) W.heap.size (rowB S[i] sw (m + 1))) := ⟨(HC.out.1.trans (hb9.mono HC.out.1.size)).setCell (p := ⟨W.heap.size, m, none⟩) (Nat.le_refl _) _, by rw [← HST.out]; exact hB9.set m bv⟩
        have ca := hB9.cell m (by rw [rowB_len _ _ _ (by omega)]; omega)
        have fa := hB9.open_ m
        have la := hB9.lt
        clear hB9 hb9 HC HCL
        gi_wp2
        go_roundw
        case rel => exact ⟨m + 1, HK1.out, by first | rw [HWI.out, HCS.out] | rw [HCS.out], HC9⟩
        case measure => first | exact HMO.out | exact HME.out
      · obtain rfl : m = sw := by omega
        have HBA : Hid (BAt wr W.heap.size ((List.range m).map S[i])) := by have h9 := HC.out.2; rw [rowB_full] at h9; exact h9
        have hno : ∀ (b : Nat), (∀ t fr cs, W.heap[b]? = some (.cells cs t fr) → t ≠ 58) → ∀ v, W.cell? ⟨w2.heap.size + 1, 0, none⟩ = some v → v.ownBlock ≠ some b := fun b hb9 v hv => by
          obtain ⟨v2, bs, k1, k2, _⟩ := HI.out.1
          rw [k1.cell] at hv
          cases hv
          rcases k2.2 with ⟨rfl, _⟩ | ⟨g, cap, cur, rfl, _, hgb, _⟩
          · simp [Value.ownBlock]
          · intro e
            obtain rfl : g = b := by simpa [Value.ownBlock] using e
            exact hb9 _ _ _ hgb rfl
        have hlo : w2.heap.size + 1 < W.heap.size := HI.out.1.lt
        have hFn : Fq w.heap.size (w2.heap.size + 1) w2.heap.size W := ⟨⟨_, HI.out.2.2, rfl⟩, HSZ.out, by omega, hno _ (fun t fr cs h9 => by rw [HI.out.2.2] at h9; cases h9; decide)⟩
        have hFr : Fq w.heap.size (w2.heap.size + 1) W.heap.size wr := by
          refine ⟨⟨_, HBA.out, rfl⟩, HI.out.2.1.size, by omega, fun v hv => hno _ (fun t fr cs h9 => ?_) v ?_⟩
          · have := (Array.getElem?_eq_some_iff.1 h9).1; omega
          · rw [← hv]; exact (HC.out.1.cell (p := ⟨w2.heap.size + 1, 0, none⟩) hlo).symm
        obtain ⟨v, g, cap, wA, hv, hvA, hrun, hO4, hk4, hq4⟩ := (HI.out.1.below HC.out.1).append S[i] W.heap.size HBA.out hFr (by have := HSS.out; simp; omega) (by have := HI.out.2.1.size; have := HC.out.1.size; omega) (by have := HSZ.out; omega)
        have hTk : S.take i ++ [S[i]] = S.take (i + 1) := (List.take_succ_eq_append_getElem hi).symm
        have hTl : (S.take i).length = i := by rw [List.length_take]; omega
        rw [hTk] at hO4
        rw [hTl] at hO4 hrun hk4 hq4
        have HEND : Hid (KeepsFrom w3.heap.size W _ ∧ Kx w.heap.size (Fq w.heap.size (w2.heap.size + 1)) W _ ∧ OutB w.heap.size (w2.heap.size + 1) m (S.take (i + 1)) _ ∧ Below w.heap.size w _ ∧ _) := ⟨KeepsFrom.trans ⟨HC.out.1.size, fun k o _ hk _ => (HC.out.1.block k (Array.getElem?_eq_some_iff.1 hk).1).trans hk⟩ (hk4.from _), ⟨(HC.out.1.mono HI.out.2.1.size).trans hq4.1, fun b hb => ⟨(hq4.2 b (hb.grow hlo HC.out.1)).1.trans (HC.out.1.block b (by obtain ⟨⟨ob, h1, _⟩, _⟩ := hb; exact (Array.getElem?_eq_some_iff.1 h1).1)), (hq4.2 b (hb.grow hlo HC.out.1)).2⟩⟩, hO4, (HI.out.2.1.trans (HC.out.1.mono HI.out.2.1.size)).trans hq4.1, ((hq4.2 _ (hFn.grow hlo HC.out.1)).1.trans (heapB HC.out.1 HI.out.2.2))⟩
        have cv := hv.cell
        have cA := hvA.cell
        have fA := hvA.frozen
        have lA := hvA.lt
        clear hTk hTl hno hlo hFn hFr hO4 hk4 hq4 hv hvA
        gi_wp2_with (gi_at_builtin; refine wpListIn_append_run rfl _ _ 60 rfl rfl rfl hrun ?_)
        exact HEND.out
  case done =>
    rintro D W hD ⟨⟨v, bs, h1, h2, h3, h4⟩, hB3, _⟩ hK
    have cv := h1.cell
    rw [List.take_length] at h2 h3 h4
    gi_wp2
    refine ⟨by simp, .inl ⟨_, _, rfl, run_takeDeferred hK, ?_⟩⟩
    have hsD := HB4.out.size
    refine ⟨.tuple #[v, .int .i64 0], ?_, v, bs, rfl, ownsRow_putObj h2 _ hK rfl, h3, fun i hi => ?_, hB3.trans ⟨rfl, rfl, rfl, by simp [World.putObj], fun k hk => World.putObj_heap_other (by omega)⟩⟩
    · simp [results, Try.results35, go_sem]
    · have hne : bs.getD i 0 ≠ D := by
        intro e
        have h9 := (h4 i hi).1
        unfold BAt at h9
        rw [e, hK] at h9
        cases h9
      exact (World.putObj_heap_other hne).trans (h4 i hi).1
end Go.Proofs.Ytbhkenphcahifaa

namespace Go.Proofs.Ytbhkenphcahifaa
open Go.RowKit Go.Shelf
attribute [local go_sem] Oper.semAt_some
set_option maxRecDepth 100000
set_option maxHeartbeats 4000000

theorem BAt.bls {w : World} {b : Nat} {l : List Bool} (h : BAt w b l) (hl : l.length ≤ 17592186044416) : Bls w (some ⟨b, 0, none⟩) l :=
  ⟨hl, fun _ => ⟨b, 0, rfl, fun j hj => by
    have h9 := h.cell j hj
    rw [show l.getD j true = l[j] by simp [List.getD, hj]] at h9
    rw [Nat.zero_add]; exact h9⟩⟩
/-- the complement of a side as far as i -/
def cmpB (bs : List Bool) (n i : Nat) : List Bool := (bs.take i).map (!·) ++ List.replicate (n - i) false
theorem cmpB_zero (bs : List Bool) (n : Nat) : cmpB bs n 0 = List.replicate n false := by simp [cmpB]
theorem cmpB_full (bs : List Bool) : cmpB bs bs.length bs.length = bs.map (!·) := by simp [cmpB]
theorem cmpB_len (bs : List Bool) (n i : Nat) (h : i ≤ n) (hb : bs.length = n) : (cmpB bs n i).length = n := by simp [cmpB]; omega
theorem cmpB_set (bs : List Bool) (n i : Nat) (hb : bs.length = n) (h : i < bs.length) : (cmpB bs n i).set i (!bs[i]) = cmpB bs n (i + 1) := by
  apply List.ext_getElem (by simp [cmpB]; omega)
  intro j h1 h2
  simp only [cmpB, List.getElem_set, List.getElem_append, List.length_map, List.length_take, List.getElem_map, List.getElem_take, List.getElem_replicate]
  by_cases hi : i = j
  · subst hi; simp [h]; intro h9; omega
  · by_cases hlt : j < i
    · simp [hi, show j < min i bs.length by omega, show j < min (i + 1) bs.length by omega]
    · simp [hi, show ¬ j < min i bs.length by omega, show ¬ j < min (i + 1) bs.length by omega]
theorem own_rows {B : Nat} {w : World} {v : Value} {n : Nat} {xs : List Value} (h : w.ownsRow B 58 1 v n xs) : ∃ a cap, v = .slice a n cap ∧ ∀ j (hj : j < xs.length), ∃ g, a = some ⟨g, 0, none⟩ ∧ w.cell? ⟨g, j, none⟩ = some xs[j] := by
  obtain ⟨h1, h2⟩ := h
  rcases h2 with ⟨rfl, hn⟩ | ⟨g, cap, cur, rfl, hB, hg, hc, hm, hs, ht⟩
  · exact ⟨none, 0, by rw [hn], fun j hj => by rw [h1, hn] at hj; omega⟩
  · refine ⟨_, cap, rfl, fun j hj => ⟨g, rfl, ?_⟩⟩
    rw [cell_of_row w g _ cur _ _ hg]
    have h9 : xs[j]? = some xs[j] := by simp [hj]
    generalize xs[j] = u at *
    rw [← ht] at h9
    rw [List.getElem?_take] at h9
    split at h9
    · simpa using h9
    · cases h9
theorem NetCuts_ok {w : World} {sa : Option Addr} {l : List Int} (h : Ints w sa l) (sc : Nat) (kind hosts : Int) (hv : vOk kind l hosts) {ba : Option Addr} {bs : List Bool} (hb : Bls w ba bs) (bc : Nat) {n : Nat} (hn : swI kind l = (n : Int)) (hn64 : n ≤ 64) (hlen : bs.length = n) {cut : List Bool → Nat} (hcut : cut (bs.map (!·)) = cut bs) {S : List (Nat → Bool)} (hS2 : S.length ≤ 2000)
    (hA : ∀ W, Below w.heap.size w W → ∀ ba bs c, Bls W ba bs → bs.length = n → Calls Try.prog 34 #[.agg #[.int .i64 kind, .slice sa l.length sc, .int .i64 hosts], .slice ba n c] W fun e w' => e = .returned (.tuple #[.int .i64 ((cut bs : Nat) : Int), .int .i64 0]) ∧ Below W.heap.size W w')
    (hSd : ∀ W, Below w.heap.size w W → Calls Try.prog 35 #[.agg #[.int .i64 kind, .slice sa l.length sc, .int .i64 hosts]] W fun e w' => ∃ (v : Value) (bs : List Nat), e = .returned (.tuple #[v, .int .i64 0]) ∧ w'.ownsRow W.heap.size 58 1 v S.length (bs.map fun b => Value.slice (some ⟨b, 0, none⟩) n n) ∧ bs.length = S.length ∧ (∀ i, i < S.length → BAt w' (bs.getD i 0) ((List.range n).map (S.getD i fun _ => false))) ∧ Below W.heap.size W w')
    (hE : ∀ W, Below w.heap.size w W → ∀ i, i < S.length → Calls Try.prog 36 #[.agg #[.int .i64 kind, .slice sa l.length sc, .int .i64 hosts], .int .i64 (n : Int), .int .i64 (i : Int)] W fun e w' => e = .returned (.int .i64 ((cut ((List.range n).map (S.getD i fun _ => false)) : Nat) : Int)) ∧ Below W.heap.size W w') :
    Calls Try.prog 8 #[.agg #[.int .i64 kind, .slice sa l.length sc, .int .i64 hosts], .slice ba bs.length bc] w fun e w' => e = .returned (.bool true) ∧ Below w.heap.size w w' := by
  have HB := Lib.hid ((Below.refl w.heap.size w).alloc (Nat.le_refl _) (.cells #[.int .i64 kind, .slice sa l.length sc, .int .i64 hosts] 24))
  have Q0 := Lib.hid (heap_alloc_new w (.cells #[.int .i64 kind, .slice sa l.length sc, .int .i64 hosts] 24))
  have c0 := cellR 0 Q0.out rfl
  have c1 := cellR 1 Q0.out rfl
  have c2 := cellR 2 Q0.out rfl
  have H25 := Lib.hid (size_any (h.keep HB.out) sc kind hosts 64)
  have HWK := Lib.hid works_any
  obtain ⟨b1, b2, b3, b4, b5, b6⟩ := v_bound hv
  rw [show szM kind l hosts 64 = swI kind l from if_pos ⟨hv, by omega⟩, show hoM kind l hosts 64 = hoI kind l from if_pos ⟨hv, by omega⟩, hn] at H25
  have hn1 : 1 ≤ n := by omega
  have hnb : ((n : Int) == 0) = false := by simp; omega
  have hmm : ((n : Int) != (n : Int)) = false := by simp
  have hmk := make_bools n (by omega)
  have HBS := Lib.hid (And.intro hb hlen)
  have HA := Lib.hid hA
  have HSD := Lib.hid hSd
  have HE := Lib.hid hE
  have HCUT := Lib.hid hcut
  have HS2 := Lib.hid hS2
  rw [hlen]
  clear h hv hb hn hlen hcut hS2 hA hSd hE b1 b2 b3 b4 b5 b6
  generalize l.length = N at *
  generalize hoI kind l = HO_ at *
  go_enter Try.func8, Try.ntmps8
  go_wp2_with fail
  generalize w.alloc (.cells #[.int .i64 kind, .slice sa N sc, .int .i64 hosts] 24) = X at *
  refine H25.out.mono ?_
  rintro e w1 ⟨rfl, hb⟩
  replace c0 := kcell hb c0
  replace c1 := kcell hb c1
  replace c2 := kcell hb c2
  replace Q0 := Lib.hid (heapB hb Q0.out)
  replace HB := Lib.hid (HB.out.trans (hb.mono HB.out.size))
  clear H25 hb
  go_wp2_with fail
  have HY : Hid (Below w1.heap.size w1 (w1.alloc (.cells (boolA (List.replicate n false)) 4)) ∧ BAt (w1.alloc (.cells (boolA (List.replicate n false)) 4)) w1.heap.size (cmpB bs n 0)) := ⟨(Below.refl _ _).alloc (Nat.le_refl _) _, by rw [cmpB_zero]; exact heap_alloc_new w1 _⟩
  clear hmk hnb hmm c0 c1 c2
  generalize w1.alloc (.cells (boolA (List.replicate n false)) 4) = Y at *
  go_loopw [8] (fun iv wr => ∃ m : Nat, m ≤ n ∧ iv = .int .i64 (m : Int) ∧ Hid (Below w1.heap.size w1 wr ∧ BAt wr w1.heap.size (cmpB bs n m))) (fun iv _ => n - (intOf iv).toNat)
  case atStart => exact ⟨0, Nat.zero_le _, rfl, HY.out⟩
  case round =>
    clear HY
    obtain ⟨m, hm, rfl, HC⟩ := hrel
    by_cases hlt : m < n
    · have d1 : decide ((m : Int) < (n : Int)) = true := decide_eq_true (by omega)
      have hmb : m < bs.length := by rw [HBS.out.2]; exact hlt
      obtain ⟨gb, ob, rfl, hc⟩ := (HBS.out.1.keep (HB.out.trans (HC.out.1.mono HB.out.size))).at_ (ne_nil_of_lt hmb)
      have e1 := hc m hmb
      have HST : Hid ((cmpB bs n m).set m (!bs[m]) = cmpB bs n (m + 1)) := cmpB_set bs n m HBS.out.2 hmb
      have HSB := Lib.hid (HC.out.2.set m (!bs[m]))
      rw [HST.out] at HSB
      have HC2 : Hid (Below w1.heap.size w1 (wr.setCell ⟨w1.heap.size, m, none⟩ (.bool (!bs[m]))) ∧ BAt (wr.setCell ⟨w1.heap.size, m, none⟩ (.bool (!bs[m]))) w1.heap.size (cmpB bs n (m + 1))) := ⟨HC.out.1.setCell (p := ⟨w1.heap.size, m, none⟩) (Nat.le_refl _) _, HSB.out⟩
      have fa := HC.out.2.open_ m
      have la := HC.out.2.lt
      have ca := HC.out.2.cell m (by rw [cmpB_len bs n m hm HBS.out.2]; exact hlt)
      have HWI := Lib.hid (wrap_small ((m : Int) + 1) (by omega) (by omega))
      have HCS : Hid (((m : Int) + 1) = ((m + 1 : Nat) : Int)) := by show _ = _; rw [Int.natCast_add]; rfl
      have HME : Hid (n - (intOf (.int .i64 ((m : Int) + 1))).toNat < n - (intOf (.int .i64 (m : Int))).toNat) := by show _ < _; simp [intOf]; omega
      have HMO : Hid (n - (intOf (.int .i64 (wrap64 ((m : Int) + 1)))).toNat < n - (intOf (.int .i64 (m : Int))).toNat) := by show _ < _; rw [HWI.out]; exact HME.out
      have HK1 : Hid (m + 1 ≤ n) := hlt
      clear hc hm HST HSB HC
      generalize bs[m] = bm at *
      go_wp2_with fail
      go_roundw
      case rel => exact ⟨m + 1, HK1.out, by first | rw [HWI.out, HCS.out] | rw [HCS.out], HC2⟩
      case measure => first | exact HMO.out | exact HME.out
    · obtain rfl : m = n := by omega
      obtain ⟨g, hg⟩ : ∃ g, g = w1.heap.size := ⟨_, rfl⟩
      have HN : Hid (Bls wr (some ⟨g, 0, none⟩) (bs.map (!·))) := by
        have h9 := HC.out.2
        have h8 := HBS.out.2
        rw [← h8, cmpB_full] at h9
        rw [hg]
        exact h9.bls (by simp; omega)
      have HBW : Hid (Below w.heap.size w wr) := HB.out.trans (HC.out.1.mono HB.out.size)
      have HQ : Hid (wr.heap[w.heap.size]? = some (.cells #[.int .i64 kind, .slice sa N sc, .int .i64 hosts] 24 (0, 0))) := heapB HC.out.1 Q0.out
      rw [← hg]
      clear HC Q0 HB hg hm hlt
      generalize wr = V at *
      have k0 := cellR 0 HQ.out rfl
      have k1 := cellR 1 HQ.out rfl
      have k2 := cellR 2 HQ.out rfl
      go_wp2_with fail
      refine (HA.out V HBW.out ba bs bc (HBS.out.1.keep HBW.out) HBS.out.2).mono ?_
      rintro e w2 ⟨rfl, hb2⟩
      have HBW2 : Hid (Below w.heap.size w w2) := HBW.out.trans (hb2.mono HBW.out.size)
      have HQ2 : Hid (w2.heap[w.heap.size]? = some (.cells #[.int .i64 kind, .slice sa N sc, .int .i64 hosts] 24 (0, 0))) := heapB hb2 HQ.out
      have HN2 : Hid (Bls w2 (some ⟨g, 0, none⟩) (bs.map (!·))) := HN.out.keep hb2
      clear k0 k1 k2 HQ HN HBW hb2
      have k0 := cellR 0 HQ2.out rfl
      have k1 := cellR 1 HQ2.out rfl
      have k2 := cellR 2 HQ2.out rfl
      go_wp2_with fail
      refine (HA.out w2 HBW2.out (some ⟨g, 0, none⟩) _ m HN2.out (by rw [List.length_map]; exact HBS.out.2)).mono ?_
      rintro e w3 ⟨rfl, hb3⟩
      have HBW3 : Hid (Below w.heap.size w w3) := HBW2.out.trans (hb3.mono HBW2.out.size)
      have HQ3 : Hid (w3.heap[w.heap.size]? = some (.cells #[.int .i64 kind, .slice sa N sc, .int .i64 hosts] 24 (0, 0))) := heapB hb3 HQ2.out
      rw [HCUT.out]
      clear k0 k1 k2 HQ2 HN2 HBW2 hb3
      have k0 := cellR 0 HQ3.out rfl
      have k1 := cellR 1 HQ3.out rfl
      have k2 := cellR 2 HQ3.out rfl
      go_wp2_with fail
      refine (HSD.out w3 HBW3.out).mono ?_
      rintro e w4 ⟨v, rs, rfl, hrow, hrl, hrb, hb4⟩
      have HBW4 : Hid (Below w.heap.size w w4) := HBW3.out.trans (hb4.mono HBW3.out.size)
      have HQ4 : Hid (w4.heap[w.heap.size]? = some (.cells #[.int .i64 kind, .slice sa N sc, .int .i64 hosts] 24 (0, 0))) := heapB hb4 HQ3.out
      have HRR := Lib.hid (And.intro hrow (And.intro hrl hrb))
      clear k0 k1 k2 HQ3 HBW3 hb4 hrow hrl hrb
      obtain ⟨va, vc, rfl, hcell⟩ := own_rows HRR.out.1
      have HCL := Lib.hid hcell
      clear hcell
      have h0 : ((0 : Int) != 0) = false := by decide
      generalize hCB : cut bs = CB at *
      have hcc : ((CB : Int) != (CB : Int)) = false := by simp
      have HCB := Lib.hid hCB
      clear hCB
      go_wp2_with fail
      clear h0 hcc
      go_loopw [15] (fun iv wr => ∃ i : Nat, i ≤ S.length ∧ iv = .int .i64 (i : Int) ∧ Hid (Below w4.heap.size w4 wr)) (fun iv _ => S.length - (intOf iv).toNat)
      case atStart => exact ⟨0, Nat.zero_le _, rfl, Below.refl _ _⟩
      case round =>
        obtain ⟨i, hi, rfl, HC⟩ := hrel
        by_cases hlt : i < S.length
        · have d1 : decide ((i : Int) < (S.length : Int)) = true := decide_eq_true (by omega)
          have hil : i < rs.length := by rw [HRR.out.2.1]; exact hlt
          obtain ⟨gr, rfl, hcr⟩ := HCL.out i (by rw [List.length_map]; exact hil)
          have hcr2 : w4.cell? ⟨gr, i, none⟩ = some (.slice (some ⟨rs.getD i 0, 0, none⟩) m m) := by rw [hcr]; simp [List.getD, hil]
          have HZ0 := Lib.hid (kcell HC.out hcr2)
          have HBL := Lib.hid (BAt.bls (heapB HC.out (HRR.out.2.2 i hlt)) (by simp; omega))
          have HQ5 := Lib.hid (heapB HC.out HQ4.out)
          have HBW5 : Hid (Below w.heap.size w wr) := HBW4.out.trans (HC.out.mono HBW4.out.size)
          have HA5 := Lib.hid (fun W (hW : Below wr.heap.size wr W) => HA.out W (HBW5.out.trans (hW.mono HBW5.out.size)) _ _ m (HBL.out.keep hW) (by simp))
          have HE5 := Lib.hid (fun W (hW : Below wr.heap.size wr W) => HE.out W (HBW5.out.trans (hW.mono HBW5.out.size)) i hlt)
          have HLT := Lib.hid hlt
          clear hcr hcr2 hil hi
          generalize hCT : cut ((List.range m).map (S.getD i fun _ => false)) = CT at *
          have HCT := Lib.hid hCT
          clear hCT
          generalize hR : rs.getD i 0 = rb at *
          have HR := Lib.hid hR
          clear hR
          go_wp2_with fail
          -- REGION 17
          refine (wpIn_wide (n := 0)).1 ?_
          refine region_det (by kernel_rfl) (I := fun listed a' w' => Hid (Below wr.heap.size wr w') ∧ a' = ⟨#[Value.agg #[Value.int IntKind.i64 kind, Value.slice sa N sc, Value.int IntKind.i64 hosts], Value.slice ba m bc, Value.pointer (some (Addr.mk w.heap.size 0 none)), undef, u4, Value.int IntKind.i64 ↑m, Value.int IntKind.i64 HO_, Value.slice (some (Addr.mk g 0 none)) m m, Value.int IntKind.i64 ↑m, Value.int IntKind.i64 ↑CB, Value.int IntKind.i64 0, Value.int IntKind.i64 ↑CB, Value.int IntKind.i64 0, Value.slice (some (Addr.mk gr 0 none)) S.length vc, Value.int IntKind.i64 0, Value.int IntKind.i64 ↑i, (if listed.getD 9 false = true then Value.int IntKind.i64 ((CT : Nat) : Int) else u16), (if listed.getD 10 false = true then Value.int IntKind.i64 0 else u17), Value.tuple #[Value.int IntKind.i64 ↑m, Value.int IntKind.i64 HO_], Value.agg #[Value.int IntKind.i64 kind, Value.slice sa N sc, Value.int IntKind.i64 hosts], Value.tuple #[Value.int IntKind.i64 ↑m, Value.int IntKind.i64 HO_], Value.int IntKind.i64 ↑m, Value.int IntKind.i64 HO_, Value.int IntKind.i64 ↑m, Value.bool false, Value.bool false, Value.slice ba m bc, Value.int IntKind.i64 ↑m, Value.int IntKind.i64 ↑m, Value.bool false, Value.bool false, undef, Value.int IntKind.i64 ↑m, Value.slice (some (Addr.mk g 0 none)) m m, Value.int IntKind.i64 ↑m, Value.int IntKind.i64 ↑m, Value.bool false, u37, u38, u39, u40, u41, u42, u43, u44, u45, u46, Value.tuple #[Value.int IntKind.i64 ↑CB, Value.int IntKind.i64 0], Value.agg #[Value.int IntKind.i64 kind, Value.slice sa N sc, Value.int IntKind.i64 hosts], Value.slice ba m bc, Value.tuple #[Value.int IntKind.i64 ↑CB, Value.int IntKind.i64 0], Value.int IntKind.i64 ↑CB, Value.int IntKind.i64 0, Value.tuple #[Value.int IntKind.i64 ↑CB, Value.int IntKind.i64 0], Value.agg #[Value.int IntKind.i64 kind, Value.slice sa N sc, Value.int IntKind.i64 hosts], Value.slice (some (Addr.mk g 0 none)) m m, Value.tuple #[Value.int IntKind.i64 ↑CB, Value.int IntKind.i64 0], Value.int IntKind.i64 ↑CB, Value.int IntKind.i64 0, Value.tuple #[Value.slice (some (Addr.mk gr 0 none)) S.length vc, Value.int IntKind.i64 0], Value.agg #[Value.int IntKind.i64 kind, Value.slice sa N sc, Value.int IntKind.i64 hosts], Value.tuple #[Value.slice (some (Addr.mk gr 0 none)) S.length vc, Value.int IntKind.i64 0], Value.slice (some (Addr.mk gr 0 none)) S.length vc, Value.int IntKind.i64 0, Value.int IntKind.i64 0, Value.bool false, Value.bool false, Value.int IntKind.i64 0, Value.bool false, Value.bool false, Value.bool false, Value.int IntKind.i64 0, Value.bool false, Value.bool false, Value.bool false, Value.int IntKind.i64 ↑CB, Value.int IntKind.i64 ↑CB, Value.bool false, Value.bool false, Value.int IntKind.i64 ↑i, Value.slice (some (Addr.mk gr 0 none)) S.length vc, Value.int IntKind.i64 ↑S.length, Value.bool true, u83, u84, (if listed.getD 6 false = true then Value.tuple #[Value.int IntKind.i64 ((CT : Nat) : Int), Value.int IntKind.i64 0] else u85), (if listed.getD 0 false = true then Value.agg #[Value.int IntKind.i64 kind, Value.slice sa N sc, Value.int IntKind.i64 hosts] else u86), (if listed.getD 1 false = true then Value.slice (some (Addr.mk gr 0 none)) S.length vc else u87), (if listed.getD 2 false = true then Value.int IntKind.i64 ((i : Int)) else u88), (if listed.getD 3 false = true then Value.pointer (some (Addr.mk gr i none)) else u89), (if listed.getD 4 false = true then Value.slice (some (Addr.mk rb 0 none)) m m else u90), (if listed.getD 5 false = true then Value.tuple #[Value.int IntKind.i64 ((CT : Nat) : Int), Value.int IntKind.i64 0] else u91), (if listed.getD 7 false = true then Value.int IntKind.i64 ((CT : Nat) : Int) else u92), (if listed.getD 8 false = true then Value.int IntKind.i64 0 else u93), u94, u95, u96, u97, u98, u99, u100, u101, u102, u103, undef], []⟩) (hup_check (by kernel_rfl)) ?h0 ?step ?fin
          case h0 => exact ⟨(Below.refl _ _).drew, rfl⟩
          case step => as_aux_lemma =>
            intro listed a' w' i hs hbi hdep hi ⟨IB, ha⟩
            obtain ⟨ls⟩ := listed
            match ls, hs with
            | [x0, x1, x2, x3, x4, x5, x6, x7, x8, x9, x10], _ =>
            subst ha
            have hi' : i = 0 ∨ i = 1 ∨ i = 2 ∨ i = 3 ∨ i = 4 ∨ i = 5 ∨ i = 6 ∨ i = 7 ∨ i = 8 ∨ i = 9 ∨ i = 10 := by simp at hi; omega
            rcases hi' with rfl | rfl | rfl | rfl | rfl | rfl | rfl | rfl | rfl | rfl | rfl
            · obtain rfl : x0 = false := by simpa using hbi
              refine wpOpIn_load_row rfl rfl 24 _ rfl w.heap.size rfl 24 _ _ _ (heapB IB.out HQ5.out) Try.underlying24 rfl info24 ?_
              exact ⟨IB, rfl⟩
            · obtain rfl : x1 = false := by simpa using hbi
              refine wpOpIn_plain rfl rfl rfl ?_
              exact ⟨IB, rfl⟩
            · obtain rfl : x2 = false := by simpa using hbi
              refine wpOpIn_plain rfl rfl rfl ?_
              exact ⟨IB, rfl⟩
            · obtain rfl : x3 = false := by simpa using hbi
              obtain rfl : x1 = true := hdep _ rfl ⟨1, .data⟩ (by simp) rfl
              obtain rfl : x2 = true := hdep _ rfl ⟨2, .data⟩ (by simp) rfl
              have hlt9 := HLT.out
              refine wpOpIn_plain (v := Value.pointer (some (Addr.mk gr i none))) (w' := w') rfl rfl (by simp [Oper.semAt, execOp, go_sem, hlt9]) ?_
              exact ⟨IB, rfl⟩
            · obtain rfl : x4 = false := by simpa using hbi
              obtain rfl : x3 = true := hdep _ rfl ⟨3, .data⟩ (by simp) rfl
              have c9 := kcell IB.out HZ0.out
              refine wpOpIn_plain (v := Value.slice (some (Addr.mk rb 0 none)) m m) (w' := w') rfl rfl (by simp [Oper.semAt, execOp, go_sem, c9]) ?_
              exact ⟨IB, rfl⟩
            · obtain rfl : x5 = false := by simpa using hbi
              obtain rfl : x0 = true := hdep _ rfl ⟨0, .data⟩ (by simp) rfl
              obtain rfl : x4 = true := hdep _ rfl ⟨4, .data⟩ (by simp) rfl
              refine wpOpIn_call (args := #[Value.agg #[Value.int IntKind.i64 kind, Value.slice sa N sc, Value.int IntKind.i64 hosts], Value.slice (some (Addr.mk rb 0 none)) m m]) rfl rfl (sem_call2 rfl rfl rfl (enters_of Try.func34 (by kernel_rfl) rfl)) (HA5.out w' IB.out) ?_
              rintro e V2 ⟨rfl, hb⟩
              exact ⟨_, rfl, (IB.out.trans (hb.mono IB.out.size)), rfl⟩
            · obtain rfl : x6 = false := by simpa using hbi
              obtain rfl : x5 = true := hdep _ rfl ⟨5, .data⟩ (by simp) rfl
              refine wpOpIn_plain rfl rfl rfl ?_
              exact ⟨IB, rfl⟩
            · obtain rfl : x7 = false := by simpa using hbi
              obtain rfl : x6 = true := hdep _ rfl ⟨6, .data⟩ (by simp) rfl
              refine wpOpIn_plain rfl rfl rfl ?_
              exact ⟨IB, rfl⟩
            · obtain rfl : x8 = false := by simpa using hbi
              obtain rfl : x6 = true := hdep _ rfl ⟨6, .data⟩ (by simp) rfl
              refine wpOpIn_plain rfl rfl rfl ?_
              exact ⟨IB, rfl⟩
            · obtain rfl : x9 = false := by simpa using hbi
              obtain rfl : x7 = true := hdep _ rfl ⟨7, .data⟩ (by simp) rfl
              refine wpOpIn_plain rfl rfl rfl ?_
              exact ⟨IB, rfl⟩
            · obtain rfl : x10 = false := by simpa using hbi
              obtain rfl : x8 = true := hdep _ rfl ⟨8, .data⟩ (by simp) rfl
              refine wpOpIn_plain rfl rfl rfl ?_
              exact ⟨IB, rfl⟩
          case fin =>
          intro listed a' Z hs hall ⟨IB, ha⟩
          obtain ⟨ls⟩ := listed
          match ls, hs with
          | [x0, x1, x2, x3, x4, x5, x6, x7, x8, x9, x10], _ =>
          obtain rfl : x0 = true := hall 0 (by simp)
          obtain rfl : x1 = true := hall 1 (by simp)
          obtain rfl : x2 = true := hall 2 (by simp)
          obtain rfl : x3 = true := hall 3 (by simp)
          obtain rfl : x4 = true := hall 4 (by simp)
          obtain rfl : x5 = true := hall 5 (by simp)
          obtain rfl : x6 = true := hall 6 (by simp)
          obtain rfl : x7 = true := hall 7 (by simp)
          obtain rfl : x8 = true := hall 8 (by simp)
          obtain rfl : x9 = true := hall 9 (by simp)
          obtain rfl : x10 = true := hall 10 (by simp)
          subst ha
          have HZ := IB
          clear IB hall hs HA5
          dsimp only [Exit.then, Exit.inBlock]
          have HQ6 := Lib.hid (heapB HZ.out HQ5.out)
          have HE6 := Lib.hid (HE5.out Z HZ.out)
          have HBZ : Hid (Below w4.heap.size w4 Z) := HC.out.trans (HZ.out.mono HC.out.size)
          have HWI := Lib.hid (wrap_small ((i : Int) + 1) (by omega) (by have := HS2.out; omega))
          have HCS : Hid (((i : Int) + 1) = ((i + 1 : Nat) : Int)) := by show _ = _; rw [Int.natCast_add]; rfl
          have HME : Hid (S.length - (intOf (.int .i64 ((i : Int) + 1))).toNat < S.length - (intOf (.int .i64 (i : Int))).toNat) := by show _ < _; simp [intOf]; omega
          have HMO : Hid (S.length - (intOf (.int .i64 (wrap64 ((i : Int) + 1)))).toNat < S.length - (intOf (.int .i64 (i : Int))).toNat) := by show _ < _; rw [HWI.out]; exact HME.out
          have k0 := cellR 0 HQ6.out rfl
          have k1 := cellR 1 HQ6.out rfl
          have k2 := cellR 2 HQ6.out rfl
          have h0 : ((0 : Int) != 0) = false := by decide
          have hcc : ((CT : Int) != (CT : Int)) = false := by simp
          clear HE5 HQ5 HBL HZ0 HC HZ
          go_wp2_with fail
          refine HE6.out.mono ?_
          rintro e w9 ⟨rfl, hb9⟩
          have HB9 : Hid (Below w4.heap.size w4 w9) := HBZ.out.trans (hb9.mono HBZ.out.size)
          clear hb9 HE6 k0 k1 k2
          go_wp2_with fail
          go_roundw
          case rel => exact ⟨i + 1, HLT.out, by first | rw [HWI.out, HCS.out] | rw [HCS.out], HB9⟩
          case measure => first | exact HMO.out | exact HME.out
        · obtain rfl : i = S.length := by omega
          have d1 : decide ((S.length : Int) < (S.length : Int)) = false := decide_eq_false (by omega)
          have HBE : Hid (Below w.heap.size w wr) := HBW4.out.trans (HC.out.mono HBW4.out.size)
          go_wp2_with fail
          refine (HWK.out wr).mono ?_
          rintro e w9 ⟨rfl, hb9⟩
          have HB9 : Hid (Below w.heap.size w w9) := HBE.out.trans (hb9.mono HBE.out.size)
          clear hb9
          go_wp2_with fail
          go_ret
          exact ⟨rfl, HB9.out⟩
end Go.Proofs.Ytbhkenphcahifaa

namespace Go.Proofs.Ytbhkenphcahifaa
open Go.RowKit Go.Shelf
attribute [local go_sem] Oper.semAt_some
set_option maxRecDepth 100000
set_option maxHeartbeats 4000000

theorem lkL_len {NB : Int → List Int} {c : Nat} : ∀ n, (∀ x : Nat, x < n → (NB (x : Int)).length ≤ c) → (lkL NB n).length ≤ n * c
  | 0, _ => by simp [lkL]
  | n + 1, h => by
    rw [lkL, List.length_append, Nat.add_mul, Nat.one_mul]
    have h1 := lkL_len n (fun x hx => h x (by omega))
    have h2 : (selL (n : Int) (NB (n : Int))).length ≤ (NB (n : Int)).length := by unfold selL; rw [List.length_map]; exact List.length_filter_le _ _
    have h3 := h n (by omega)
    omega
theorem lkL_in {NB : Int → List Int} {m : Nat} : ∀ n, (∀ x : Nat, x < n → ∀ y ∈ NB (x : Int), 0 ≤ y ∧ y.toNat < m) → n ≤ m → ∀ p ∈ lkL NB n, 0 ≤ p.1 ∧ p.1 < (m : Int) ∧ 0 ≤ p.2 ∧ p.2 < (m : Int)
  | 0, _, _ => fun p hp => by simp [lkL] at hp
  | n + 1, h, hm => fun p hp => by
    rw [lkL, List.mem_append] at hp
    rcases hp with hp | hp
    · exact lkL_in n (fun x hx => h x (by omega)) (by omega) p hp
    · unfold selL at hp
      obtain ⟨y, hy, rfl⟩ := List.mem_map.1 hp
      have := h n (by omega) y ((List.mem_filter.1 hy).1)
      simp only
      omega
theorem cuts_of {w : World} {sa : Option Addr} {l : List Int} (h : Ints w sa l) (sc : Nat) (kind hosts : Int) (hv : vOk kind l hosts) {ba : Option Addr} {bs : List Bool} (hb : Bls w ba bs) (bc : Nat) {n : Nat} (hn : swI kind l = (n : Int)) (hn64 : n ≤ 64) (hlen : bs.length = n) {S : List (Nat → Bool)} (hS2 : S.length ≤ 2000)
    (hc : ∀ x : Nat, x < n → (nbS kind l (x : Int)).length ≤ 1000) (hin : ∀ x : Nat, x < n → ∀ y ∈ nbS kind l (x : Int), 0 ≤ y ∧ y.toNat < n) {ty fs fm : Nat} {rcv : Value} {ho : Int} (hnv : netV kind sa sc l = .iface ty rcv) (hnf : ∀ W, Below w.heap.size w W → NetF W ty fs fm rcv n ho S)
    (hE : ∀ W, Below w.heap.size w W → ∀ i, i < S.length → Calls Try.prog 36 #[.agg #[.int .i64 kind, .slice sa l.length sc, .int .i64 hosts], .int .i64 (n : Int), .int .i64 (i : Int)] W fun e w' => e = .returned (.int .i64 ((cutN ((List.range n).map (S.getD i fun _ => false)) (nbS kind l) n : Nat) : Int)) ∧ Below W.heap.size W w') :
    Calls Try.prog 8 #[.agg #[.int .i64 kind, .slice sa l.length sc, .int .i64 hosts], .slice ba bs.length bc] w fun e w' => e = .returned (.bool true) ∧ Below w.heap.size w w' := by
  have hll := lkL_len (NB := nbS kind l) n hc
  refine NetCuts_ok h sc kind hosts hv hb bc hn hn64 hlen (cut := fun bs => cutN bs (nbS kind l) n) (cutN_not bs n (by omega) (by rw [hlen]; exact hin)) (S := S) hS2 ?_ (fun W hW => Sides_ok (h.keep hW) sc kind hosts hv hnv (hnf W hW) (by omega) hS2) hE
  intro W hW ba bs c hb hl
  have := Across_ok (h.keep hW) hb sc c kind hosts hv (by rw [hl, hn]) (L := lkL (nbS kind l) n) (by rw [hn]; rfl) (by omega) (by rw [hn]; exact lkL_in n hin (Nat.le_refl _))
  rw [hl, cutL_eq] at this
  exact this
/-- nothing is valid, or the side has another length -/
theorem NetCuts_bad {w : World} {sa : Option Addr} {l : List Int} (h : Ints w sa l) (sc : Nat) (kind hosts : Int) {ba : Option Addr} {k : Nat} (bc : Nat) (hbad : szM kind l hosts 64 = 0 ∨ (k : Int) ≠ szM kind l hosts 64) :
    Calls Try.prog 8 #[.agg #[.int .i64 kind, .slice sa l.length sc, .int .i64 hosts], .slice ba k bc] w fun e w' => e = .returned (.bool true) ∧ Below w.heap.size w w' := by
  have HB := Lib.hid ((Below.refl w.heap.size w).alloc (Nat.le_refl _) (.cells #[.int .i64 kind, .slice sa l.length sc, .int .i64 hosts] 24))
  have Q0 := Lib.hid (heap_alloc_new w (.cells #[.int .i64 kind, .slice sa l.length sc, .int .i64 hosts] 24))
  have c0 := cellR 0 Q0.out rfl
  have c1 := cellR 1 Q0.out rfl
  have c2 := cellR 2 Q0.out rfl
  have H25 := Lib.hid (size_any (h.keep HB.out) sc kind hosts 64)
  have HWK := Lib.hid works_any
  clear h
  generalize l.length = N at *
  generalize szM kind l hosts 64 = M at *
  generalize hoM kind l hosts 64 = HO_ at *
  by_cases hz : M = 0
  · subst hz
    have h0 : ((0 : Int) == 0) = true := by decide
    clear hbad
    go_enter Try.func8, Try.ntmps8
    go_wp2_with fail
    generalize w.alloc (.cells #[.int .i64 kind, .slice sa N sc, .int .i64 hosts] 24) = X at *
    refine H25.out.mono ?_
    rintro e w1 ⟨rfl, hb⟩
    replace HB := Lib.hid (HB.out.trans (hb.mono HB.out.size))
    clear H25 hb c0 c1 c2
    go_wp2_with fail
    refine (HWK.out w1).mono ?_
    rintro e w9 ⟨rfl, hb9⟩
    have HB9 : Hid (Below w.heap.size w w9) := HB.out.trans (hb9.mono HB.out.size)
    clear hb9
    go_wp2_with fail
    go_ret
    exact ⟨rfl, HB9.out⟩
  · have h0 : (M == 0) = false := by simpa using hz
    have h1 : ((k : Int) != M) = true := by rcases hbad with hbad | hbad; exact absurd hbad hz; simpa using hbad
    clear hbad hz
    go_enter Try.func8, Try.ntmps8
    go_wp2_with fail
    generalize w.alloc (.cells #[.int .i64 kind, .slice sa N sc, .int .i64 hosts] 24) = X at *
    refine H25.out.mono ?_
    rintro e w1 ⟨rfl, hb⟩
    replace HB := Lib.hid (HB.out.trans (hb.mono HB.out.size))
    clear H25 hb c0 c1 c2
    go_wp2_with fail
    refine (HWK.out w1).mono ?_
    rintro e w9 ⟨rfl, hb9⟩
    have HB9 : Hid (Below w.heap.size w w9) := HB.out.trans (hb9.mono HB.out.size)
    clear hb9
    go_wp2_with fail
    go_ret
    exact ⟨rfl, HB9.out⟩
end Go.Proofs.Ytbhkenphcahifaa

namespace Go.Proofs.Ytbhkenphcahifaa
open Go.RowKit Go.Shelf
attribute [local go_sem] Oper.semAt_some
set_option maxRecDepth 100000
set_option maxHeartbeats 4000000

theorem NetCuts_1 {w : World} {sa : Option Addr} {l : List Int} (h : Ints w sa l) (sc : Nat) (hosts : Int) (hv : vOk 1 l hosts) {ba : Option Addr} {bs : List Bool} (hb : Bls w ba bs) (bc : Nat) {n : Nat} (hn : swI 1 l = (n : Int)) (hn64 : n ≤ 64) (hlen : bs.length = n) :
    Calls Try.prog 8 #[.agg #[.int .i64 1, .slice sa l.length sc, .int .i64 hosts], .slice ba bs.length bc] w fun e w' => e = .returned (.bool true) ∧ Below w.heap.size w w' := by
  obtain ⟨⟨h1, h2⟩, hs⟩ := tOk_sides (torus_v hv)
  have hp : swI 1 l = prodI l := rfl
  have hpn : prodI l = (n : Int) := by rw [← hp]; exact hn
  have hnb : ∀ x, nbS 1 l x = nbL l x := fun x => rfl
  have hsl : (stdK l).length = l.length := by simp [stdK]
  refine cuts_of h sc 1 hosts hv hb bc hn hn64 hlen (S := stdK l) (by omega) ?_ ?_ (ty := 105) (fs := 99) (fm := 98) (rcv := .agg #[.slice sa l.length sc, .int .i64 (prodI l)]) (ho := hoI 1 l) rfl ?_ ?_
  · intro x hx
    rw [hnb]
    have h3 := Lib.compact_length_le (sortL (nbK l (x : Int) l.length))
    rw [sort_len, nbK_len] at h3
    unfold nbL
    omega
  · intro x hx y hy
    have := nbL_in hs (x := (x : Int)) (by omega) (by omega) y hy
    omega
  · intro W hW
    refine ⟨fun W => m_size1 sa l.length sc (prodI l) W, fun W => m_sides1 sa l.length sc (prodI l) W, enters_of Try.func99 (by kernel_rfl) rfl, enters_of Try.func98 (by kernel_rfl) rfl, fun W2 hW2 => ?_, fun W2 hW2 => sides_make1 hs h2 (by omega) sc n hpn.symm (h.keep hW) hW2⟩
    have := sizeT_any sa l.length sc (prodI l) W2
    rw [show hoI 1 l = prodI l from rfl, hpn]
    rw [hpn] at this
    exact this
  · intro W hW i hi
    rw [hsl] at hi
    obtain ⟨s1, s2⟩ := hs i hi
    have e1 := exp1_any (h.keep hW) sc hosts n i (by omega) hi s1 s2
    have e2 := cutK_all hs hi hpn
    have e3 : (List.range n).map ((stdK l).getD i fun _ => false) = sdK l i n := by
      have hi2 : i < (stdK l).length := by rw [hsl]; exact hi
      rw [show (stdK l).getD i (fun _ => false) = (stdK l)[i] by simp [List.getD, hi2], stdK_at hi2]
      rfl
    rw [e3]
    show Calls _ _ _ _ fun e w' => e = .returned (.int .i64 ((cutN (sdK l i n) (nbL l) n : Nat) : Int)) ∧ _
    rw [e2]
    exact e1
/-- which side of a tree a number names -/
theorem fst2_split (k : Nat) : ∀ J i, i < fst2 k J → ∃ j v, j < J ∧ v < k ^ (j + 1) ∧ i = fst2 k j + v
  | 0, i, h => by simp [fst2] at h
  | J + 1, i, h => by
    by_cases hlt : i < fst2 k J
    · obtain ⟨j, v, h1, h2, h3⟩ := fst2_split k J i hlt
      exact ⟨j, v, by omega, h2, h3⟩
    · exact ⟨J, i - fst2 k J, by omega, by rw [fst2] at h; omega, by omega⟩
theorem nbT_len (k lv : Nat) (x : Int) : (nbT k lv x).length ≤ 2 * k := by
  unfold nbT lvT
  rw [List.length_append]
  have h1 : ∀ (p : Prop) [Decidable p] (A : List Int), A.length = k → (if p then A else []).length ≤ k := fun p _ A hA => by split <;> simp [hA]
  have := h1 (0 < (x / ((k ^ (lv - 1) : Nat) : Int)).toNat) _ (dnT_len k ((k ^ (lv - 1) : Nat) : Int) ((x / ((k ^ (lv - 1) : Nat) : Int)).toNat - 1) (x % ((k ^ (lv - 1) : Nat) : Int)) k)
  have := h1 ((x / ((k ^ (lv - 1) : Nat) : Int)).toNat < lv - 1) _ (upT_len k ((k ^ (lv - 1) : Nat) : Int) ((x / ((k ^ (lv - 1) : Nat) : Int)).toNat) (x % ((k ^ (lv - 1) : Nat) : Int)) k)
  omega
theorem NetCuts_2 {w : World} {sa : Option Addr} {l : List Int} (h : Ints w sa l) (sc : Nat) (hosts : Int) (hv : vOk 2 l hosts) {ba : Option Addr} {bs : List Bool} (hb : Bls w ba bs) (bc : Nat) {n : Nat} (hn : swI 2 l = (n : Int)) (hn64 : n ≤ 64) (hlen : bs.length = n) :
    Calls Try.prog 8 #[.agg #[.int .i64 2, .slice sa l.length sc, .int .i64 hosts], .slice ba bs.length bc] w fun e w' => e = .returned (.bool true) ∧ Below w.heap.size w w' := by
  have hr : rOk l hosts := by
    rcases hv with ⟨h0, h1⟩ | ⟨h0, h1⟩ | ⟨h0, h1⟩
    · cases h0
    · exact h1
    · cases h0
  have hwb := words_bound hr
  obtain ⟨hl2, ⟨r1, r2⟩, ⟨r3, r4⟩, r5, _⟩ := hr
  obtain ⟨k, hk⟩ := Int.eq_ofNat_of_zero_le (show 0 ≤ l.getD 0 0 by omega)
  obtain ⟨L1, hL1⟩ := Int.eq_ofNat_of_zero_le (show 0 ≤ l.getD 1 0 - 1 by omega)
  have hlv : l.getD 1 0 = ((L1 + 1 : Nat) : Int) := by omega
  have hww : wordsI l = ((k ^ L1 : Nat) : Int) := by
    unfold wordsI; rw [hk, hlv]; simp
  have hnn : (L1 + 1) * k ^ L1 = n := by
    have h9 : swI 2 l = l.getD 1 0 * wordsI l := rfl
    rw [hn, hlv, hww] at h9
    have h8 : ((n : Nat) : Int) = (((L1 + 1) * k ^ L1 : Nat) : Int) := by rw [h9]; simp
    omega
  have hk5 : k ^ (L1 + 1) ≤ 256 := by rw [hk, hlv] at r5; simpa using r5
  have hkk : ∀ a, a ≤ L1 + 1 → k ^ a ≤ 256 := fun a ha => Nat.le_trans (Nat.pow_le_pow_right (by omega) ha) hk5
  have hnb : ∀ x, nbS 2 l x = nbT k (L1 + 1) x := fun x => by
    show nbT (l.getD 0 0).toNat (l.getD 1 0).toNat x = _
    rw [hk, hlv]; simp
  have hsl : (stdT k (L1 + 1)).length = fst2 k L1 := stdTn_len k (L1 + 1) L1
  have hf2 := fst2_le (k := k) (n := L1 + 1) hkk L1 (by omega)
  have hcn : nbS 2 l = nbT k (L1 + 1) := funext hnb
  refine cuts_of h sc 2 hosts hv hb bc hn hn64 hlen (S := stdT k (L1 + 1)) (by omega) ?_ ?_ (ty := 109) (fs := 140) (fm := 139) (rcv := .agg #[.int .i64 (k : Int), .int .i64 ((L1 : Int) + 1), .int .i64 ((k ^ L1 : Nat) : Int)]) (ho := hoI 2 l) ?_ ?_ ?_
  · intro x hx
    rw [hnb]
    have := nbT_len k (L1 + 1) (x : Int)
    omega
  · intro x hx y hy
    rw [hnb] at hy
    have := nbT_in (k := k) (lv := L1 + 1) (by omega) (by omega) (by omega) (by omega) (by simp only [Nat.add_sub_cancel]; omega) (x := x) (by simp only [Nat.add_sub_cancel]; omega) y hy
    simp only [Nat.add_sub_cancel] at this
    omega
  · show netV 2 sa sc l = _
    rw [show netV 2 sa sc l = .iface 109 (.agg #[.int .i64 (l.getD 0 0), .int .i64 (l.getD 1 0), .int .i64 (wordsI l)]) from rfl, hk, hww, show l.getD 1 0 = (L1 : Int) + 1 by omega]
  · intro W hW
    refine ⟨fun W => m_size2 _ _ _ W, fun W => m_sides2 _ _ _ W, enters_of Try.func140 (by kernel_rfl) rfl, enters_of Try.func139 (by kernel_rfl) rfl, fun W2 hW2 => ?_, fun W2 hW2 => sides_make2 k L1 (by omega) (by omega) (by omega) (fun a ha => hkk a (by omega)) n (by omega) W W2⟩
    have := sizeR_any (k : Int) ((L1 : Int) + 1) ((k ^ L1 : Nat) : Int) (by omega) (by omega) (by omega) (by omega) W2
    rw [show hoI 2 l = wordsI l from rfl, hww]
    rw [show ((L1 : Int) + 1) * ((k ^ L1 : Nat) : Int) = (n : Int) by rw [← hnn]; simp] at this
    exact this
  · intro W hW i hi
    rw [hsl] at hi
    obtain ⟨j, v, hj, hv2, rfl⟩ := fst2_split k L1 i hi
    have e1 := exp2_any (h.keep hW) sc hosts n k (L1 + 1) j v hl2 hk hlv (by omega) (by omega) (by omega) (by omega) hv2 hkk
    have hi2 : fst2 k j + v < (stdT k (L1 + 1)).length := by rw [hsl]; exact hi
    have e3 : (List.range n).map ((stdT k (L1 + 1)).getD (fst2 k j + v) fun _ => false) = sdT k (L1 + 1) (L1 + 1 - 1 - j) v := by
      rw [show (stdT k (L1 + 1)).getD (fst2 k j + v) (fun _ => false) = (stdT k (L1 + 1))[fst2 k j + v] by simp [List.getD, hi2], show (stdT k (L1 + 1))[fst2 k j + v] = lvlT k (L1 + 1) j v from stdTn_at k (L1 + 1) hv2 L1 hj hi2]
      unfold sdT
      rw [show (L1 + 1) * k ^ (L1 + 1 - 1) = n from hnn]
      rfl
    have e2 := cutT_all (k := k) (lv := L1 + 1) (by omega) (by omega) (by omega) (by omega) (by rw [show L1 + 1 - 1 = L1 by omega]; omega) (level := L1 + 1 - 1 - j) (v := v) (by omega) (by omega) (by rw [show L1 + 1 - (L1 + 1 - 1 - j) = j + 1 by omega]; exact hv2)
    rw [show (L1 + 1) * k ^ (L1 + 1 - 1) = n from hnn] at e2
    rw [e3, hcn, e2]
    exact e1
end Go.Proofs.Ytbhkenphcahifaa

namespace Go.Proofs.Ytbhkenphcahifaa
open Go.RowKit Go.Shelf
attribute [local go_sem] Oper.semAt_some
set_option maxRecDepth 100000
set_option maxHeartbeats 4000000

theorem nbD_perm (a h : Nat) (x : Int) : (nbD a h x).Perm (nbD0 a h x) := List.mergeSort_perm _ _
theorem NetCuts_3 {w : World} {sa : Option Addr} {l : List Int} (h : Ints w sa l) (sc : Nat) (hosts : Int) (hv : vOk 3 l hosts) {ba : Option Addr} {bs : List Bool} (hb : Bls w ba bs) (bc : Nat) {n : Nat} (hn : swI 3 l = (n : Int)) (hn64 : n ≤ 64) (hlen : bs.length = n) :
    Calls Try.prog 8 #[.agg #[.int .i64 3, .slice sa l.length sc, .int .i64 hosts], .slice ba bs.length bc] w fun e w' => e = .returned (.bool true) ∧ Below w.heap.size w w' := by
  have hr : dOk l hosts := by
    rcases hv with ⟨h0, h1⟩ | ⟨h0, h1⟩ | ⟨h0, h1⟩
    · cases h0
    · cases h0
    · exact h1
  obtain ⟨hl2, _, ⟨r1, r2⟩, ⟨r3, r4⟩, r5⟩ := hr
  obtain ⟨a, ha⟩ := Int.eq_ofNat_of_zero_le (show 0 ≤ l.getD 0 0 by omega)
  obtain ⟨q, hq⟩ := Int.eq_ofNat_of_zero_le (show 0 ≤ l.getD 1 0 by omega)
  have hG : l.getD 0 0 * l.getD 1 0 + 1 = ((a * q + 1 : Nat) : Int) := by rw [ha, hq]; simp
  have hnn : a * (a * q + 1) = n := by
    have h9 : swI 3 l = l.getD 0 0 * (l.getD 0 0 * l.getD 1 0 + 1) := rfl
    rw [hn, hG, ha] at h9
    have h8 : ((n : Nat) : Int) = ((a * (a * q + 1) : Nat) : Int) := by rw [h9]; simp
    omega
  have haq : a * 1 ≤ a * q := Nat.mul_le_mul_left a (by omega)
  have ha8 : a < 8 := by
    by_cases h8 : a < 8
    · exact h8
    · have := Nat.mul_le_mul (show 8 ≤ a by omega) (show 9 ≤ a * q + 1 by omega)
      omega
  have hq16 : a * q ≤ 16 * 4 := Nat.mul_le_mul (by omega) (by omega)
  have hnb : ∀ x, nbS 3 l x = nbD a q x := fun x => by
    show nbD (l.getD 0 0).toNat (l.getD 1 0).toNat x = _
    rw [ha, hq]; simp
  have hcn : nbS 3 l = nbD a q := funext hnb
  have hsl : (stdD a (a * q + 1)).length = a * q + 1 := by simp [stdD]
  refine cuts_of h sc 3 hosts hv hb bc hn hn64 hlen (S := stdD a (a * q + 1)) (by omega) ?_ ?_ (ty := 113) (fs := 154) (fm := 153) (rcv := .agg #[.int .i64 (a : Int), .int .i64 (q : Int), .int .i64 ((a * q + 1 : Nat) : Int)]) (ho := hoI 3 l) ?_ ?_ ?_
  · intro x hx
    rw [hnb, (nbD_perm a q x).length_eq]
    unfold nbD0
    rw [List.length_append, dgB_len]
    have := dgA_len (a : Int) ((x : Int) / (a : Int)) ((x : Int) % (a : Int)) a
    omega
  · intro x hx y hy
    rw [hnb] at hy
    have := nbD_in (a := a) (h := q) (by omega) (by omega) ha8 (by omega) (by omega) (x := x) (by omega) y ((nbD_perm a q x).mem_iff.1 hy)
    omega
  · show netV 3 sa sc l = _
    rw [show netV 3 sa sc l = .iface 113 (.agg #[.int .i64 (l.getD 0 0), .int .i64 (l.getD 1 0), .int .i64 (l.getD 0 0 * l.getD 1 0 + 1)]) from rfl, hG, ha, hq]
  · intro W hW
    refine ⟨fun W => m_size3 _ _ _ W, fun W => m_sides3 _ _ _ W, enters_of Try.func154 (by kernel_rfl) rfl, enters_of Try.func153 (by kernel_rfl) rfl, fun W2 hW2 => ?_, fun W2 hW2 => sides_make3 a (a * q + 1) n (q : Int) (by omega) (by omega) (by omega) (by omega) W W2⟩
    have := sizeD_any (a : Int) (q : Int) ((a * q + 1 : Nat) : Int) (by omega) (by omega) (by omega) (by omega) W2
    rw [show (a : Int) * ((a * q + 1 : Nat) : Int) = (n : Int) by rw [← hnn, Int.natCast_mul]] at this
    rw [show hoI 3 l = swI 3 l from rfl, hn]
    exact this
  · intro W hW g hg
    rw [hsl] at hg
    have e1 := exp3_any (h.keep hW) sc hosts n g hl2 ⟨r1, r2⟩ ⟨r3, r4⟩
    have hg2 : g < (stdD a (a * q + 1)).length := by rw [hsl]; exact hg
    have e3 : (List.range n).map ((stdD a (a * q + 1)).getD g fun _ => false) = sdD a n g := by
      rw [show (stdD a (a * q + 1)).getD g (fun _ => false) = (stdD a (a * q + 1))[g] by simp [List.getD, hg2], stdD_at hg2]
      rfl
    have e2 := cutD_all (a := a) (h := q) (by omega) (by omega) ha8 (by omega) (by omega) hg
    rw [hnn] at e2
    rw [e3, hcn, cutN_perm (NB := nbD a q) (NB' := nbD0 a q) (sdD a n g) n (fun x _ => nbD_perm a q x), e2]
    rw [ha, hq, ← Int.natCast_mul] at e1
    exact e1
/-- NetCuts returns true at every description of a network and side -/
theorem NetCuts_done {w : World} {sa : Option Addr} {l : List Int} (h : Ints w sa l) (sc : Nat) (kind hosts : Int) {ba : Option Addr} {bs : List Bool} (hb : Bls w ba bs) (bc : Nat) :
    Calls Try.prog 8 #[.agg #[.int .i64 kind, .slice sa l.length sc, .int .i64 hosts], .slice ba bs.length bc] w fun e w' => e = .returned (.bool true) ∧ Below w.heap.size w w' := by
  by_cases hm : vOk kind l hosts ∧ swI kind l ≤ 64
  · obtain ⟨b1, b2, b3, b4, b5, b6⟩ := v_bound hm.1
    obtain ⟨n, hn⟩ := Int.eq_ofNat_of_zero_le (show 0 ≤ swI kind l by omega)
    by_cases hlen : bs.length = n
    · have hn64 : n ≤ 64 := by omega
      rcases v_kind hm.1 with rfl | rfl | rfl
      · exact NetCuts_1 h sc hosts hm.1 hb bc hn hn64 hlen
      · exact NetCuts_2 h sc hosts hm.1 hb bc hn hn64 hlen
      · exact NetCuts_3 h sc hosts hm.1 hb bc hn hn64 hlen
    · exact NetCuts_bad h sc kind hosts bc (.inr (by rw [show szM kind l hosts 64 = swI kind l from if_pos hm, hn]; omega))
  · exact NetCuts_bad h sc kind hosts bc (.inl (if_neg hm))
end Go.Proofs.Ytbhkenphcahifaa

namespace Go.Proofs.Ytbhkenphcahifaa
open Go.ChangeShapes Go.WideShapes Go.ChangeAt Go.RowKit Go.Deep

theorem Try.cells4 : Try.prog.cellsOf 4 = 1 := by kernel_rfl
theorem Try.bytes4 : Try.prog.bytesOf 4 = 1 := by kernel_rfl
theorem Try.und4 : Try.prog.underlying 4 = some .bool := by kernel_rfl
/-- a slice of truth values of any length -/
structure BoolsR (w : World) (a : Option Addr) (l : List Bool) : Prop where
  len : l.length ≤ 140737488355328
  at_ : l ≠ [] → ∃ b off, a = some ⟨b, off, none⟩ ∧ ∀ j (h : j < l.length), w.cell? ⟨b, off + j, none⟩ = some (.bool l[j])
theorem bools_at {w : World} {a : Addr} {n : Nat} {B : Nat → Bool} (h : ∀ i, i < n → w.cell? (a.add i) = some (.bool (B i))) (hp : 0 < n) :
    ∃ b off, a = ⟨b, off, none⟩ ∧ ∀ j, j < n → w.cell? ⟨b, off + j, none⟩ = some (.bool (B j)) := by
  obtain ⟨b, off, spot⟩ := a
  have hspot : spot = none := by simpa [Addr.add] using World.cell?_spot (h 0 hp)
  subst hspot
  refine ⟨b, off, rfl, fun j hj => ?_⟩
  have := h j hj
  have e : (⟨b, off, none⟩ : Addr).add j = ⟨b, off + j, none⟩ := by unfold Addr.add; split <;> simp_all
  rwa [e] at this
/-- an argument that is a slice of truth values -/
theorem bools_of_trod {H : Type} {enc : TypeId × Value → H} {W : World} {x : Option Addr} {len cap : Nat} {d : DataW H} {ps : List MemPlace} (h : DataW.Trod enc Try.prog W 0 (fun _ => true) true 58 (.slice x len cap) d ps)
    (hs : ∀ es sp, d = .slice es sp → (es.length + sp.length) * Try.prog.bytesOf 4 ≤ reachBytes) :
    ∃ l : List Bool, l.length = len ∧ BoolsR W x l := by
  obtain ⟨fuel, hf⟩ := h
  rcases open_bools Try.underlying58 Try.und4 Try.cells4 hf with ⟨hcs, hx⟩ | ⟨a, len', cap', B, hcs, _, hl, hm, hx, hcell⟩
  · have e : (Value.slice x len cap) = .slice none 0 0 := by simpa [Value.cells] using hcs
    cases e
    exact ⟨[], rfl, ⟨by simp, fun hl => absurd rfl hl⟩⟩
  · have e : (Value.slice x len cap) = .slice (some a) len' cap' := by simpa [Value.cells] using hcs
    cases e
    have hd1 : d = boolRow (some a) len cap B := congrArg Prod.fst hx
    have hlb : len ≤ 140737488355328 := by
      have := hs _ _ (by rw [hd1]; rfl)
      rw [Try.bytes4] at this
      simp [reachBytes] at this
      omega
    refine ⟨(List.range len).map B, by simp, ⟨by simpa using hlb, fun hne => ?_⟩⟩
    have hp : 0 < len := by
      cases len with
      | zero => simp at hne
      | succ _ => simp
    obtain ⟨b, off, rfl, hc⟩ := bools_at hcell (by omega : 0 < cap)
    refine ⟨b, off, rfl, fun j hj => ?_⟩
    simp at hj
    rw [hc j (by omega)]
    simp
theorem NetCuts_walk {w : World} {sa : Option Addr} {l : List Int} (h : Ints w sa l) (sc : Nat) (kind hosts : Int) {ba : Option Addr} {bs : List Bool} (hb : BoolsR w ba bs) (bc : Nat) :
    Calls Try.prog 8 #[.agg #[.int .i64 kind, .slice sa l.length sc, .int .i64 hosts], .slice ba bs.length bc] w fun e w' => e = .returned (.bool true) ∧ Below w.heap.size w w' := by
  by_cases hl : bs.length ≤ 17592186044416
  · exact NetCuts_done h sc kind hosts ⟨hl, hb.at_⟩ bc
  · refine NetCuts_bad h sc kind hosts bc (.inr ?_)
    unfold szM
    split
    · omega
    · omega
end Go.Proofs.Ytbhkenphcahifaa

namespace Go.Proofs.Ytbhkenphcahifaa.netCuts
open Go.ChangeShapes Go.WideShapes Go.ChangeAt Go.RowKit

set_option maxRecDepth 100000 in
theorem lifted (os : Os) (started : os.Started) (H : Type) (enc : TypeId × Value → H) :
    ReturnsInHanded {} Try.checked os 8 .any (Rows.netCutsSpec.pre6 enc Try.prog Try.f8 Rows.netCutsRow.domain false) (Rows.netCutsSpec.post enc Try.prog Try.f8 false true false false) := by
  refine returnsInHanded_of_change_sized (C := Try.checked) own started (by kernel_rfl) Try.func8
    (ChangeSpec.witness6 (enc := enc) (C := Try.checked) false ⟨#[], #[.agg #[.int .i64 0, .slice none 0 0, .int .i64 0], .slice none 0 0], []⟩ 8 (by kernel_rfl) (by kernel_rfl) (by kernel_rfl) (by kernel_rfl)) ?_
  intro W base args ds gs before hval0 hW hcnd hsz0 _
  have hval : ∀ (j : Nat) t v, Try.f8.params[j]? = some t → args[j]? = some v → Value.okWide Try.prog W .any base t v := hval0
  have hsz : (DataW.weightsEach Try.prog (Try.f8.params.toList ++ Rows.netCutsSpec.plain.varTypes Try.prog) (ds ++ gs)).all (· ≤ reachBytes) = true := hsz0
  have hW' := hW
  obtain ⟨p, q, hA0, hV, rfl, hfz, hnd⟩ := hW
  have hA : DataW.TrodAll enc Try.prog W 0 (fun _ => true) true Try.f8.params.toList args.toList ds p := hA0
  have hA1 := hA
  rw [Try.params8] at hA hval hsz
  obtain ⟨v0, vs0, d0, ds0, p0, q0, hargs, rfl, rfl, h0, r0⟩ := trodAll_cons hA
  obtain ⟨v1, vs1, d1, ds1, p1, q1, rfl, rfl, rfl, h1, r1⟩ := trodAll_cons r0
  obtain ⟨rfl, rfl, rfl⟩ := trodAll_nil r1
  obtain rfl : args = #[v0, v1] := by cases args; simp_all
  obtain ⟨rfl, rfl⟩ := trodVars_none hV
  obtain ⟨k0, o0, x0, cap0, l0, rfl, hc0, hn0, hI0, hw0, wk0, wo0⟩ := spec_of_trod (hval 0 24 v0 rfl rfl) h0 (j := 0) hsz rfl rfl
  obtain ⟨x1, len1, cap1, rfl⟩ := okWide_slice Try.underlying58 (hval 1 58 v1 rfl rfl)
  obtain ⟨l1, rfl, hI1⟩ := bools_of_trod h1 (fun es sp e => sized_slice hsz (j := 1) (t := 58) (e := 4) rfl (by rw [e]; rfl) Try.underlying58)
  refine (NetCuts_walk hI0 cap0 k0 o0 hI1 cap1).mono fun e W' ⟨he, hb⟩ => ?_
  subst he
  have hlt : ∀ x ∈ (p0 ++ (p1 ++ [])), x.block < W.heap.size := fun x hx => hW'.lt x (by simpa using hx)
  refine ⟨_, rfl, _, _, _, [], _, [], hW', (trodAll_cons_mk (shut_bool Try.underlying4 _) trodAll_mk0), below_trodAll hb _ ?_ hA1 hlt, rfl, hb.frame _, fun h => by cases h⟩
  rw [Try.params8]
  exact of_decide_eq_true (by kernel_rfl)

theorem over : Rows.netCutsRow.holds Try.pinned (OpenSpec.ofChange Rows.netCutsSpec) :=
  OpenClaim.holds_of_wide 8 Try.f8 rfl rfl rfl rfl rfl rfl rfl ⟨rfl, rfl, rfl, rfl, rfl⟩ rfl rfl rfl rfl rfl (by kernel_rfl) Try.func8 (by kernel_rfl)
    (of_decide_eq_true (by kernel_rfl)) (by unfold Func.isWrapper; first | (rw [if_pos (by decide +kernel)]; kernel_rfl) | (rw [if_neg (by decide +kernel)]; exact ⟨rfl, rfl⟩))
    (fun os started H enc _ => lifted os started H enc)
end Go.Proofs.Ytbhkenphcahifaa.netCuts

namespace Go.Proofs.Ytbhkenphcahifaa
/-- the statement -/
theorem netCuts_holds : Rows.NetCutsSaid := netCuts.over
end Go.Proofs.Ytbhkenphcahifaa
