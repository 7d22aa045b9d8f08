import Init
import Derived.Test.YtbhkenphcahifaaGreatNO
import Derived.Test.YtbhkenphcahifaaGreatQB
import Derived.Test.YtbhkenphcahifaaGreatOA
namespace Go.Proofs.YtbhkenphcahifaaGreat
set_option maxRecDepth 100000

/-- in how many of the first coordinates two switches differ; is the last difference that of neighbors -/
def difK (a b : List Int) : Nat → Int
  | 0 => 0
  | k + 1 => if a.getD k 0 = b.getD k 0 then difK a b k else difK a b k + 1
def neaK (l a b : List Int) : Nat → Bool
  | 0 => true
  | k + 1 => if a.getD k 0 = b.getD k 0 then neaK l a b k else (max (a.getD k 0 - b.getD k 0) (b.getD k 0 - a.getD k 0) == 1 || max (a.getD k 0 - b.getD k 0) (b.getD k 0 - a.getD k 0) == l.getD k 0 - 1)
theorem dif_bound (a b : List Int) : ∀ k, 0 ≤ difK a b k ∧ difK a b k ≤ (k : Int)
  | 0 => by simp [difK]
  | k + 1 => by have := dif_bound a b k; rw [difK]; split <;> omega
theorem dif_zero {a b : List Int} : ∀ k, difK a b k = 0 ↔ ∀ j, j < k → a.getD j 0 = b.getD j 0
  | 0 => by simp [difK]
  | k + 1 => by
    rw [difK]
    have hb := dif_bound a b k
    by_cases h : a.getD k 0 = b.getD k 0
    · rw [if_pos h, dif_zero k]
      exact ⟨fun h1 j hj => by
        by_cases e : j = k
        · subst e; exact h
        · exact h1 j (by omega), fun h1 j hj => h1 j (by omega)⟩
    · rw [if_neg h]
      exact ⟨fun h1 => by omega, fun h1 => absurd (h1 k (by omega)) h⟩
theorem dif_one {l a b : List Int} : ∀ k, (difK a b k = 1 ∧ neaK l a b k = true) ↔ ∃ i, i < k ∧ a.getD i 0 ≠ b.getD i 0 ∧ (max (a.getD i 0 - b.getD i 0) (b.getD i 0 - a.getD i 0) = 1 ∨ max (a.getD i 0 - b.getD i 0) (b.getD i 0 - a.getD i 0) = l.getD i 0 - 1) ∧ ∀ j, j < k → j ≠ i → a.getD j 0 = b.getD j 0
  | 0 => by simp [difK]
  | k + 1 => by
    rw [difK, neaK]
    have hb := dif_bound a b k
    by_cases h : a.getD k 0 = b.getD k 0
    · rw [if_pos h, if_pos h, dif_one k]
      constructor
      · rintro ⟨i, i1, i2, i3, i4⟩
        exact ⟨i, by omega, i2, i3, fun j hj hji => by
          by_cases e : j = k
          · subst e; exact h
          · exact i4 j (by omega) hji⟩
      · rintro ⟨i, i1, i2, i3, i4⟩
        have hik : i ≠ k := by rintro rfl; exact i2 h
        exact ⟨i, by omega, i2, i3, fun j hj hji => i4 j (by omega) hji⟩
    · rw [if_neg h, if_neg h]
      constructor
      · rintro ⟨h1, h2⟩
        have h0 := (dif_zero k).1 (show difK a b k = 0 by omega)
        refine ⟨k, by omega, h, by simpa using h2, fun j hj hjk => h0 j (by omega)⟩
      · rintro ⟨i, i1, i2, i3, i4⟩
        have hik : i = k := by
          by_cases e : i = k
          · exact e
          · exact absurd (i4 k (by omega) (fun q => e q.symm)) h
        subst hik
        have h0 := (dif_zero (a := a) (b := b) i).2 (fun j hj => i4 j (by omega) (by omega))
        exact ⟨by omega, by simpa using i3⟩
end Go.Proofs.YtbhkenphcahifaaGreat

namespace Go.Proofs.YtbhkenphcahifaaGreat
open Go.RowKit Go.Shelf
attribute [local go_sem] Oper.semAt_some
set_option maxRecDepth 100000
set_option maxHeartbeats 4000000

theorem info34 : (Tryz.prog.info? 34).map (·.size) = some 3 := by kernel_rfl
/-- no switch is linked with itself -/
theorem rLinked_same {w : World} {sa : Option Addr} (N sc : Nat) (kind hosts x : Int) :
    Calls Tryz.prog 96 #[.agg #[.int .i64 kind, .slice sa N sc, .int .i64 hosts], .int .i64 x, .int .i64 x] w fun e w' => e = .returned (.bool false) ∧ Below w.heap.size w w' := by
  have HB := Lib.hid ((Below.refl w.heap.size w).alloc (Nat.le_refl _) (.cells #[.int .i64 kind, .slice sa N sc, .int .i64 hosts] 34))
  have hxx : (x == x) = true := by simp
  go_enter Tryz.func96, Tryz.ntmps96
  go_wp2_with fail
  go_ret
  exact ⟨rfl, HB.out⟩
/-- are two switches of a torus linked -/
theorem rLinked1_any {w : World} {sa : Option Addr} {l : List Int} (h : Ints w sa l) (hl : l.length ≤ 4) (hp : ∀ s ∈ l, 1 ≤ s ∧ s ≤ 64) (sc : Nat) (hosts x y : Int) (hx : 0 ≤ x) (hx2 : x ≤ 1000) (hy : 0 ≤ y) (hy2 : y ≤ 1000) (hne : x ≠ y) (hcx : ∀ i, i < l.length → 0 ≤ (coordsL l x).getD i 0 ∧ (coordsL l x).getD i 0 ≤ 1000) (hcy : ∀ i, i < l.length → 0 ≤ (coordsL l y).getD i 0 ∧ (coordsL l y).getD i 0 ≤ 1000) :
    Calls Tryz.prog 96 #[.agg #[.int .i64 1, .slice sa l.length sc, .int .i64 hosts], .int .i64 x, .int .i64 y] w fun e w' => e = .returned (.bool (difK (coordsL l x) (coordsL l y) l.length == 1 && neaK l (coordsL l x) (coordsL l y) l.length)) ∧ Below w.heap.size w w' := by
  have HB := Lib.hid ((Below.refl w.heap.size w).alloc (Nat.le_refl _) (.cells #[.int .i64 1, .slice sa l.length sc, .int .i64 hosts] 34))
  have Q0 := Lib.hid (heap_alloc_new w (.cells #[.int .i64 1, .slice sa l.length sc, .int .i64 hosts] 34))
  have c0 := cellR 0 Q0.out rfl
  have hxy : (x == y) = false := by simpa using hne
  have HC := Lib.hid (fun (W : World) (hb : Below w.heap.size w W) (z : Int) (h0 : 0 ≤ z) (h1 : z ≤ 1000) => rCoords_any (h.keep hb) hp sc 1 hosts z h0 h1)
  have HI := Lib.hid h
  have HCX := Lib.hid hcx
  have HCY := Lib.hid hcy
  have HPP := Lib.hid hp
  obtain ⟨N, hN⟩ : ∃ N, N = l.length := ⟨_, rfl⟩
  have HN := Lib.hid hN
  rw [← hN] at HB Q0 c0 HC ⊢
  have hN4 : N ≤ 4 := by omega
  clear h hN hp hl hne hcx hcy
  go_enter Tryz.func96, Tryz.ntmps96
  go_wp2_with fail
  generalize w.alloc (.cells #[.int .i64 1, .slice sa N sc, .int .i64 hosts] 34) = X at *
  clear c0 hxy
  refine (wpIn_wide (n := 0)).1 ?_
  refine region_det (by kernel_rfl) (I := fun listed a' w' => ∃ g1 g2 : Nat, Hid (Below X.heap.size X w') ∧ Hid (listed.getD 2 false = true → RowAt w' g1 (coordsL l x)) ∧ Hid (listed.getD 5 false = true → RowAt w' g2 (coordsL l y)) ∧ Hid (listed.getD 6 false = true → listed.getD 2 false = true) ∧ Hid (listed.getD 7 false = true → listed.getD 5 false = true) ∧ a' = ⟨#[Value.agg #[Value.int IntKind.i64 1, Value.slice sa N sc, Value.int IntKind.i64 hosts], Value.int IntKind.i64 x, Value.int IntKind.i64 y, Value.pointer (some (Addr.mk w.heap.size 0 none)), undef, undef, Value.bool false, (if listed.getD 6 false = true then Value.slice (some ⟨g1, 0, none⟩) N N else undef), (if listed.getD 7 false = true then Value.slice (some ⟨g2, 0, none⟩) N N else undef), undef, undef, undef, undef, undef, undef, undef, undef, undef, undef, undef, Value.int IntKind.i64 x, Value.int IntKind.i64 y, Value.bool false, Value.pointer (some (Addr.mk w.heap.size 0 none)), Value.int IntKind.i64 1, Value.bool true, Value.bool true, (if listed.getD 0 false = true then Value.agg #[.int .i64 1, .slice sa N sc, .int .i64 hosts] else undef), (if listed.getD 1 false = true then Value.int IntKind.i64 (x) else undef), (if listed.getD 2 false = true then Value.slice (some ⟨g1, 0, none⟩) N N else undef), (if listed.getD 3 false = true then Value.agg #[.int .i64 1, .slice sa N sc, .int .i64 hosts] else undef), (if listed.getD 4 false = true then Value.int IntKind.i64 (y) else undef), (if listed.getD 5 false = true then Value.slice (some ⟨g2, 0, none⟩) N N else undef), undef, undef, undef, undef, undef, undef, undef, undef, undef, undef, undef, undef, undef, undef, undef, undef, undef, undef, undef, undef, undef, undef, undef, undef, undef, undef, undef, undef, undef, undef, undef, undef, undef, undef, undef, undef, undef, undef, undef, undef, undef, undef, undef, undef, undef, undef, undef, undef, undef, undef, undef, undef, undef, undef, undef, undef, undef, undef, undef, undef, undef, undef, undef, undef, undef, undef, undef, undef, undef, undef, undef, undef, undef, undef, undef, undef, undef, undef, undef, undef, undef, undef, undef, undef, undef, undef, undef, undef, undef, undef, undef, undef, undef, undef, undef, undef, undef, undef, undef, undef, undef, undef, undef, undef, undef, undef, undef, undef, undef, undef, undef, undef, undef, undef, undef, undef, undef, undef, undef, undef, undef, undef, undef, undef, undef, undef, undef, undef, undef, undef, undef, undef, undef, undef, undef, undef, undef], []⟩) (hup_check (by kernel_rfl)) ?h0 ?step ?fin
  case h0 => exact ⟨0, 0, (Below.refl _ _).drew, (fun h => by simp at h), (fun h => by simp at h), (fun h => by simp at h), (fun h => by simp at h), rfl⟩
  case step =>
    intro listed a' w' i hs hbi hdep hi ⟨g1, g2, IB, I1, I2, J6, J7, ha⟩
    obtain ⟨ls⟩ := listed
    match ls, hs with
    | [x0, x1, x2, x3, x4, x5, x6, x7], _ =>
    subst ha
    have hi' : i = 0 ∨ i = 1 ∨ i = 2 ∨ i = 3 ∨ i = 4 ∨ i = 5 ∨ i = 6 ∨ i = 7 := by simp at hi; omega
    rcases hi' with rfl | rfl | rfl | rfl | rfl | rfl | rfl | rfl
    · obtain rfl : x0 = false := by simpa using hbi
      refine wpOpIn_load_row rfl rfl 34 _ rfl w.heap.size rfl 34 _ _ _ (heapB IB.out Q0.out) Tryz.underlying34 rfl info34 ?_
      exact ⟨g1, g2, IB, I1, I2, J6, J7, rfl⟩
    · obtain rfl : x1 = false := by simpa using hbi
      refine wpOpIn_plain rfl rfl rfl ?_
      exact ⟨g1, g2, IB, I1, I2, J6, J7, rfl⟩
    · obtain rfl : x2 = false := by simpa using hbi
      obtain rfl : x0 = true := hdep _ rfl ⟨0, .data⟩ (by simp) rfl
      obtain rfl : x1 = true := hdep _ rfl ⟨1, .data⟩ (by simp) rfl
      obtain rfl : x6 = false := Bool.eq_false_iff.2 fun h => by have := J6.out h; cases this
      refine wpOpIn_call (args := #[Value.agg #[.int .i64 1, .slice sa N sc, .int .i64 hosts], Value.int IntKind.i64 (x)]) rfl rfl (sem_call2 rfl rfl rfl (enters_of Tryz.func62 (by kernel_rfl) rfl)) (HC.out w' (HB.out.trans (IB.out.mono HB.out.size)) x hx hx2) ?_
      rintro e V ⟨ga, rfl, hga, hra, hb⟩
      exact ⟨_, rfl, ga, g2, (IB.out.trans (hb.mono IB.out.size)), (fun _ => hra), (fun h => (I2.out h).keep hb), (fun _ => rfl), J7, rfl⟩
    · obtain rfl : x3 = false := by simpa using hbi
      refine wpOpIn_load_row rfl rfl 34 _ rfl w.heap.size rfl 34 _ _ _ (heapB IB.out Q0.out) Tryz.underlying34 rfl info34 ?_
      exact ⟨g1, g2, IB, I1, I2, J6, J7, rfl⟩
    · obtain rfl : x4 = false := by simpa using hbi
      refine wpOpIn_plain rfl rfl rfl ?_
      exact ⟨g1, g2, IB, I1, I2, J6, J7, rfl⟩
    · obtain rfl : x5 = false := by simpa using hbi
      obtain rfl : x3 = true := hdep _ rfl ⟨3, .data⟩ (by simp) rfl
      obtain rfl : x4 = true := hdep _ rfl ⟨4, .data⟩ (by simp) rfl
      obtain rfl : x7 = false := Bool.eq_false_iff.2 fun h => by have := J7.out h; cases this
      refine wpOpIn_call (args := #[Value.agg #[.int .i64 1, .slice sa N sc, .int .i64 hosts], Value.int IntKind.i64 (y)]) rfl rfl (sem_call2 rfl rfl rfl (enters_of Tryz.func62 (by kernel_rfl) rfl)) (HC.out w' (HB.out.trans (IB.out.mono HB.out.size)) y hy hy2) ?_
      rintro e V ⟨ga, rfl, hga, hra, hb⟩
      exact ⟨_, rfl, g1, ga, (IB.out.trans (hb.mono IB.out.size)), (fun h => (I1.out h).keep hb), (fun _ => hra), J6, (fun _ => rfl), rfl⟩
    · obtain rfl : x6 = false := by simpa using hbi
      obtain rfl : x2 = true := hdep _ rfl ⟨2, .data⟩ (by simp) rfl
      refine wpOpIn_plain rfl rfl rfl ?_
      exact ⟨g1, g2, IB, I1, I2, (fun _ => rfl), J7, rfl⟩
    · obtain rfl : x7 = false := by simpa using hbi
      obtain rfl : x5 = true := hdep _ rfl ⟨5, .data⟩ (by simp) rfl
      refine wpOpIn_plain rfl rfl rfl ?_
      exact ⟨g1, g2, IB, I1, I2, J6, (fun _ => rfl), rfl⟩
  case fin =>
  intro listed a' w5 hs hall ⟨g1, g2, IB, I1, I2, J6, J7, ha⟩
  obtain ⟨ls⟩ := listed
  match ls, hs with
  | [x0, x1, x2, x3, x4, x5, x6, x7], _ =>
  obtain rfl : x0 = true := hall 0 (by simp)
  obtain rfl : x1 = true := hall 1 (by simp)
  obtain rfl : x2 = true := hall 2 (by simp)
  obtain rfl : x3 = true := hall 3 (by simp)
  obtain rfl : x4 = true := hall 4 (by simp)
  obtain rfl : x5 = true := hall 5 (by simp)
  obtain rfl : x6 = true := hall 6 (by simp)
  obtain rfl : x7 = true := hall 7 (by simp)
  subst ha
  have HR1 := I1.out rfl
  have HR2 := I2.out rfl
  have HBX := Lib.hid (IB.out)
  have HRS := Lib.hid (And.intro HR1 HR2)
  clear IB I1 I2 J6 J7 hs hall HR1 HR2 HC
  go_wp2_with fail
  have HLC : Hid ((coordsL l x).length = N ∧ (coordsL l y).length = N) := by rw [HN.out]; exact ⟨cfold_len _ _ _, cfold_len _ _ _⟩
  have HQ5 : Hid (Below w.heap.size w w5 ∧ w5.heap[w.heap.size]? = some (.cells #[.int .i64 1, .slice sa N sc, .int .i64 hosts] 34 (0, 0)) ∧ RowAt w5 g1 (coordsL l x) ∧ RowAt w5 g2 (coordsL l y)) := ⟨HB.out.trans (HBX.out.mono HB.out.size), heapB HBX.out Q0.out, HRS.out.1, HRS.out.2⟩
  clear HB Q0 HBX HRS
  go_loopw [9, 10, 11] (fun nv bv iv wr => ∃ k : Nat, k ≤ N ∧ iv = .int .i64 (k : Int) ∧ nv = .int .i64 (difK (coordsL l x) (coordsL l y) k) ∧ bv = .bool (neaK l (coordsL l x) (coordsL l y) k) ∧ Hid (Below w.heap.size w wr ∧ wr.heap[w.heap.size]? = some (.cells #[.int .i64 1, .slice sa N sc, .int .i64 hosts] 34 (0, 0)) ∧ RowAt wr g1 (coordsL l x) ∧ RowAt wr g2 (coordsL l y))) (fun _ _ iv _ => N - (intOf iv).toNat)
  case atStart => exact ⟨0, Nat.zero_le _, rfl, rfl, rfl, HQ5⟩
  case round =>
    clear HQ5
    obtain ⟨k, hk, rfl, rfl, rfl, HR⟩ := hrel
    obtain ⟨r1, r2, r3, r4⟩ := HR.out
    have hdb := dif_bound (coordsL l x) (coordsL l y) k
    by_cases hlt : k < N
    · have hkl : k < l.length := by rw [← HN.out]; exact hlt
      have cx := r3.cell k (by rw [HLC.out.1]; exact hlt)
      have cy := r4.cell k (by rw [HLC.out.2]; exact hlt)
      rw [show (coordsL l x)[k]'(by rw [HLC.out.1]; exact hlt) = (coordsL l x).getD k 0 by simp [List.getD, HLC.out.1, hlt]] at cx
      rw [show (coordsL l y)[k]'(by rw [HLC.out.2]; exact hlt) = (coordsL l y).getD k 0 by simp [List.getD, HLC.out.2, hlt]] at cy
      have HS1 : Hid (difK (coordsL l x) (coordsL l y) (k + 1) = if (coordsL l x).getD k 0 = (coordsL l y).getD k 0 then difK (coordsL l x) (coordsL l y) k else difK (coordsL l x) (coordsL l y) k + 1) := rfl
      have HS2 : Hid (neaK l (coordsL l x) (coordsL l y) (k + 1) = if (coordsL l x).getD k 0 = (coordsL l y).getD k 0 then neaK l (coordsL l x) (coordsL l y) k else (max ((coordsL l x).getD k 0 - (coordsL l y).getD k 0) ((coordsL l y).getD k 0 - (coordsL l x).getD k 0) == 1 || max ((coordsL l x).getD k 0 - (coordsL l y).getD k 0) ((coordsL l y).getD k 0 - (coordsL l x).getD k 0) == l.getD k 0 - 1)) := rfl
      obtain ⟨bx0, bx1⟩ := HCX.out k hkl
      obtain ⟨by0, by1⟩ := HCY.out k hkl
      obtain ⟨gs, os, rfl, hcs⟩ := HI.out.at_ (ne_nil_of_lt hkl)
      have cs := (r1.cell (p := ⟨gs, os + k, none⟩) (block_lt_of_cell (hcs k hkl))).trans (hcs k hkl)
      rw [show l[k] = l.getD k 0 by simp [List.getD, hkl]] at cs
      have hsd : 1 ≤ l.getD k 0 ∧ l.getD k 0 ≤ 64 := HPP.out (l.getD k 0) (by simp [List.getD, hkl])
      obtain ⟨sd0, sd1⟩ := hsd
      obtain ⟨db0, db1⟩ := hdb
      generalize difK (coordsL l x) (coordsL l y) k = dk at *
      generalize neaK l (coordsL l x) (coordsL l y) k = nk at *
      generalize (coordsL l x).getD k 0 = ax at *
      generalize (coordsL l y).getD k 0 = ay at *
      generalize l.getD k 0 = al at *
      clear hcs hkl r1 r3 r4
      go_wp2_with fail
      go_quiet (fail)
      have HR9 : Hid (Below w.heap.size w (wr.drewN nq) ∧ (wr.drewN nq).heap[w.heap.size]? = some (.cells #[.int .i64 1, .slice (some ⟨gs, os, none⟩) N sc, .int .i64 hosts] 34 (0, 0)) ∧ RowAt (wr.drewN nq) g1 (coordsL l x) ∧ RowAt (wr.drewN nq) g2 (coordsL l y)) := ⟨below_drewN HR.out.1 _, HR.out.2.1, HR.out.2.2.1, HR.out.2.2.2⟩
      have cx9 : (wr.drewN nq).cell? ⟨g1, k, none⟩ = some (.int .i64 ax) := cx
      have cy9 : (wr.drewN nq).cell? ⟨g2, k, none⟩ = some (.int .i64 ay) := cy
      have cs9 : (wr.drewN nq).cell? ⟨gs, os + k, none⟩ = some (.int .i64 al) := cs
      clear HR cx cy cs r2
      generalize wr.drewN nq = W9 at *
      by_cases he : ax = ay
      · subst he
        rw [if_pos rfl] at HS1 HS2
        have e1 : (ax == ax) = true := by simp
        go_wp2_with fail
        go_roundw
        case rel => exact ⟨k + 1, by omega, by go_num, by rw [HS1.out], by rw [HS2.out], HR9⟩
        case measure => simp [intOf]; omega
      · rw [if_neg he] at HS1 HS2
        have e1 : (ax == ay) = false := by simpa using he
        go_wp2_with fail
        go_quiet (fail)
        have HRa : Hid (Below w.heap.size w (W9.drewN nq) ∧ (W9.drewN nq).heap[w.heap.size]? = some (.cells #[.int .i64 1, .slice (some ⟨gs, os, none⟩) N sc, .int .i64 hosts] 34 (0, 0)) ∧ RowAt (W9.drewN nq) g1 (coordsL l x) ∧ RowAt (W9.drewN nq) g2 (coordsL l y)) := ⟨below_drewN HR9.out.1 _, HR9.out.2.1, HR9.out.2.2.1, HR9.out.2.2.2⟩
        clear HR9 cx9 cy9
        have cs2 : (W9.drewN nq).cell? ⟨gs, os + k, none⟩ = some (.int .i64 al) := cs9
        clear cs9
        obtain ⟨mx, hmx⟩ : ∃ mx, mx = max (ax - ay) (ay - ax) := ⟨_, rfl⟩
        rw [← hmx] at HS2
        rw [show (if ax - ay < ay - ax then ay - ax else ax - ay) = mx by rw [hmx]; split <;> omega]
        have cS := cellR 1 HRa.out.2.1 rfl
        clear hmx
        generalize W9.drewN nq = Wb at *
        by_cases hm : mx = 1
        · have e2 : (mx == 1) = true := by simpa using hm
          go_wp2_with fail
          go_roundw
          case rel => exact ⟨k + 1, by omega, by go_num, by rw [HS1.out], by rw [HS2.out, e2]; rfl, HRa⟩
          case measure => simp [intOf]; omega
        · have e2 : (mx == 1) = false := by simpa using hm
          go_wp2_with fail
          go_roundw
          case rel => exact ⟨k + 1, by omega, by go_num, by rw [HS1.out], by rw [HS2.out, e2]; rfl, HRa⟩
          case measure => simp [intOf]; omega
    · have hkN : k = N := by omega
      subst hkN
      have HBF := Lib.hid r1
      clear r1 r2 r3 r4 HR
      generalize hdk : difK (coordsL l x) (coordsL l y) k = dk at *
      generalize hnk : neaK l (coordsL l x) (coordsL l y) k = nk at *
      have HDK := Lib.hid hdk
      have HNK := Lib.hid hnk
      clear hdk hnk
      by_cases hd : dk = 1
      · have e2 : (dk == 1) = true := by simpa using hd
        go_wp2_with fail
        go_ret
        exact ⟨by rw [HDK.out, HNK.out, e2]; rfl, HBF.out⟩
      · have e2 : (dk == 1) = false := by simpa using hd
        go_wp2_with fail
        go_ret
        exact ⟨by rw [HDK.out, HNK.out, e2]; rfl, HBF.out⟩
end Go.Proofs.YtbhkenphcahifaaGreat

namespace Go.Proofs.YtbhkenphcahifaaGreat
open Go.RowKit Go.Shelf
attribute [local go_sem] Oper.semAt_some
set_option maxRecDepth 100000
set_option maxHeartbeats 4000000

theorem sem_max {P : Program} {o : Oper} {a : Act} {w : World} {x y : Operand} {vx vy v : Value} (hop : o.op = .call { callee := .builtin .max, args := #[x, y], argTypes := #[3, 3] }) (hx : a.eval x = vx) (hy : a.eval y = vy)
    (h : (Builtin.max_ #[3, 3] o.type #[vx, vy]).run P w = .ok v w) : (o.semAt none a.eval).run P w = .ok (.value v) w := by
  simp [Oper.semAt, hop, execOp, resolve, invoke, builtin, hx, hy, h, Result.andThen]
theorem sem_min {P : Program} {o : Oper} {a : Act} {w : World} {x y : Operand} {vx vy v : Value} (hop : o.op = .call { callee := .builtin .min, args := #[x, y], argTypes := #[3, 3] }) (hx : a.eval x = vx) (hy : a.eval y = vy)
    (h : (Builtin.min_ #[3, 3] o.type #[vx, vy]).run P w = .ok v w) : (o.semAt none a.eval).run P w = .ok (.value v) w := by
  simp [Oper.semAt, hop, execOp, resolve, invoke, builtin, hx, hy, h, Result.andThen]
theorem run_max (x y : Int) (w : World) : (Builtin.max_ #[3, 3] 3 #[.int .i64 x, .int .i64 y]).run Tryz.prog w = .ok (.int .i64 (if x < y then y else x)) w := by
  simp [Builtin.max_, Builtin.max2, go_sem]
theorem run_min (x y : Int) (w : World) : (Builtin.min_ #[3, 3] 3 #[.int .i64 x, .int .i64 y]).run Tryz.prog w = .ok (.int .i64 (if y < x then y else x)) w := by
  simp [Builtin.min_, Builtin.min2, go_sem]

/-- are two switches of a tree linked -/
theorem rLinked2_any {w : World} {g o : Nat} (k lv : Nat) (hk : 1 ≤ k) (hk2 : k ≤ 16) (hlv : 1 ≤ lv) (hlv2 : lv ≤ 5) (ht : Two w g o k lv) (sc : Nat) (hosts x y : Int) (hx : 0 ≤ x) (hx2 : x ≤ 1000) (hy : 0 ≤ y) (hy2 : y ≤ 1000) (hne : x ≠ y) {ww L0 M0 V W0 : Int} (hww : wordsI [(k : Int), (lv : Int)] = ww) (hw1 : 1 ≤ ww)
    (hL : min x y / ww = L0) (hM : max x y / ww = M0) (hV : min x y % ww = V) (hW : max x y % ww = W0) (hL5 : L0 ≤ 5) (hM5 : M0 ≤ 5) :
    Calls Tryz.prog 96 #[.agg #[.int .i64 2, .slice (some ⟨g, o, none⟩) 2 sc, .int .i64 hosts], .int .i64 x, .int .i64 y] w fun e w' => e = .returned (.bool (M0 == L0 + 1 && wthI k L0.toNat V 0 == wthI k L0.toNat W0 0)) ∧ Below w.heap.size w w' := by
  have HB := Lib.hid ((Below.refl w.heap.size w).alloc (Nat.le_refl _) (.cells #[.int .i64 2, .slice (some ⟨g, o, none⟩) 2 sc, .int .i64 hosts] 34))
  have Q0 := Lib.hid (heap_alloc_new w (.cells #[.int .i64 2, .slice (some ⟨g, o, none⟩) 2 sc, .int .i64 hosts] 34))
  have c0 := cellR 0 Q0.out rfl
  have hxy : (x == y) = false := by simpa using hne
  have HWD : Hid (∀ W, Below w.heap.size w W → Calls Tryz.prog 95 #[.agg #[.int .i64 2, .slice (some ⟨g, o, none⟩) 2 sc, .int .i64 hosts]] W fun e w' => e = .returned (.int .i64 ww) ∧ Below W.heap.size W w') := fun W hb => by
    have := rWords_any k lv hk2 hlv hlv2 (ht.keep hb) sc 2 hosts
    rwa [hww] at this
  obtain ⟨mn, hmn⟩ : ∃ mn, mn = min x y := ⟨_, rfl⟩
  obtain ⟨mx, hmx⟩ : ∃ mx, mx = max x y := ⟨_, rfl⟩
  rw [← hmn] at hL hV
  rw [← hmx] at hM hW
  have hn0 : 0 ≤ mn := by omega
  have hn1 : mn ≤ 1000 := by omega
  have hm0 : 0 ≤ mx := by omega
  have hm1 : mx ≤ 1000 := by omega
  have L00 : 0 ≤ L0 := by rw [← hL]; exact Int.ediv_nonneg hn0 (by omega)
  have V0 : 0 ≤ V := by rw [← hV]; exact Int.emod_nonneg _ (by omega)
  have V1 : V ≤ 1000 := by rw [← hV]; have := Int.emod_lt_of_pos mn (show 0 < ww by omega); have := Int.emod_nonneg mn (show ww ≠ 0 by omega); have h9 := Int.mul_ediv_add_emod mn ww; have h8 := Int.mul_nonneg (show 0 ≤ ww by omega) (Int.ediv_nonneg hn0 (show 0 ≤ ww by omega)); omega
  have W00 : 0 ≤ W0 := by rw [← hW]; exact Int.emod_nonneg _ (by omega)
  have W01 : W0 ≤ 1000 := by rw [← hW]; have h9 := Int.mul_ediv_add_emod mx ww; have h8 := Int.mul_nonneg (show 0 ≤ ww by omega) (Int.ediv_nonneg hm0 (show 0 ≤ ww by omega)); omega
  have HMN : Hid (∀ W, (Builtin.min_ #[3, 3] 3 #[.int .i64 x, .int .i64 y]).run Tryz.prog W = .ok (.int .i64 mn) W) := fun W => by rw [run_min, hmn]; congr 2; split <;> omega
  have HMX : Hid (∀ W, (Builtin.max_ #[3, 3] 3 #[.int .i64 x, .int .i64 y]).run Tryz.prog W = .ok (.int .i64 mx) W) := fun W => by rw [run_max, hmx]; congr 2; split <;> omega
  have EQ1 := Lib.hid (fun W => i64_quo mn ww hn0 (by omega) hw1 W)
  have EQ2 := Lib.hid (fun W => i64_quo mx ww hm0 (by omega) hw1 W)
  have ER1 := Lib.hid (fun W => i64_rem mn ww hn0 hw1 W)
  have ER2 := Lib.hid (fun W => i64_rem mx ww hm0 hw1 W)
  rw [hL] at EQ1
  rw [hM] at EQ2
  rw [hV] at ER1
  rw [hW] at ER2
  obtain ⟨l0, rfl⟩ := Int.eq_ofNat_of_zero_le L00
  have HWI : Hid (∀ W, Below w.heap.size w W → ∀ v : Int, 0 ≤ v → v ≤ 1000 → Calls Tryz.prog 118 #[.agg #[.int .i64 2, .slice (some ⟨g, o, none⟩) 2 sc, .int .i64 hosts], .int .i64 v, .int .i64 (l0 : Int), .int .i64 0] W fun e w' => e = .returned (.int .i64 (wthI k l0 v 0)) ∧ Below W.heap.size W w') := fun W hb v v0 v1 => rWith_any k l0 lv hk hk2 (by omega) (ht.keep hb) sc 2 hosts v 0 v0 v1 (by decide) (by decide)
  have HES := Lib.hid (fun W => i64_add (l0 : Int) 1 (by omega) (by omega) W)
  rw [Int.toNat_natCast]
  clear hmn hmx hL hM hV hW hne ht hww
  go_enter Tryz.func96, Tryz.ntmps96
  go_wp2_with fail
  generalize w.alloc (.cells #[.int .i64 2, .slice (some ⟨g, o, none⟩) 2 sc, .int .i64 hosts] 34) = X at *
  clear c0 hxy
  refine (wpIn_wide (n := 0)).1 ?_
  refine region_det (by kernel_rfl) (I := fun listed a' w' => Hid (Below X.heap.size X w') ∧ a' = ⟨#[Value.agg #[Value.int IntKind.i64 2, Value.slice (some (Addr.mk g o none)) 2 sc, Value.int IntKind.i64 hosts], Value.int IntKind.i64 x, Value.int IntKind.i64 y, Value.pointer (some (Addr.mk w.heap.size 0 none)), undef, undef, Value.bool false, undef, undef, undef, undef, undef, undef, (if listed.getD 12 false = true then Value.int IntKind.i64 ((l0 : Int)) else undef), (if listed.getD 13 false = true then Value.int IntKind.i64 (M0) else undef), undef, undef, undef, undef, undef, Value.int IntKind.i64 x, Value.int IntKind.i64 y, Value.bool false, Value.pointer (some (Addr.mk w.heap.size 0 none)), Value.int IntKind.i64 2, Value.bool false, Value.bool false, undef, undef, undef, undef, undef, undef, undef, undef, undef, undef, undef, undef, undef, undef, undef, undef, undef, undef, undef, undef, undef, undef, undef, undef, undef, undef, undef, undef, undef, undef, undef, undef, undef, undef, undef, undef, undef, undef, undef, undef, undef, undef, undef, undef, undef, undef, undef, undef, undef, undef, undef, undef, undef, undef, undef, undef, undef, undef, undef, Value.bool true, Value.bool true, (if listed.getD 0 false = true then Value.int IntKind.i64 (x) else undef), (if listed.getD 1 false = true then Value.int IntKind.i64 (y) else undef), (if listed.getD 2 false = true then Value.int IntKind.i64 (mn) else undef), (if listed.getD 3 false = true then Value.agg #[.int .i64 2, .slice (some ⟨g, o, none⟩) 2 sc, .int .i64 hosts] else undef), (if listed.getD 4 false = true then Value.int IntKind.i64 (ww) else undef), (if listed.getD 5 false = true then Value.int IntKind.i64 ((l0 : Int)) else undef), (if listed.getD 6 false = true then Value.int IntKind.i64 (x) else undef), (if listed.getD 7 false = true then Value.int IntKind.i64 (y) else undef), (if listed.getD 8 false = true then Value.int IntKind.i64 (mx) else undef), (if listed.getD 9 false = true then Value.agg #[.int .i64 2, .slice (some ⟨g, o, none⟩) 2 sc, .int .i64 hosts] else undef), (if listed.getD 10 false = true then Value.int IntKind.i64 (ww) else undef), (if listed.getD 11 false = true then Value.int IntKind.i64 (M0) else undef), undef, undef, undef, undef, undef, undef, undef, undef, undef, undef, undef, undef, undef, undef, undef, undef, undef, undef, undef, undef, undef, undef, undef, undef, undef, undef, undef, undef, undef, undef, undef, undef, undef, undef, undef, undef, undef, undef, undef, undef, undef, undef, undef, undef, undef, undef, undef, undef, undef, undef, undef, undef, undef, undef, undef, undef, undef, undef, undef, undef, undef, undef, undef, undef, undef, undef, undef, undef, undef, undef], []⟩) (hup_check (by kernel_rfl)) ?h0 ?step ?fin
  case h0 => exact ⟨(Below.refl _ _).drew, rfl⟩
  case step =>
    intro listed a' w' i hs hbi hdep hi ⟨IB, ha⟩
    obtain ⟨ls⟩ := listed
    match ls, hs with
    | [x0, x1, x2, x3, x4, x5, x6, x7, x8, x9, x10, x11, x12, x13], _ =>
    subst ha
    have hi' : i = 0 ∨ i = 1 ∨ i = 2 ∨ i = 3 ∨ i = 4 ∨ i = 5 ∨ i = 6 ∨ i = 7 ∨ i = 8 ∨ i = 9 ∨ i = 10 ∨ i = 11 ∨ i = 12 ∨ i = 13 := by simp at hi; omega
    rcases hi' with rfl | rfl | rfl | rfl | rfl | rfl | rfl | rfl | rfl | rfl | rfl | rfl | rfl | rfl
    · obtain rfl : x0 = false := by simpa using hbi
      refine wpOpIn_plain rfl rfl rfl ?_
      exact ⟨IB, rfl⟩
    · obtain rfl : x1 = false := by simpa using hbi
      refine wpOpIn_plain rfl rfl rfl ?_
      exact ⟨IB, rfl⟩
    · obtain rfl : x2 = false := by simpa using hbi
      obtain rfl : x0 = true := hdep _ rfl ⟨0, .data⟩ (by simp) rfl
      obtain rfl : x1 = true := hdep _ rfl ⟨1, .data⟩ (by simp) rfl
      refine wpOpIn_plain (v := Value.int IntKind.i64 (mn)) (w' := w') rfl rfl (sem_min (vx := Value.int IntKind.i64 (x)) (vy := Value.int IntKind.i64 (y)) rfl rfl rfl (HMN.out w')) ?_
      exact ⟨IB, rfl⟩
    · obtain rfl : x3 = false := by simpa using hbi
      refine wpOpIn_load_row rfl rfl 34 _ rfl w.heap.size rfl 34 _ _ _ (heapB IB.out Q0.out) Tryz.underlying34 rfl info34 ?_
      exact ⟨IB, rfl⟩
    · obtain rfl : x4 = false := by simpa using hbi
      obtain rfl : x3 = true := hdep _ rfl ⟨3, .data⟩ (by simp) rfl
      refine wpOpIn_call (args := #[Value.agg #[.int .i64 2, .slice (some ⟨g, o, none⟩) 2 sc, .int .i64 hosts]]) rfl rfl (sem_call1 rfl rfl (enters_of Tryz.func95 (by kernel_rfl) rfl)) (HWD.out w' (HB.out.trans (IB.out.mono HB.out.size))) ?_
      rintro e V ⟨rfl, hb⟩
      exact ⟨_, rfl, (IB.out.trans (hb.mono IB.out.size)), rfl⟩
    · obtain rfl : x5 = false := by simpa using hbi
      obtain rfl : x2 = true := hdep _ rfl ⟨2, .data⟩ (by simp) rfl
      obtain rfl : x4 = true := hdep _ rfl ⟨4, .data⟩ (by simp) rfl
      refine wpOpIn_plain (v := Value.int IntKind.i64 ((l0 : Int))) (w' := w') rfl rfl (sem_bin (vx := Value.int IntKind.i64 (mn)) (vy := Value.int IntKind.i64 (ww)) rfl rfl rfl rfl (EQ1.out w')) ?_
      exact ⟨IB, rfl⟩
    · obtain rfl : x6 = false := by simpa using hbi
      refine wpOpIn_plain rfl rfl rfl ?_
      exact ⟨IB, rfl⟩
    · obtain rfl : x7 = false := by simpa using hbi
      refine wpOpIn_plain rfl rfl rfl ?_
      exact ⟨IB, rfl⟩
    · obtain rfl : x8 = false := by simpa using hbi
      obtain rfl : x6 = true := hdep _ rfl ⟨6, .data⟩ (by simp) rfl
      obtain rfl : x7 = true := hdep _ rfl ⟨7, .data⟩ (by simp) rfl
      refine wpOpIn_plain (v := Value.int IntKind.i64 (mx)) (w' := w') rfl rfl (sem_max (vx := Value.int IntKind.i64 (x)) (vy := Value.int IntKind.i64 (y)) rfl rfl rfl (HMX.out w')) ?_
      exact ⟨IB, rfl⟩
    · obtain rfl : x9 = false := by simpa using hbi
      refine wpOpIn_load_row rfl rfl 34 _ rfl w.heap.size rfl 34 _ _ _ (heapB IB.out Q0.out) Tryz.underlying34 rfl info34 ?_
      exact ⟨IB, rfl⟩
    · obtain rfl : x10 = false := by simpa using hbi
      obtain rfl : x9 = true := hdep _ rfl ⟨9, .data⟩ (by simp) rfl
      refine wpOpIn_call (args := #[Value.agg #[.int .i64 2, .slice (some ⟨g, o, none⟩) 2 sc, .int .i64 hosts]]) rfl rfl (sem_call1 rfl rfl (enters_of Tryz.func95 (by kernel_rfl) rfl)) (HWD.out w' (HB.out.trans (IB.out.mono HB.out.size))) ?_
      rintro e V ⟨rfl, hb⟩
      exact ⟨_, rfl, (IB.out.trans (hb.mono IB.out.size)), rfl⟩
    · obtain rfl : x11 = false := by simpa using hbi
      obtain rfl : x8 = true := hdep _ rfl ⟨8, .data⟩ (by simp) rfl
      obtain rfl : x10 = true := hdep _ rfl ⟨10, .data⟩ (by simp) rfl
      refine wpOpIn_plain (v := Value.int IntKind.i64 (M0)) (w' := w') rfl rfl (sem_bin (vx := Value.int IntKind.i64 (mx)) (vy := Value.int IntKind.i64 (ww)) rfl rfl rfl rfl (EQ2.out w')) ?_
      exact ⟨IB, rfl⟩
    · obtain rfl : x12 = false := by simpa using hbi
      obtain rfl : x5 = true := hdep _ rfl ⟨5, .data⟩ (by simp) rfl
      refine wpOpIn_plain rfl rfl rfl ?_
      exact ⟨IB, rfl⟩
    · obtain rfl : x13 = false := by simpa using hbi
      obtain rfl : x11 = true := hdep _ rfl ⟨11, .data⟩ (by simp) rfl
      refine wpOpIn_plain rfl rfl rfl ?_
      exact ⟨IB, rfl⟩
  case fin =>
  intro listed a' w5 hs hall ⟨IB, ha⟩
  obtain ⟨ls⟩ := listed
  match ls, hs with
  | [x0, x1, x2, x3, x4, x5, x6, x7, x8, x9, x10, x11, x12, x13], _ =>
  obtain rfl : x0 = true := hall 0 (by simp)
  obtain rfl : x1 = true := hall 1 (by simp)
  obtain rfl : x2 = true := hall 2 (by simp)
  obtain rfl : x3 = true := hall 3 (by simp)
  obtain rfl : x4 = true := hall 4 (by simp)
  obtain rfl : x5 = true := hall 5 (by simp)
  obtain rfl : x6 = true := hall 6 (by simp)
  obtain rfl : x7 = true := hall 7 (by simp)
  obtain rfl : x8 = true := hall 8 (by simp)
  obtain rfl : x9 = true := hall 9 (by simp)
  obtain rfl : x10 = true := hall 10 (by simp)
  obtain rfl : x11 = true := hall 11 (by simp)
  obtain rfl : x12 = true := hall 12 (by simp)
  obtain rfl : x13 = true := hall 13 (by simp)
  subst ha
  clear hs hall
  clear EQ1 EQ2
  go_wp2_with fail
  refine (wpIn_wide (n := 0)).1 ?_
  refine region_det (by kernel_rfl) (I := fun listed a' w' => Hid (Below X.heap.size X w') ∧ a' = ⟨#[Value.agg #[Value.int IntKind.i64 2, Value.slice (some (Addr.mk g o none)) 2 sc, Value.int IntKind.i64 hosts], Value.int IntKind.i64 x, Value.int IntKind.i64 y, Value.pointer (some (Addr.mk w.heap.size 0 none)), undef, undef, Value.bool false, undef, undef, undef, undef, undef, undef, Value.int IntKind.i64 ↑l0, Value.int IntKind.i64 M0, (if listed.getD 12 false = true then Value.int IntKind.i64 (V) else undef), (if listed.getD 13 false = true then Value.int IntKind.i64 (W0) else undef), undef, undef, undef, Value.int IntKind.i64 x, Value.int IntKind.i64 y, Value.bool false, Value.pointer (some (Addr.mk w.heap.size 0 none)), Value.int IntKind.i64 2, Value.bool false, Value.bool false, undef, undef, undef, undef, undef, undef, undef, undef, undef, undef, undef, undef, undef, undef, undef, undef, undef, undef, undef, undef, undef, undef, undef, undef, undef, undef, undef, undef, undef, undef, undef, undef, undef, undef, undef, undef, undef, undef, undef, undef, undef, undef, undef, undef, undef, undef, undef, undef, undef, undef, undef, undef, undef, undef, undef, undef, undef, undef, undef, Value.bool true, Value.bool true, Value.int IntKind.i64 x, Value.int IntKind.i64 y, Value.int IntKind.i64 mn, Value.agg #[Value.int IntKind.i64 2, Value.slice (some (Addr.mk g o none)) 2 sc, Value.int IntKind.i64 hosts], Value.int IntKind.i64 ww, Value.int IntKind.i64 ↑l0, Value.int IntKind.i64 x, Value.int IntKind.i64 y, Value.int IntKind.i64 mx, Value.agg #[Value.int IntKind.i64 2, Value.slice (some (Addr.mk g o none)) 2 sc, Value.int IntKind.i64 hosts], Value.int IntKind.i64 ww, Value.int IntKind.i64 M0, (if listed.getD 0 false = true then Value.int IntKind.i64 (x) else undef), (if listed.getD 1 false = true then Value.int IntKind.i64 (y) else undef), (if listed.getD 2 false = true then Value.int IntKind.i64 (mn) else undef), (if listed.getD 3 false = true then Value.agg #[.int .i64 2, .slice (some ⟨g, o, none⟩) 2 sc, .int .i64 hosts] else undef), (if listed.getD 4 false = true then Value.int IntKind.i64 (ww) else undef), (if listed.getD 5 false = true then Value.int IntKind.i64 (V) else undef), (if listed.getD 6 false = true then Value.int IntKind.i64 (x) else undef), (if listed.getD 7 false = true then Value.int IntKind.i64 (y) else undef), (if listed.getD 8 false = true then Value.int IntKind.i64 (mx) else undef), (if listed.getD 9 false = true then Value.agg #[.int .i64 2, .slice (some ⟨g, o, none⟩) 2 sc, .int .i64 hosts] else undef), (if listed.getD 10 false = true then Value.int IntKind.i64 (ww) else undef), (if listed.getD 11 false = true then Value.int IntKind.i64 (W0) else undef), undef, undef, undef, undef, undef, undef, undef, undef, undef, undef, undef, undef, undef, undef, undef, undef, undef, undef, undef, undef, undef, undef, undef, undef, undef, undef, undef, undef, undef, undef, undef, undef, undef, undef, undef, undef, undef, undef, undef, undef, undef, undef, undef, undef, undef, undef, undef, undef, undef, undef, undef, undef, undef, undef, undef, undef, undef, undef], []⟩) (hup_check (by kernel_rfl)) ?h0 ?step ?fin
  case h0 => exact ⟨IB.out.drew, rfl⟩
  case step =>
    intro listed a' w' i hs hbi hdep hi ⟨IB, ha⟩
    obtain ⟨ls⟩ := listed
    match ls, hs with
    | [x0, x1, x2, x3, x4, x5, x6, x7, x8, x9, x10, x11, x12, x13], _ =>
    subst ha
    have hi' : i = 0 ∨ i = 1 ∨ i = 2 ∨ i = 3 ∨ i = 4 ∨ i = 5 ∨ i = 6 ∨ i = 7 ∨ i = 8 ∨ i = 9 ∨ i = 10 ∨ i = 11 ∨ i = 12 ∨ i = 13 := by simp at hi; omega
    rcases hi' with rfl | rfl | rfl | rfl | rfl | rfl | rfl | rfl | rfl | rfl | rfl | rfl | rfl | rfl
    · obtain rfl : x0 = false := by simpa using hbi
      refine wpOpIn_plain rfl rfl rfl ?_
      exact ⟨IB, rfl⟩
    · obtain rfl : x1 = false := by simpa using hbi
      refine wpOpIn_plain rfl rfl rfl ?_
      exact ⟨IB, rfl⟩
    · obtain rfl : x2 = false := by simpa using hbi
      obtain rfl : x0 = true := hdep _ rfl ⟨0, .data⟩ (by simp) rfl
      obtain rfl : x1 = true := hdep _ rfl ⟨1, .data⟩ (by simp) rfl
      refine wpOpIn_plain (v := Value.int IntKind.i64 (mn)) (w' := w') rfl rfl (sem_min (vx := Value.int IntKind.i64 (x)) (vy := Value.int IntKind.i64 (y)) rfl rfl rfl (HMN.out w')) ?_
      exact ⟨IB, rfl⟩
    · obtain rfl : x3 = false := by simpa using hbi
      refine wpOpIn_load_row rfl rfl 34 _ rfl w.heap.size rfl 34 _ _ _ (heapB IB.out Q0.out) Tryz.underlying34 rfl info34 ?_
      exact ⟨IB, rfl⟩
    · obtain rfl : x4 = false := by simpa using hbi
      obtain rfl : x3 = true := hdep _ rfl ⟨3, .data⟩ (by simp) rfl
      refine wpOpIn_call (args := #[Value.agg #[.int .i64 2, .slice (some ⟨g, o, none⟩) 2 sc, .int .i64 hosts]]) rfl rfl (sem_call1 rfl rfl (enters_of Tryz.func95 (by kernel_rfl) rfl)) (HWD.out w' (HB.out.trans (IB.out.mono HB.out.size))) ?_
      rintro e V ⟨rfl, hb⟩
      exact ⟨_, rfl, (IB.out.trans (hb.mono IB.out.size)), rfl⟩
    · obtain rfl : x5 = false := by simpa using hbi
      obtain rfl : x2 = true := hdep _ rfl ⟨2, .data⟩ (by simp) rfl
      obtain rfl : x4 = true := hdep _ rfl ⟨4, .data⟩ (by simp) rfl
      refine wpOpIn_plain (v := Value.int IntKind.i64 (V)) (w' := w') rfl rfl (sem_bin (vx := Value.int IntKind.i64 (mn)) (vy := Value.int IntKind.i64 (ww)) rfl rfl rfl rfl (ER1.out w')) ?_
      exact ⟨IB, rfl⟩
    · obtain rfl : x6 = false := by simpa using hbi
      refine wpOpIn_plain rfl rfl rfl ?_
      exact ⟨IB, rfl⟩
    · obtain rfl : x7 = false := by simpa using hbi
      refine wpOpIn_plain rfl rfl rfl ?_
      exact ⟨IB, rfl⟩
    · obtain rfl : x8 = false := by simpa using hbi
      obtain rfl : x6 = true := hdep _ rfl ⟨6, .data⟩ (by simp) rfl
      obtain rfl : x7 = true := hdep _ rfl ⟨7, .data⟩ (by simp) rfl
      refine wpOpIn_plain (v := Value.int IntKind.i64 (mx)) (w' := w') rfl rfl (sem_max (vx := Value.int IntKind.i64 (x)) (vy := Value.int IntKind.i64 (y)) rfl rfl rfl (HMX.out w')) ?_
      exact ⟨IB, rfl⟩
    · obtain rfl : x9 = false := by simpa using hbi
      refine wpOpIn_load_row rfl rfl 34 _ rfl w.heap.size rfl 34 _ _ _ (heapB IB.out Q0.out) Tryz.underlying34 rfl info34 ?_
      exact ⟨IB, rfl⟩
    · obtain rfl : x10 = false := by simpa using hbi
      obtain rfl : x9 = true := hdep _ rfl ⟨9, .data⟩ (by simp) rfl
      refine wpOpIn_call (args := #[Value.agg #[.int .i64 2, .slice (some ⟨g, o, none⟩) 2 sc, .int .i64 hosts]]) rfl rfl (sem_call1 rfl rfl (enters_of Tryz.func95 (by kernel_rfl) rfl)) (HWD.out w' (HB.out.trans (IB.out.mono HB.out.size))) ?_
      rintro e V ⟨rfl, hb⟩
      exact ⟨_, rfl, (IB.out.trans (hb.mono IB.out.size)), rfl⟩
    · obtain rfl : x11 = false := by simpa using hbi
      obtain rfl : x8 = true := hdep _ rfl ⟨8, .data⟩ (by simp) rfl
      obtain rfl : x10 = true := hdep _ rfl ⟨10, .data⟩ (by simp) rfl
      refine wpOpIn_plain (v := Value.int IntKind.i64 (W0)) (w' := w') rfl rfl (sem_bin (vx := Value.int IntKind.i64 (mx)) (vy := Value.int IntKind.i64 (ww)) rfl rfl rfl rfl (ER2.out w')) ?_
      exact ⟨IB, rfl⟩
    · obtain rfl : x12 = false := by simpa using hbi
      obtain rfl : x5 = true := hdep _ rfl ⟨5, .data⟩ (by simp) rfl
      refine wpOpIn_plain rfl rfl rfl ?_
      exact ⟨IB, rfl⟩
    · obtain rfl : x13 = false := by simpa using hbi
      obtain rfl : x11 = true := hdep _ rfl ⟨11, .data⟩ (by simp) rfl
      refine wpOpIn_plain rfl rfl rfl ?_
      exact ⟨IB, rfl⟩
  case fin =>
  intro listed a' w6 hs hall ⟨IB, ha⟩
  obtain ⟨ls⟩ := listed
  match ls, hs with
  | [x0, x1, x2, x3, x4, x5, x6, x7, x8, x9, x10, x11, x12, x13], _ =>
  obtain rfl : x0 = true := hall 0 (by simp)
  obtain rfl : x1 = true := hall 1 (by simp)
  obtain rfl : x2 = true := hall 2 (by simp)
  obtain rfl : x3 = true := hall 3 (by simp)
  obtain rfl : x4 = true := hall 4 (by simp)
  obtain rfl : x5 = true := hall 5 (by simp)
  obtain rfl : x6 = true := hall 6 (by simp)
  obtain rfl : x7 = true := hall 7 (by simp)
  obtain rfl : x8 = true := hall 8 (by simp)
  obtain rfl : x9 = true := hall 9 (by simp)
  obtain rfl : x10 = true := hall 10 (by simp)
  obtain rfl : x11 = true := hall 11 (by simp)
  obtain rfl : x12 = true := hall 12 (by simp)
  obtain rfl : x13 = true := hall 13 (by simp)
  subst ha
  clear hs hall
  clear ER1 ER2 HMN HMX HWD
  have HW1 : Hid (∀ W, Below w.heap.size w W → Calls Tryz.prog 118 #[.agg #[.int .i64 2, .slice (some ⟨g, o, none⟩) 2 sc, .int .i64 hosts], .int .i64 (V), .int .i64 (l0 : Int), .int .i64 0] W fun e w' => e = .returned (.int .i64 (wthI k l0 (V) 0)) ∧ Below W.heap.size W w') := fun W hb => HWI.out W hb V V0 V1
  have HW2 : Hid (∀ W, Below w.heap.size w W → Calls Tryz.prog 118 #[.agg #[.int .i64 2, .slice (some ⟨g, o, none⟩) 2 sc, .int .i64 hosts], .int .i64 (W0), .int .i64 (l0 : Int), .int .i64 0] W fun e w' => e = .returned (.int .i64 (wthI k l0 (W0) 0)) ∧ Below W.heap.size W w') := fun W hb => HWI.out W hb W0 W00 W01
  clear HWI V1 W01
  generalize hp1 : wthI k l0 V 0 = p1 at *
  generalize hp2 : wthI k l0 W0 0 = p2 at *
  by_cases hml : ¬ M0 = (l0 : Int) + 1
  · have e1 : (M0 == (l0 : Int) + 1) = false := by simpa using hml
    have e2 := HES.out
    go_wp2_with fail
    go_quiet (fail)
    go_wp2_with fail
    go_ret
    exact ⟨by rw [e1]; rfl, HB.out.trans (below_drewN (IB.out.mono HB.out.size) _)⟩
  obtain rfl := Decidable.not_not.1 hml
  clear hml
  have hrf : ((l0 : Int) + 1 == (l0 : Int) + 1) = true := by simp
  go_wp2_with fail
  refine (wpIn_wide (n := 0)).1 ?_
  refine region_det (by kernel_rfl) (I := fun listed a' w' => Hid (Below X.heap.size X w') ∧ a' = ⟨#[Value.agg #[Value.int IntKind.i64 2, Value.slice (some (Addr.mk g o none)) 2 sc, Value.int IntKind.i64 hosts], Value.int IntKind.i64 x, Value.int IntKind.i64 y, Value.pointer (some (Addr.mk w.heap.size 0 none)), undef, undef, (if listed.getD 15 false = true then Value.bool (p1 == p2) else Value.bool false), undef, undef, undef, undef, undef, undef, Value.int IntKind.i64 ↑l0, Value.int IntKind.i64 (↑l0 + 1), Value.int IntKind.i64 V, Value.int IntKind.i64 W0, undef, undef, undef, Value.int IntKind.i64 x, Value.int IntKind.i64 y, Value.bool false, Value.pointer (some (Addr.mk w.heap.size 0 none)), Value.int IntKind.i64 2, Value.bool false, Value.bool false, undef, undef, undef, undef, undef, undef, undef, undef, undef, undef, undef, undef, undef, undef, undef, undef, undef, undef, undef, undef, undef, undef, undef, undef, undef, undef, undef, undef, undef, undef, undef, undef, undef, undef, undef, undef, undef, undef, undef, undef, undef, undef, undef, undef, undef, undef, undef, undef, undef, undef, undef, undef, undef, undef, undef, undef, undef, undef, undef, Value.bool true, Value.bool true, Value.int IntKind.i64 x, Value.int IntKind.i64 y, Value.int IntKind.i64 mn, Value.agg #[Value.int IntKind.i64 2, Value.slice (some (Addr.mk g o none)) 2 sc, Value.int IntKind.i64 hosts], Value.int IntKind.i64 ww, Value.int IntKind.i64 ↑l0, Value.int IntKind.i64 x, Value.int IntKind.i64 y, Value.int IntKind.i64 mx, Value.agg #[Value.int IntKind.i64 2, Value.slice (some (Addr.mk g o none)) 2 sc, Value.int IntKind.i64 hosts], Value.int IntKind.i64 ww, Value.int IntKind.i64 (↑l0 + 1), Value.int IntKind.i64 x, Value.int IntKind.i64 y, Value.int IntKind.i64 mn, Value.agg #[Value.int IntKind.i64 2, Value.slice (some (Addr.mk g o none)) 2 sc, Value.int IntKind.i64 hosts], Value.int IntKind.i64 ww, Value.int IntKind.i64 V, Value.int IntKind.i64 x, Value.int IntKind.i64 y, Value.int IntKind.i64 mx, Value.agg #[Value.int IntKind.i64 2, Value.slice (some (Addr.mk g o none)) 2 sc, Value.int IntKind.i64 hosts], Value.int IntKind.i64 ww, Value.int IntKind.i64 W0, (if listed.getD 0 false = true then Value.int IntKind.i64 ((l0 : Int) + 1) else undef), (if listed.getD 1 false = true then Value.int IntKind.i64 ((l0 : Int)) else undef), (if listed.getD 2 false = true then Value.int IntKind.i64 ((l0 : Int) + 1) else undef), (if listed.getD 3 false = true then Value.bool true else undef), (if listed.getD 4 false = true then Value.bool true else undef), (if listed.getD 5 false = true then Value.agg #[.int .i64 2, .slice (some ⟨g, o, none⟩) 2 sc, .int .i64 hosts] else undef), (if listed.getD 6 false = true then Value.int IntKind.i64 (V) else undef), (if listed.getD 7 false = true then Value.int IntKind.i64 ((l0 : Int)) else undef), (if listed.getD 8 false = true then Value.int IntKind.i64 (p1) else undef), (if listed.getD 9 false = true then Value.agg #[.int .i64 2, .slice (some ⟨g, o, none⟩) 2 sc, .int .i64 hosts] else undef), (if listed.getD 10 false = true then Value.int IntKind.i64 (W0) else undef), (if listed.getD 11 false = true then Value.int IntKind.i64 ((l0 : Int)) else undef), (if listed.getD 12 false = true then Value.int IntKind.i64 (p2) else undef), (if listed.getD 13 false = true then Value.bool (p1 == p2) else undef), (if listed.getD 14 false = true then Value.bool (p1 == p2) else undef), undef, undef, undef, undef, undef, undef, undef, undef, undef, undef, undef, undef, undef, undef, undef, undef, undef, undef, undef, undef, undef, undef, undef, undef, undef, undef, undef, undef, undef, undef, undef, undef, undef, undef, undef, undef, undef, undef, undef, undef, undef, undef, undef], []⟩) (hup_check (by kernel_rfl)) ?h0 ?step ?fin
  case h0 => exact ⟨IB.out.drew, rfl⟩
  case step =>
    intro listed a' w' i hs hbi hdep hi ⟨IB, ha⟩
    obtain ⟨ls⟩ := listed
    match ls, hs with
    | [x0, x1, x2, x3, x4, x5, x6, x7, x8, x9, x10, x11, x12, x13, x14, x15], _ =>
    subst ha
    have hi' : i = 0 ∨ i = 1 ∨ i = 2 ∨ i = 3 ∨ i = 4 ∨ i = 5 ∨ i = 6 ∨ i = 7 ∨ i = 8 ∨ i = 9 ∨ i = 10 ∨ i = 11 ∨ i = 12 ∨ i = 13 ∨ i = 14 ∨ i = 15 := by simp at hi; omega
    rcases hi' with rfl | rfl | rfl | rfl | rfl | rfl | rfl | rfl | rfl | rfl | rfl | rfl | rfl | rfl | rfl | rfl
    · obtain rfl : x0 = false := by simpa using hbi
      refine wpOpIn_plain rfl rfl rfl ?_
      exact ⟨IB, rfl⟩
    · obtain rfl : x1 = false := by simpa using hbi
      refine wpOpIn_plain rfl rfl rfl ?_
      exact ⟨IB, rfl⟩
    · obtain rfl : x2 = false := by simpa using hbi
      obtain rfl : x1 = true := hdep _ rfl ⟨1, .data⟩ (by simp) rfl
      refine wpOpIn_plain (v := Value.int IntKind.i64 ((l0 : Int) + 1)) (w' := w') rfl rfl (sem_bin (vx := Value.int IntKind.i64 ((l0 : Int))) (vy := Value.int IntKind.i64 (1)) rfl rfl rfl rfl (HES.out w')) ?_
      exact ⟨IB, rfl⟩
    · obtain rfl : x3 = false := by simpa using hbi
      obtain rfl : x0 = true := hdep _ rfl ⟨0, .data⟩ (by simp) rfl
      obtain rfl : x2 = true := hdep _ rfl ⟨2, .data⟩ (by simp) rfl
      refine wpOpIn_plain (v := Value.bool true) (w' := w') rfl rfl (by simp [Oper.semAt, execOp, go_sem]) ?_
      exact ⟨IB, rfl⟩
    · obtain rfl : x4 = false := by simpa using hbi
      obtain rfl : x3 = true := hdep _ rfl ⟨3, .data⟩ (by simp) rfl
      refine wpOpIn_plain rfl rfl rfl ?_
      exact ⟨IB, rfl⟩
    · obtain rfl : x5 = false := by simpa using hbi
      obtain rfl : x4 = true := hdep _ rfl ⟨4, .guard⟩ (by simp) rfl
      refine wpOpIn_rowg rfl rfl rfl 34 _ rfl w.heap.size rfl 34 _ _ _ (heapB IB.out Q0.out) Tryz.underlying34 rfl info34 ?_
      exact ⟨IB, rfl⟩
    · obtain rfl : x6 = false := by simpa using hbi
      obtain rfl : x4 = true := hdep _ rfl ⟨4, .guard⟩ (by simp) rfl
      refine wpOpIn_guard (v := Value.int IntKind.i64 (V)) (w' := w') rfl rfl rfl (by simp [Oper.semAt, execOp, go_sem]) ?_
      exact ⟨IB, rfl⟩
    · obtain rfl : x7 = false := by simpa using hbi
      obtain rfl : x4 = true := hdep _ rfl ⟨4, .guard⟩ (by simp) rfl
      refine wpOpIn_guard (v := Value.int IntKind.i64 ((l0 : Int))) (w' := w') rfl rfl rfl (by simp [Oper.semAt, execOp, go_sem]) ?_
      exact ⟨IB, rfl⟩
    · obtain rfl : x8 = false := by simpa using hbi
      obtain rfl : x5 = true := hdep _ rfl ⟨5, .data⟩ (by simp) rfl
      obtain rfl : x6 = true := hdep _ rfl ⟨6, .data⟩ (by simp) rfl
      obtain rfl : x7 = true := hdep _ rfl ⟨7, .data⟩ (by simp) rfl
      obtain rfl : x4 = true := hdep _ rfl ⟨4, .guard⟩ (by simp) rfl
      refine wpOpIn_callg (args := #[Value.agg #[.int .i64 2, .slice (some ⟨g, o, none⟩) 2 sc, .int .i64 hosts], Value.int IntKind.i64 (V), Value.int IntKind.i64 ((l0 : Int)), Value.int IntKind.i64 (0)]) rfl rfl rfl (sem_call4 rfl rfl rfl rfl rfl (enters_of Tryz.func118 (by kernel_rfl) rfl)) (HW1.out w' (HB.out.trans (IB.out.mono HB.out.size))) ?_
      rintro e V9 ⟨rfl, hb⟩
      exact ⟨_, rfl, (IB.out.trans (hb.mono IB.out.size)), rfl⟩
    · obtain rfl : x9 = false := by simpa using hbi
      obtain rfl : x4 = true := hdep _ rfl ⟨4, .guard⟩ (by simp) rfl
      refine wpOpIn_rowg rfl rfl rfl 34 _ rfl w.heap.size rfl 34 _ _ _ (heapB IB.out Q0.out) Tryz.underlying34 rfl info34 ?_
      exact ⟨IB, rfl⟩
    · obtain rfl : x10 = false := by simpa using hbi
      obtain rfl : x4 = true := hdep _ rfl ⟨4, .guard⟩ (by simp) rfl
      refine wpOpIn_guard (v := Value.int IntKind.i64 (W0)) (w' := w') rfl rfl rfl (by simp [Oper.semAt, execOp, go_sem]) ?_
      exact ⟨IB, rfl⟩
    · obtain rfl : x11 = false := by simpa using hbi
      obtain rfl : x4 = true := hdep _ rfl ⟨4, .guard⟩ (by simp) rfl
      refine wpOpIn_guard (v := Value.int IntKind.i64 ((l0 : Int))) (w' := w') rfl rfl rfl (by simp [Oper.semAt, execOp, go_sem]) ?_
      exact ⟨IB, rfl⟩
    · obtain rfl : x12 = false := by simpa using hbi
      obtain rfl : x9 = true := hdep _ rfl ⟨9, .data⟩ (by simp) rfl
      obtain rfl : x10 = true := hdep _ rfl ⟨10, .data⟩ (by simp) rfl
      obtain rfl : x11 = true := hdep _ rfl ⟨11, .data⟩ (by simp) rfl
      obtain rfl : x4 = true := hdep _ rfl ⟨4, .guard⟩ (by simp) rfl
      refine wpOpIn_callg (args := #[Value.agg #[.int .i64 2, .slice (some ⟨g, o, none⟩) 2 sc, .int .i64 hosts], Value.int IntKind.i64 (W0), Value.int IntKind.i64 ((l0 : Int)), Value.int IntKind.i64 (0)]) rfl rfl rfl (sem_call4 rfl rfl rfl rfl rfl (enters_of Tryz.func118 (by kernel_rfl) rfl)) (HW2.out w' (HB.out.trans (IB.out.mono HB.out.size))) ?_
      rintro e V9 ⟨rfl, hb⟩
      exact ⟨_, rfl, (IB.out.trans (hb.mono IB.out.size)), rfl⟩
    · obtain rfl : x13 = false := by simpa using hbi
      obtain rfl : x8 = true := hdep _ rfl ⟨8, .data⟩ (by simp) rfl
      obtain rfl : x12 = true := hdep _ rfl ⟨12, .data⟩ (by simp) rfl
      obtain rfl : x4 = true := hdep _ rfl ⟨4, .guard⟩ (by simp) rfl
      refine wpOpIn_guard (v := Value.bool (p1 == p2)) (w' := w') rfl rfl rfl (by simp [Oper.semAt, execOp, go_sem]) ?_
      exact ⟨IB, rfl⟩
    · obtain rfl : x14 = false := by simpa using hbi
      obtain rfl : x4 = true := hdep _ rfl ⟨4, .data⟩ (by simp) rfl
      obtain rfl : x13 = true := hdep _ rfl ⟨13, .data⟩ (by simp) rfl
      refine wpOpIn_plain (v := Value.bool (p1 == p2)) (w' := w') rfl rfl (by simp [Oper.semAt, execOp, go_sem]) ?_
      exact ⟨IB, rfl⟩
    · obtain rfl : x15 = false := by simpa using hbi
      obtain rfl : x14 = true := hdep _ rfl ⟨14, .data⟩ (by simp) rfl
      refine wpOpIn_plain rfl rfl rfl ?_
      exact ⟨IB, rfl⟩
  case fin =>
  intro listed a' w7 hs hall ⟨IB, ha⟩
  obtain ⟨ls⟩ := listed
  match ls, hs with
  | [x0, x1, x2, x3, x4, x5, x6, x7, x8, x9, x10, x11, x12, x13, x14, x15], _ =>
  obtain rfl : x0 = true := hall 0 (by simp)
  obtain rfl : x1 = true := hall 1 (by simp)
  obtain rfl : x2 = true := hall 2 (by simp)
  obtain rfl : x3 = true := hall 3 (by simp)
  obtain rfl : x4 = true := hall 4 (by simp)
  obtain rfl : x5 = true := hall 5 (by simp)
  obtain rfl : x6 = true := hall 6 (by simp)
  obtain rfl : x7 = true := hall 7 (by simp)
  obtain rfl : x8 = true := hall 8 (by simp)
  obtain rfl : x9 = true := hall 9 (by simp)
  obtain rfl : x10 = true := hall 10 (by simp)
  obtain rfl : x11 = true := hall 11 (by simp)
  obtain rfl : x12 = true := hall 12 (by simp)
  obtain rfl : x13 = true := hall 13 (by simp)
  obtain rfl : x14 = true := hall 14 (by simp)
  obtain rfl : x15 = true := hall 15 (by simp)
  subst ha
  clear hs hall
  go_wp2_with fail
  go_ret
  exact ⟨by subst hp1; subst hp2; rfl, HB.out.trans (IB.out.mono HB.out.size)⟩
end Go.Proofs.YtbhkenphcahifaaGreat

namespace Go.Proofs.YtbhkenphcahifaaGreat
open Go.RowKit Go.Shelf
attribute [local go_sem] Oper.semAt_some
set_option maxRecDepth 100000
set_option maxHeartbeats 4000000

/-- are two switches of a dragonfly linked -/
theorem rLinked3_any {w : World} {g o : Nat} (a h : Int) (ha : 1 ≤ a) (ha2 : a ≤ 16) (hh : 1 ≤ h) (hh2 : h ≤ 4) (ht : Two w g o a h) (sc : Nat) (hosts x y : Int) (hx : 0 ≤ x) (hx2 : x < a * (a * h + 1)) (hy : 0 ≤ y) (hy2 : y < a * (a * h + 1)) (hne : x ≠ y) {G gx gy P : Int} (hG : a * h + 1 = G) (hgx : x / a = gx) (hgy : y / a = gy) (hP : (gy - gx - 1 + G) % G = P) :
    Calls Tryz.prog 96 #[.agg #[.int .i64 3, .slice (some ⟨g, o, none⟩) 2 sc, .int .i64 hosts], .int .i64 x, .int .i64 y] w fun e w' => e = .returned (.bool (gx == gy || (gx * a + P / h == x && gy * a + (G - 2 - P) / h == y))) ∧ Below w.heap.size w w' := by
  have HB := Lib.hid ((Below.refl w.heap.size w).alloc (Nat.le_refl _) (.cells #[.int .i64 3, .slice (some ⟨g, o, none⟩) 2 sc, .int .i64 hosts] 34))
  have Q0 := Lib.hid (heap_alloc_new w (.cells #[.int .i64 3, .slice (some ⟨g, o, none⟩) 2 sc, .int .i64 hosts] 34))
  have c0 := cellR 0 Q0.out rfl
  have c1 := cellR 1 Q0.out rfl
  have e0 := (ht.keep HB.out).1
  have hxy : (x == y) = false := by simpa using hne
  obtain ⟨b1, b2, b3, b4⟩ : 1 ≤ a * h ∧ a * h ≤ 64 ∧ 1 ≤ a * (a * h + 1) ∧ a * (a * h + 1) ≤ 1040 := drag_bound ha ha2 hh hh2
  have hg0 : 1 ≤ G := by omega
  have hg1 : G ≤ 100 := by omega
  have hgx0 : 0 ≤ gx := by rw [← hgx]; exact Int.ediv_nonneg hx (show 0 ≤ a by omega)
  have hgy0 : 0 ≤ gy := by rw [← hgy]; exact Int.ediv_nonneg hy (show 0 ≤ a by omega)
  have hgx1 : gx < G := by rw [← hgx]; exact Int.ediv_lt_of_lt_mul (by omega) (by rw [← hG, Int.mul_comm]; exact hx2)
  have hgy1 : gy < G := by rw [← hgy]; exact Int.ediv_lt_of_lt_mul (by omega) (by rw [← hG, Int.mul_comm]; exact hy2)
  have E1 : wrap64 (x.tdiv a) = gx := by rw [Int.tdiv_eq_ediv_of_nonneg hx]; unfold wrap64; omega
  have E2 : wrap64 (y.tdiv a) = gy := by rw [Int.tdiv_eq_ediv_of_nonneg hy]; unfold wrap64; omega
  have hane : a ≠ 0 := by omega
  have hP0 : 0 ≤ P := by rw [← hP]; exact Int.emod_nonneg _ (by omega)
  have hP1 : P < G := by rw [← hP]; exact Int.emod_lt_of_pos _ (by omega)
  have hP2 : gx ≠ gy → P ≤ G - 2 := fun hne => by
    have h5 : (gy - gx - 1 + G) % G = if gx < gy then gy - gx - 1 else gy - gx - 1 + G := by
      split
      · rw [Int.add_emod_right]; exact Int.emod_eq_of_lt (by omega) (by omega)
      · exact Int.emod_eq_of_lt (by omega) (by omega)
    rw [← hP, h5]; split <;> omega
  have HGR : Hid (∀ W, Below w.heap.size w W → Calls Tryz.prog 65 #[.agg #[.int .i64 3, .slice (some ⟨g, o, none⟩) 2 sc, .int .i64 hosts]] W fun e w' => e = .returned (.int .i64 G) ∧ Below W.heap.size W w') := fun W hb => by
    have := rGroups_any a h ha ha2 hh hh2 (ht.keep hb) sc 3 hosts
    rwa [hG] at this
  have HPT : Hid (∀ W, Below w.heap.size w W → ∀ gr m : Int, 0 ≤ gr → gr ≤ 1000 → 0 ≤ m → m ≤ 1000 → Calls Tryz.prog 119 #[.agg #[.int .i64 3, .slice (some ⟨g, o, none⟩) 2 sc, .int .i64 hosts], .int .i64 gr, .int .i64 m] W fun e w' => e = .returned (.int .i64 (gr * a + m / h)) ∧ Below W.heap.size W w') := fun W hb gr m g0 g1 m0 m1 => rPort_any a h ha ha2 hh hh2 (ht.keep hb) sc 3 hosts gr m g0 g1 m0 m1
  have HS1 := Lib.hid (fun W => i64_sub gy gx (by omega) (by omega) W)
  have HS2 := Lib.hid (fun W => i64_sub (gy - gx) 1 (by omega) (by omega) W)
  have HA1 := Lib.hid (fun W => i64_add (gy - gx - 1) G (by omega) (by omega) W)
  have HR1 := Lib.hid (fun W => i64_rem (gy - gx - 1 + G) G (by omega) (by omega) W)
  have HS3 := Lib.hid (fun W => i64_sub G 2 (by omega) (by omega) W)
  have HS4 := Lib.hid (fun W => i64_sub (G - 2) P (by omega) (by omega) W)
  rw [hP] at HR1
  clear hne ht hG hgx hgy hP hx2 hy2 hx hy b1 b2 b3 b4
  go_enter Tryz.func96, Tryz.ntmps96
  go_wp2_with fail
  generalize w.alloc (.cells #[.int .i64 3, .slice (some ⟨g, o, none⟩) 2 sc, .int .i64 hosts] 34) = X at *
  go_quiet (fail)
  rw [E1, E2]
  replace HB := Lib.hid (below_drewN HB.out nq)
  have Q1 : Hid ((X.drewN nq).heap[w.heap.size]? = some (.cells #[.int .i64 3, .slice (some ⟨g, o, none⟩) 2 sc, .int .i64 hosts] 34 (0, 0))) := Q0.out
  clear Q0 c0 c1 e0 E1 E2 hxy
  generalize X.drewN nq = Y at *
  by_cases hgg : gx = gy
  · have e1 : (gx == gy) = true := by simpa using hgg
    go_wp2_with fail
    go_ret
    exact ⟨by rw [e1]; rfl, HB.out⟩
  have hgn : (gx == gy) = false := by simpa using hgg
  replace hP2 := hP2 hgg
  clear hgg
  go_wp2_with fail
  refine (wpIn_wide (n := 0)).1 ?_
  refine region_det (by kernel_rfl) (I := fun listed a' w' => Hid (Below Y.heap.size Y w') ∧ a' = ⟨#[Value.agg #[Value.int IntKind.i64 3, Value.slice (some (Addr.mk g o none)) 2 sc, Value.int IntKind.i64 hosts], Value.int IntKind.i64 x, Value.int IntKind.i64 y, Value.pointer (some (Addr.mk w.heap.size 0 none)), undef, undef, Value.bool false, undef, undef, undef, undef, undef, undef, undef, undef, undef, undef, Value.int IntKind.i64 gx, Value.int IntKind.i64 gy, (if listed.getD 10 false = true then Value.int IntKind.i64 (P) else undef), Value.int IntKind.i64 x, Value.int IntKind.i64 y, Value.bool false, Value.pointer (some (Addr.mk w.heap.size 0 none)), Value.int IntKind.i64 3, Value.bool false, Value.bool false, undef, undef, undef, undef, undef, undef, undef, undef, undef, undef, undef, undef, undef, undef, undef, undef, undef, undef, undef, undef, undef, undef, undef, undef, undef, undef, undef, undef, undef, undef, undef, undef, undef, undef, undef, undef, undef, undef, undef, undef, undef, undef, undef, undef, undef, undef, undef, undef, undef, undef, undef, undef, undef, undef, undef, undef, undef, undef, undef, Value.bool false, Value.bool false, undef, undef, undef, undef, undef, undef, undef, undef, undef, undef, undef, undef, undef, undef, undef, undef, undef, undef, undef, undef, undef, undef, undef, undef, undef, undef, undef, undef, undef, undef, undef, undef, undef, undef, undef, undef, undef, undef, undef, Value.int IntKind.i64 x, Value.pointer (some (Addr.mk w.heap.size 1 none)), Value.slice (some (Addr.mk g o none)) 2 sc, Value.pointer (some (Addr.mk g o none)), Value.int IntKind.i64 a, Value.int IntKind.i64 gx, Value.int IntKind.i64 y, Value.pointer (some (Addr.mk w.heap.size 1 none)), Value.slice (some (Addr.mk g o none)) 2 sc, Value.pointer (some (Addr.mk g o none)), Value.int IntKind.i64 a, Value.int IntKind.i64 gy, Value.int IntKind.i64 gx, Value.int IntKind.i64 gy, Value.bool false, (if listed.getD 0 false = true then Value.int IntKind.i64 (gy) else undef), (if listed.getD 1 false = true then Value.int IntKind.i64 (gx) else undef), (if listed.getD 2 false = true then Value.int IntKind.i64 (gy - gx) else undef), (if listed.getD 3 false = true then Value.int IntKind.i64 (gy - gx - 1) else undef), (if listed.getD 4 false = true then Value.agg #[.int .i64 3, .slice (some ⟨g, o, none⟩) 2 sc, .int .i64 hosts] else undef), (if listed.getD 5 false = true then Value.int IntKind.i64 (G) else undef), (if listed.getD 6 false = true then Value.int IntKind.i64 (gy - gx - 1 + G) else undef), (if listed.getD 7 false = true then Value.agg #[.int .i64 3, .slice (some ⟨g, o, none⟩) 2 sc, .int .i64 hosts] else undef), (if listed.getD 8 false = true then Value.int IntKind.i64 (G) else undef), (if listed.getD 9 false = true then Value.int IntKind.i64 (P) else undef), undef, undef, undef, undef, undef, undef, undef, undef, undef, undef, undef, undef, undef, undef, undef, undef, undef, undef], []⟩) (hup_check (by kernel_rfl)) ?h0 ?step ?fin
  case h0 => exact ⟨(Below.refl _ _).drew, rfl⟩
  case step =>
    intro listed a' w' i hs hbi hdep hi ⟨IB, ha⟩
    obtain ⟨ls⟩ := listed
    match ls, hs with
    | [x0, x1, x2, x3, x4, x5, x6, x7, x8, x9, x10], _ =>
    subst ha
    have hi' : i = 0 ∨ i = 1 ∨ i = 2 ∨ i = 3 ∨ i = 4 ∨ i = 5 ∨ i = 6 ∨ i = 7 ∨ i = 8 ∨ i = 9 ∨ i = 10 := by simp at hi; omega
    rcases hi' with rfl | rfl | rfl | rfl | rfl | rfl | rfl | rfl | rfl | rfl | rfl
    · obtain rfl : x0 = false := by simpa using hbi
      refine wpOpIn_plain rfl rfl rfl ?_
      exact ⟨IB, rfl⟩
    · obtain rfl : x1 = false := by simpa using hbi
      refine wpOpIn_plain rfl rfl rfl ?_
      exact ⟨IB, rfl⟩
    · obtain rfl : x2 = false := by simpa using hbi
      obtain rfl : x0 = true := hdep _ rfl ⟨0, .data⟩ (by simp) rfl
      obtain rfl : x1 = true := hdep _ rfl ⟨1, .data⟩ (by simp) rfl
      refine wpOpIn_plain (v := Value.int IntKind.i64 (gy - gx)) (w' := w') rfl rfl (sem_bin (vx := Value.int IntKind.i64 (gy)) (vy := Value.int IntKind.i64 (gx)) rfl rfl rfl rfl (HS1.out w')) ?_
      exact ⟨IB, rfl⟩
    · obtain rfl : x3 = false := by simpa using hbi
      obtain rfl : x2 = true := hdep _ rfl ⟨2, .data⟩ (by simp) rfl
      refine wpOpIn_plain (v := Value.int IntKind.i64 (gy - gx - 1)) (w' := w') rfl rfl (sem_bin (vx := Value.int IntKind.i64 (gy - gx)) (vy := Value.int IntKind.i64 (1)) rfl rfl rfl rfl (HS2.out w')) ?_
      exact ⟨IB, rfl⟩
    · obtain rfl : x4 = false := by simpa using hbi
      refine wpOpIn_load_row rfl rfl 34 _ rfl w.heap.size rfl 34 _ _ _ (heapB IB.out Q1.out) Tryz.underlying34 rfl info34 ?_
      exact ⟨IB, rfl⟩
    · obtain rfl : x5 = false := by simpa using hbi
      obtain rfl : x4 = true := hdep _ rfl ⟨4, .data⟩ (by simp) rfl
      refine wpOpIn_call (args := #[Value.agg #[.int .i64 3, .slice (some ⟨g, o, none⟩) 2 sc, .int .i64 hosts]]) rfl rfl (sem_call1 rfl rfl (enters_of Tryz.func65 (by kernel_rfl) rfl)) (HGR.out w' (HB.out.trans (IB.out.mono HB.out.size))) ?_
      rintro e V9 ⟨rfl, hb⟩
      exact ⟨_, rfl, (IB.out.trans (hb.mono IB.out.size)), rfl⟩
    · obtain rfl : x6 = false := by simpa using hbi
      obtain rfl : x3 = true := hdep _ rfl ⟨3, .data⟩ (by simp) rfl
      obtain rfl : x5 = true := hdep _ rfl ⟨5, .data⟩ (by simp) rfl
      refine wpOpIn_plain (v := Value.int IntKind.i64 (gy - gx - 1 + G)) (w' := w') rfl rfl (sem_bin (vx := Value.int IntKind.i64 (gy - gx - 1)) (vy := Value.int IntKind.i64 (G)) rfl rfl rfl rfl (HA1.out w')) ?_
      exact ⟨IB, rfl⟩
    · obtain rfl : x7 = false := by simpa using hbi
      refine wpOpIn_load_row rfl rfl 34 _ rfl w.heap.size rfl 34 _ _ _ (heapB IB.out Q1.out) Tryz.underlying34 rfl info34 ?_
      exact ⟨IB, rfl⟩
    · obtain rfl : x8 = false := by simpa using hbi
      obtain rfl : x7 = true := hdep _ rfl ⟨7, .data⟩ (by simp) rfl
      refine wpOpIn_call (args := #[Value.agg #[.int .i64 3, .slice (some ⟨g, o, none⟩) 2 sc, .int .i64 hosts]]) rfl rfl (sem_call1 rfl rfl (enters_of Tryz.func65 (by kernel_rfl) rfl)) (HGR.out w' (HB.out.trans (IB.out.mono HB.out.size))) ?_
      rintro e V9 ⟨rfl, hb⟩
      exact ⟨_, rfl, (IB.out.trans (hb.mono IB.out.size)), rfl⟩
    · obtain rfl : x9 = false := by simpa using hbi
      obtain rfl : x6 = true := hdep _ rfl ⟨6, .data⟩ (by simp) rfl
      obtain rfl : x8 = true := hdep _ rfl ⟨8, .data⟩ (by simp) rfl
      refine wpOpIn_plain (v := Value.int IntKind.i64 (P)) (w' := w') rfl rfl (sem_bin (vx := Value.int IntKind.i64 (gy - gx - 1 + G)) (vy := Value.int IntKind.i64 (G)) rfl rfl rfl rfl (HR1.out w')) ?_
      exact ⟨IB, rfl⟩
    · obtain rfl : x10 = false := by simpa using hbi
      obtain rfl : x9 = true := hdep _ rfl ⟨9, .data⟩ (by simp) rfl
      refine wpOpIn_plain rfl rfl rfl ?_
      exact ⟨IB, rfl⟩
  case fin =>
  intro listed a' w5 hs hall ⟨IB, ha⟩
  obtain ⟨ls⟩ := listed
  match ls, hs with
  | [x0, x1, x2, x3, x4, x5, x6, x7, x8, x9, x10], _ =>
  obtain rfl : x0 = true := hall 0 (by simp)
  obtain rfl : x1 = true := hall 1 (by simp)
  obtain rfl : x2 = true := hall 2 (by simp)
  obtain rfl : x3 = true := hall 3 (by simp)
  obtain rfl : x4 = true := hall 4 (by simp)
  obtain rfl : x5 = true := hall 5 (by simp)
  obtain rfl : x6 = true := hall 6 (by simp)
  obtain rfl : x7 = true := hall 7 (by simp)
  obtain rfl : x8 = true := hall 8 (by simp)
  obtain rfl : x9 = true := hall 9 (by simp)
  obtain rfl : x10 = true := hall 10 (by simp)
  subst ha
  clear hs hall HS1 HS2 HA1 HR1
  obtain ⟨p1, hp1⟩ : ∃ p1, p1 = gx * a + P / h := ⟨_, rfl⟩
  obtain ⟨p2, hp2⟩ : ∃ p2, p2 = gy * a + (G - 2 - P) / h := ⟨_, rfl⟩
  have HW1 : Hid (∀ W, Below w.heap.size w W → Calls Tryz.prog 119 #[.agg #[.int .i64 3, .slice (some ⟨g, o, none⟩) 2 sc, .int .i64 hosts], .int .i64 (gx), .int .i64 (P)] W fun e w' => e = .returned (.int .i64 (p1)) ∧ Below W.heap.size W w') := fun W hb => by rw [hp1]; exact HPT.out W hb gx P hgx0 (by omega) hP0 (by omega)
  have HW2 : Hid (∀ W, Below w.heap.size w W → Calls Tryz.prog 119 #[.agg #[.int .i64 3, .slice (some ⟨g, o, none⟩) 2 sc, .int .i64 hosts], .int .i64 (gy), .int .i64 (G - 2 - P)] W fun e w' => e = .returned (.int .i64 (p2)) ∧ Below W.heap.size W w') := fun W hb => by rw [hp2]; exact HPT.out W hb gy (G - 2 - P) hgy0 (by omega) (by omega) (by omega)
  clear HPT
  have HP1 := Lib.hid hp1
  have HP2 := Lib.hid hp2
  clear hp1 hp2
  go_wp2_with fail
  by_cases hx1 : p1 = x
  · have hrf : (p1 == x) = true := by simpa using hx1
    refine (wpIn_wide (n := 0)).1 ?_
    refine region_det (by kernel_rfl) (I := fun listed a' w' => Hid (Below Y.heap.size Y w') ∧ a' = ⟨#[Value.agg #[Value.int IntKind.i64 3, Value.slice (some (Addr.mk g o none)) 2 sc, Value.int IntKind.i64 hosts], Value.int IntKind.i64 x, Value.int IntKind.i64 y, Value.pointer (some (Addr.mk w.heap.size 0 none)), undef, undef, (if listed.getD 18 false = true then Value.bool (p2 == y) else Value.bool false), undef, undef, undef, undef, undef, undef, undef, undef, undef, undef, Value.int IntKind.i64 gx, Value.int IntKind.i64 gy, Value.int IntKind.i64 P, Value.int IntKind.i64 x, Value.int IntKind.i64 y, Value.bool false, Value.pointer (some (Addr.mk w.heap.size 0 none)), Value.int IntKind.i64 3, Value.bool false, Value.bool false, undef, undef, undef, undef, undef, undef, undef, undef, undef, undef, undef, undef, undef, undef, undef, undef, undef, undef, undef, undef, undef, undef, undef, undef, undef, undef, undef, undef, undef, undef, undef, undef, undef, undef, undef, undef, undef, undef, undef, undef, undef, undef, undef, undef, undef, undef, undef, undef, undef, undef, undef, undef, undef, undef, undef, undef, undef, undef, undef, Value.bool false, Value.bool false, undef, undef, undef, undef, undef, undef, undef, undef, undef, undef, undef, undef, undef, undef, undef, undef, undef, undef, undef, undef, undef, undef, undef, undef, undef, undef, undef, undef, undef, undef, undef, undef, undef, undef, undef, undef, undef, undef, undef, Value.int IntKind.i64 x, Value.pointer (some (Addr.mk w.heap.size 1 none)), Value.slice (some (Addr.mk g o none)) 2 sc, Value.pointer (some (Addr.mk g o none)), Value.int IntKind.i64 a, Value.int IntKind.i64 gx, Value.int IntKind.i64 y, Value.pointer (some (Addr.mk w.heap.size 1 none)), Value.slice (some (Addr.mk g o none)) 2 sc, Value.pointer (some (Addr.mk g o none)), Value.int IntKind.i64 a, Value.int IntKind.i64 gy, Value.int IntKind.i64 gx, Value.int IntKind.i64 gy, Value.bool false, Value.int IntKind.i64 gy, Value.int IntKind.i64 gx, Value.int IntKind.i64 (gy - gx), Value.int IntKind.i64 (gy - gx - 1), Value.agg #[Value.int IntKind.i64 3, Value.slice (some (Addr.mk g o none)) 2 sc, Value.int IntKind.i64 hosts], Value.int IntKind.i64 G, Value.int IntKind.i64 (gy - gx - 1 + G), Value.agg #[Value.int IntKind.i64 3, Value.slice (some (Addr.mk g o none)) 2 sc, Value.int IntKind.i64 hosts], Value.int IntKind.i64 G, Value.int IntKind.i64 P, (if listed.getD 0 false = true then Value.agg #[.int .i64 3, .slice (some ⟨g, o, none⟩) 2 sc, .int .i64 hosts] else undef), (if listed.getD 1 false = true then Value.int IntKind.i64 (gx) else undef), (if listed.getD 2 false = true then Value.int IntKind.i64 (P) else undef), (if listed.getD 3 false = true then Value.int IntKind.i64 (p1) else undef), (if listed.getD 4 false = true then Value.int IntKind.i64 (x) else undef), (if listed.getD 5 false = true then Value.bool true else undef), (if listed.getD 6 false = true then Value.bool true else undef), (if listed.getD 7 false = true then Value.agg #[.int .i64 3, .slice (some ⟨g, o, none⟩) 2 sc, .int .i64 hosts] else undef), (if listed.getD 8 false = true then Value.int IntKind.i64 (gy) else undef), (if listed.getD 9 false = true then Value.agg #[.int .i64 3, .slice (some ⟨g, o, none⟩) 2 sc, .int .i64 hosts] else undef), (if listed.getD 10 false = true then Value.int IntKind.i64 (G) else undef), (if listed.getD 11 false = true then Value.int IntKind.i64 (G - 2) else undef), (if listed.getD 12 false = true then Value.int IntKind.i64 (P) else undef), (if listed.getD 13 false = true then Value.int IntKind.i64 (G - 2 - P) else undef), (if listed.getD 14 false = true then Value.int IntKind.i64 (p2) else undef), (if listed.getD 15 false = true then Value.int IntKind.i64 (y) else undef), (if listed.getD 16 false = true then Value.bool (p2 == y) else undef), (if listed.getD 17 false = true then Value.bool (p2 == y) else undef)], []⟩) (hup_check (by kernel_rfl)) ?h0 ?step ?fin
    case h0 => exact ⟨IB.out.drew, rfl⟩
    case step =>
      intro listed a' w' i hs hbi hdep hi ⟨IB, ha⟩
      obtain ⟨ls⟩ := listed
      match ls, hs with
      | [x0, x1, x2, x3, x4, x5, x6, x7, x8, x9, x10, x11, x12, x13, x14, x15, x16, x17, x18], _ =>
      subst ha
      have hi' : i = 0 ∨ i = 1 ∨ i = 2 ∨ i = 3 ∨ i = 4 ∨ i = 5 ∨ i = 6 ∨ i = 7 ∨ i = 8 ∨ i = 9 ∨ i = 10 ∨ i = 11 ∨ i = 12 ∨ i = 13 ∨ i = 14 ∨ i = 15 ∨ i = 16 ∨ i = 17 ∨ i = 18 := by simp at hi; omega
      rcases hi' with rfl | rfl | rfl | rfl | rfl | rfl | rfl | rfl | rfl | rfl | rfl | rfl | rfl | rfl | rfl | rfl | rfl | rfl | rfl
      · obtain rfl : x0 = false := by simpa using hbi
        refine wpOpIn_load_row rfl rfl 34 _ rfl w.heap.size rfl 34 _ _ _ (heapB IB.out Q1.out) Tryz.underlying34 rfl info34 ?_
        exact ⟨IB, rfl⟩
      · obtain rfl : x1 = false := by simpa using hbi
        refine wpOpIn_plain rfl rfl rfl ?_
        exact ⟨IB, rfl⟩
      · obtain rfl : x2 = false := by simpa using hbi
        refine wpOpIn_plain rfl rfl rfl ?_
        exact ⟨IB, rfl⟩
      · obtain rfl : x3 = false := by simpa using hbi
        obtain rfl : x0 = true := hdep _ rfl ⟨0, .data⟩ (by simp) rfl
        obtain rfl : x1 = true := hdep _ rfl ⟨1, .data⟩ (by simp) rfl
        obtain rfl : x2 = true := hdep _ rfl ⟨2, .data⟩ (by simp) rfl
        refine wpOpIn_call (args := #[Value.agg #[.int .i64 3, .slice (some ⟨g, o, none⟩) 2 sc, .int .i64 hosts], Value.int IntKind.i64 (gx), Value.int IntKind.i64 (P)]) rfl rfl (sem_call3 rfl rfl rfl rfl (enters_of Tryz.func119 (by kernel_rfl) rfl)) (HW1.out w' (HB.out.trans (IB.out.mono HB.out.size))) ?_
        rintro e V9 ⟨rfl, hb⟩
        exact ⟨_, rfl, (IB.out.trans (hb.mono IB.out.size)), rfl⟩
      · obtain rfl : x4 = false := by simpa using hbi
        refine wpOpIn_plain rfl rfl rfl ?_
        exact ⟨IB, rfl⟩
      · obtain rfl : x5 = false := by simpa using hbi
        obtain rfl : x3 = true := hdep _ rfl ⟨3, .data⟩ (by simp) rfl
        obtain rfl : x4 = true := hdep _ rfl ⟨4, .data⟩ (by simp) rfl
        refine wpOpIn_plain (v := Value.bool true) (w' := w') rfl rfl (by simp [Oper.semAt, execOp, go_sem, hx1]) ?_
        exact ⟨IB, rfl⟩
      · obtain rfl : x6 = false := by simpa using hbi
        obtain rfl : x5 = true := hdep _ rfl ⟨5, .data⟩ (by simp) rfl
        refine wpOpIn_plain rfl rfl rfl ?_
        exact ⟨IB, rfl⟩
      · obtain rfl : x7 = false := by simpa using hbi
        obtain rfl : x6 = true := hdep _ rfl ⟨6, .guard⟩ (by simp) rfl
        refine wpOpIn_rowg rfl rfl rfl 34 _ rfl w.heap.size rfl 34 _ _ _ (heapB IB.out Q1.out) Tryz.underlying34 rfl info34 ?_
        exact ⟨IB, rfl⟩
      · obtain rfl : x8 = false := by simpa using hbi
        obtain rfl : x6 = true := hdep _ rfl ⟨6, .guard⟩ (by simp) rfl
        refine wpOpIn_guard (v := Value.int IntKind.i64 (gy)) (w' := w') rfl rfl rfl (by simp [Oper.semAt, execOp, go_sem]) ?_
        exact ⟨IB, rfl⟩
      · obtain rfl : x9 = false := by simpa using hbi
        obtain rfl : x6 = true := hdep _ rfl ⟨6, .guard⟩ (by simp) rfl
        refine wpOpIn_rowg rfl rfl rfl 34 _ rfl w.heap.size rfl 34 _ _ _ (heapB IB.out Q1.out) Tryz.underlying34 rfl info34 ?_
        exact ⟨IB, rfl⟩
      · obtain rfl : x10 = false := by simpa using hbi
        obtain rfl : x9 = true := hdep _ rfl ⟨9, .data⟩ (by simp) rfl
        obtain rfl : x6 = true := hdep _ rfl ⟨6, .guard⟩ (by simp) rfl
        refine wpOpIn_callg (args := #[Value.agg #[.int .i64 3, .slice (some ⟨g, o, none⟩) 2 sc, .int .i64 hosts]]) rfl rfl rfl (sem_call1 rfl rfl (enters_of Tryz.func65 (by kernel_rfl) rfl)) (HGR.out w' (HB.out.trans (IB.out.mono HB.out.size))) ?_
        rintro e V9 ⟨rfl, hb⟩
        exact ⟨_, rfl, (IB.out.trans (hb.mono IB.out.size)), rfl⟩
      · obtain rfl : x11 = false := by simpa using hbi
        obtain rfl : x10 = true := hdep _ rfl ⟨10, .data⟩ (by simp) rfl
        obtain rfl : x6 = true := hdep _ rfl ⟨6, .guard⟩ (by simp) rfl
        refine wpOpIn_guard (v := Value.int IntKind.i64 (G - 2)) (w' := w') rfl rfl rfl (sem_bin (vx := Value.int IntKind.i64 (G)) (vy := Value.int IntKind.i64 (2)) rfl rfl rfl rfl (HS3.out w')) ?_
        exact ⟨IB, rfl⟩
      · obtain rfl : x12 = false := by simpa using hbi
        obtain rfl : x6 = true := hdep _ rfl ⟨6, .guard⟩ (by simp) rfl
        refine wpOpIn_guard (v := Value.int IntKind.i64 (P)) (w' := w') rfl rfl rfl (by simp [Oper.semAt, execOp, go_sem]) ?_
        exact ⟨IB, rfl⟩
      · obtain rfl : x13 = false := by simpa using hbi
        obtain rfl : x11 = true := hdep _ rfl ⟨11, .data⟩ (by simp) rfl
        obtain rfl : x12 = true := hdep _ rfl ⟨12, .data⟩ (by simp) rfl
        obtain rfl : x6 = true := hdep _ rfl ⟨6, .guard⟩ (by simp) rfl
        refine wpOpIn_guard (v := Value.int IntKind.i64 (G - 2 - P)) (w' := w') rfl rfl rfl (sem_bin (vx := Value.int IntKind.i64 (G - 2)) (vy := Value.int IntKind.i64 (P)) rfl rfl rfl rfl (HS4.out w')) ?_
        exact ⟨IB, rfl⟩
      · obtain rfl : x14 = false := by simpa using hbi
        obtain rfl : x7 = true := hdep _ rfl ⟨7, .data⟩ (by simp) rfl
        obtain rfl : x8 = true := hdep _ rfl ⟨8, .data⟩ (by simp) rfl
        obtain rfl : x13 = true := hdep _ rfl ⟨13, .data⟩ (by simp) rfl
        obtain rfl : x6 = true := hdep _ rfl ⟨6, .guard⟩ (by simp) rfl
        refine wpOpIn_callg (args := #[Value.agg #[.int .i64 3, .slice (some ⟨g, o, none⟩) 2 sc, .int .i64 hosts], Value.int IntKind.i64 (gy), Value.int IntKind.i64 (G - 2 - P)]) rfl rfl rfl (sem_call3 rfl rfl rfl rfl (enters_of Tryz.func119 (by kernel_rfl) rfl)) (HW2.out w' (HB.out.trans (IB.out.mono HB.out.size))) ?_
        rintro e V9 ⟨rfl, hb⟩
        exact ⟨_, rfl, (IB.out.trans (hb.mono IB.out.size)), rfl⟩
      · obtain rfl : x15 = false := by simpa using hbi
        obtain rfl : x6 = true := hdep _ rfl ⟨6, .guard⟩ (by simp) rfl
        refine wpOpIn_guard (v := Value.int IntKind.i64 (y)) (w' := w') rfl rfl rfl (by simp [Oper.semAt, execOp, go_sem]) ?_
        exact ⟨IB, rfl⟩
      · obtain rfl : x16 = false := by simpa using hbi
        obtain rfl : x14 = true := hdep _ rfl ⟨14, .data⟩ (by simp) rfl
        obtain rfl : x15 = true := hdep _ rfl ⟨15, .data⟩ (by simp) rfl
        obtain rfl : x6 = true := hdep _ rfl ⟨6, .guard⟩ (by simp) rfl
        refine wpOpIn_guard (v := Value.bool (p2 == y)) (w' := w') rfl rfl rfl (by simp [Oper.semAt, execOp, go_sem]) ?_
        exact ⟨IB, rfl⟩
      · obtain rfl : x17 = false := by simpa using hbi
        obtain rfl : x6 = true := hdep _ rfl ⟨6, .data⟩ (by simp) rfl
        obtain rfl : x16 = true := hdep _ rfl ⟨16, .data⟩ (by simp) rfl
        refine wpOpIn_plain (v := Value.bool (p2 == y)) (w' := w') rfl rfl (by simp [Oper.semAt, execOp, go_sem]) ?_
        exact ⟨IB, rfl⟩
      · obtain rfl : x18 = false := by simpa using hbi
        obtain rfl : x17 = true := hdep _ rfl ⟨17, .data⟩ (by simp) rfl
        refine wpOpIn_plain rfl rfl rfl ?_
        exact ⟨IB, rfl⟩
    case fin =>
    intro listed a' w7 hs hall ⟨IB, ha⟩
    obtain ⟨ls⟩ := listed
    match ls, hs with
    | [x0, x1, x2, x3, x4, x5, x6, x7, x8, x9, x10, x11, x12, x13, x14, x15, x16, x17, x18], _ =>
    obtain rfl : x0 = true := hall 0 (by simp)
    obtain rfl : x1 = true := hall 1 (by simp)
    obtain rfl : x2 = true := hall 2 (by simp)
    obtain rfl : x3 = true := hall 3 (by simp)
    obtain rfl : x4 = true := hall 4 (by simp)
    obtain rfl : x5 = true := hall 5 (by simp)
    obtain rfl : x6 = true := hall 6 (by simp)
    obtain rfl : x7 = true := hall 7 (by simp)
    obtain rfl : x8 = true := hall 8 (by simp)
    obtain rfl : x9 = true := hall 9 (by simp)
    obtain rfl : x10 = true := hall 10 (by simp)
    obtain rfl : x11 = true := hall 11 (by simp)
    obtain rfl : x12 = true := hall 12 (by simp)
    obtain rfl : x13 = true := hall 13 (by simp)
    obtain rfl : x14 = true := hall 14 (by simp)
    obtain rfl : x15 = true := hall 15 (by simp)
    obtain rfl : x16 = true := hall 16 (by simp)
    obtain rfl : x17 = true := hall 17 (by simp)
    obtain rfl : x18 = true := hall 18 (by simp)
    subst ha
    clear hs hall
    go_wp2_with fail
    go_ret
    exact ⟨by show Ending.returned (Value.bool (p2 == y)) = _; simp [hgn, ← HP1.out, ← HP2.out, hrf], HB.out.trans (IB.out.mono HB.out.size)⟩
  · have hrf : (p1 == x) = false := by simpa using hx1
    refine (wpIn_wide (n := 0)).1 ?_
    refine region_det (by kernel_rfl) (I := fun listed a' w' => Hid (Below Y.heap.size Y w') ∧ a' = ⟨#[Value.agg #[Value.int IntKind.i64 3, Value.slice (some (Addr.mk g o none)) 2 sc, Value.int IntKind.i64 hosts], Value.int IntKind.i64 x, Value.int IntKind.i64 y, Value.pointer (some (Addr.mk w.heap.size 0 none)), undef, undef, (if listed.getD 18 false = true then Value.bool false else Value.bool false), undef, undef, undef, undef, undef, undef, undef, undef, undef, undef, Value.int IntKind.i64 gx, Value.int IntKind.i64 gy, Value.int IntKind.i64 P, Value.int IntKind.i64 x, Value.int IntKind.i64 y, Value.bool false, Value.pointer (some (Addr.mk w.heap.size 0 none)), Value.int IntKind.i64 3, Value.bool false, Value.bool false, undef, undef, undef, undef, undef, undef, undef, undef, undef, undef, undef, undef, undef, undef, undef, undef, undef, undef, undef, undef, undef, undef, undef, undef, undef, undef, undef, undef, undef, undef, undef, undef, undef, undef, undef, undef, undef, undef, undef, undef, undef, undef, undef, undef, undef, undef, undef, undef, undef, undef, undef, undef, undef, undef, undef, undef, undef, undef, undef, Value.bool false, Value.bool false, undef, undef, undef, undef, undef, undef, undef, undef, undef, undef, undef, undef, undef, undef, undef, undef, undef, undef, undef, undef, undef, undef, undef, undef, undef, undef, undef, undef, undef, undef, undef, undef, undef, undef, undef, undef, undef, undef, undef, Value.int IntKind.i64 x, Value.pointer (some (Addr.mk w.heap.size 1 none)), Value.slice (some (Addr.mk g o none)) 2 sc, Value.pointer (some (Addr.mk g o none)), Value.int IntKind.i64 a, Value.int IntKind.i64 gx, Value.int IntKind.i64 y, Value.pointer (some (Addr.mk w.heap.size 1 none)), Value.slice (some (Addr.mk g o none)) 2 sc, Value.pointer (some (Addr.mk g o none)), Value.int IntKind.i64 a, Value.int IntKind.i64 gy, Value.int IntKind.i64 gx, Value.int IntKind.i64 gy, Value.bool false, Value.int IntKind.i64 gy, Value.int IntKind.i64 gx, Value.int IntKind.i64 (gy - gx), Value.int IntKind.i64 (gy - gx - 1), Value.agg #[Value.int IntKind.i64 3, Value.slice (some (Addr.mk g o none)) 2 sc, Value.int IntKind.i64 hosts], Value.int IntKind.i64 G, Value.int IntKind.i64 (gy - gx - 1 + G), Value.agg #[Value.int IntKind.i64 3, Value.slice (some (Addr.mk g o none)) 2 sc, Value.int IntKind.i64 hosts], Value.int IntKind.i64 G, Value.int IntKind.i64 P, (if listed.getD 0 false = true then Value.agg #[.int .i64 3, .slice (some ⟨g, o, none⟩) 2 sc, .int .i64 hosts] else undef), (if listed.getD 1 false = true then Value.int IntKind.i64 (gx) else undef), (if listed.getD 2 false = true then Value.int IntKind.i64 (P) else undef), (if listed.getD 3 false = true then Value.int IntKind.i64 (p1) else undef), (if listed.getD 4 false = true then Value.int IntKind.i64 (x) else undef), (if listed.getD 5 false = true then Value.bool false else undef), (if listed.getD 6 false = true then Value.bool false else undef), (if listed.getD 7 false = true then undef else undef), (if listed.getD 8 false = true then undef else undef), (if listed.getD 9 false = true then undef else undef), (if listed.getD 10 false = true then undef else undef), (if listed.getD 11 false = true then undef else undef), (if listed.getD 12 false = true then undef else undef), (if listed.getD 13 false = true then undef else undef), (if listed.getD 14 false = true then undef else undef), (if listed.getD 15 false = true then undef else undef), (if listed.getD 16 false = true then undef else undef), (if listed.getD 17 false = true then Value.bool false else undef)], []⟩) (hup_check (by kernel_rfl)) ?h0 ?step ?fin
    case h0 => exact ⟨IB.out.drew, rfl⟩
    case step =>
      intro listed a' w' i hs hbi hdep hi ⟨IB, ha⟩
      obtain ⟨ls⟩ := listed
      match ls, hs with
      | [x0, x1, x2, x3, x4, x5, x6, x7, x8, x9, x10, x11, x12, x13, x14, x15, x16, x17, x18], _ =>
      subst ha
      have hi' : i = 0 ∨ i = 1 ∨ i = 2 ∨ i = 3 ∨ i = 4 ∨ i = 5 ∨ i = 6 ∨ i = 7 ∨ i = 8 ∨ i = 9 ∨ i = 10 ∨ i = 11 ∨ i = 12 ∨ i = 13 ∨ i = 14 ∨ i = 15 ∨ i = 16 ∨ i = 17 ∨ i = 18 := by simp at hi; omega
      rcases hi' with rfl | rfl | rfl | rfl | rfl | rfl | rfl | rfl | rfl | rfl | rfl | rfl | rfl | rfl | rfl | rfl | rfl | rfl | rfl
      · obtain rfl : x0 = false := by simpa using hbi
        refine wpOpIn_load_row rfl rfl 34 _ rfl w.heap.size rfl 34 _ _ _ (heapB IB.out Q1.out) Tryz.underlying34 rfl info34 ?_
        exact ⟨IB, rfl⟩
      · obtain rfl : x1 = false := by simpa using hbi
        refine wpOpIn_plain rfl rfl rfl ?_
        exact ⟨IB, rfl⟩
      · obtain rfl : x2 = false := by simpa using hbi
        refine wpOpIn_plain rfl rfl rfl ?_
        exact ⟨IB, rfl⟩
      · obtain rfl : x3 = false := by simpa using hbi
        obtain rfl : x0 = true := hdep _ rfl ⟨0, .data⟩ (by simp) rfl
        obtain rfl : x1 = true := hdep _ rfl ⟨1, .data⟩ (by simp) rfl
        obtain rfl : x2 = true := hdep _ rfl ⟨2, .data⟩ (by simp) rfl
        refine wpOpIn_call (args := #[Value.agg #[.int .i64 3, .slice (some ⟨g, o, none⟩) 2 sc, .int .i64 hosts], Value.int IntKind.i64 (gx), Value.int IntKind.i64 (P)]) rfl rfl (sem_call3 rfl rfl rfl rfl (enters_of Tryz.func119 (by kernel_rfl) rfl)) (HW1.out w' (HB.out.trans (IB.out.mono HB.out.size))) ?_
        rintro e V9 ⟨rfl, hb⟩
        exact ⟨_, rfl, (IB.out.trans (hb.mono IB.out.size)), rfl⟩
      · obtain rfl : x4 = false := by simpa using hbi
        refine wpOpIn_plain rfl rfl rfl ?_
        exact ⟨IB, rfl⟩
      · obtain rfl : x5 = false := by simpa using hbi
        obtain rfl : x3 = true := hdep _ rfl ⟨3, .data⟩ (by simp) rfl
        obtain rfl : x4 = true := hdep _ rfl ⟨4, .data⟩ (by simp) rfl
        refine wpOpIn_plain (v := Value.bool false) (w' := w') rfl rfl (by simp [Oper.semAt, execOp, go_sem, hx1]) ?_
        exact ⟨IB, rfl⟩
      · obtain rfl : x6 = false := by simpa using hbi
        obtain rfl : x5 = true := hdep _ rfl ⟨5, .data⟩ (by simp) rfl
        refine wpOpIn_plain rfl rfl rfl ?_
        exact ⟨IB, rfl⟩
      · obtain rfl : x7 = false := by simpa using hbi
        obtain rfl : x6 = true := hdep _ rfl ⟨6, .guard⟩ (by simp) rfl
        refine wpOpIn_off rfl rfl rfl ?_
        exact ⟨IB, rfl⟩
      · obtain rfl : x8 = false := by simpa using hbi
        obtain rfl : x6 = true := hdep _ rfl ⟨6, .guard⟩ (by simp) rfl
        refine wpOpIn_off rfl rfl rfl ?_
        exact ⟨IB, rfl⟩
      · obtain rfl : x9 = false := by simpa using hbi
        obtain rfl : x6 = true := hdep _ rfl ⟨6, .guard⟩ (by simp) rfl
        refine wpOpIn_off rfl rfl rfl ?_
        exact ⟨IB, rfl⟩
      · obtain rfl : x10 = false := by simpa using hbi
        obtain rfl : x6 = true := hdep _ rfl ⟨6, .guard⟩ (by simp) rfl
        refine wpOpIn_off rfl rfl rfl ?_
        exact ⟨IB, rfl⟩
      · obtain rfl : x11 = false := by simpa using hbi
        obtain rfl : x6 = true := hdep _ rfl ⟨6, .guard⟩ (by simp) rfl
        refine wpOpIn_off rfl rfl rfl ?_
        exact ⟨IB, rfl⟩
      · obtain rfl : x12 = false := by simpa using hbi
        obtain rfl : x6 = true := hdep _ rfl ⟨6, .guard⟩ (by simp) rfl
        refine wpOpIn_off rfl rfl rfl ?_
        exact ⟨IB, rfl⟩
      · obtain rfl : x13 = false := by simpa using hbi
        obtain rfl : x6 = true := hdep _ rfl ⟨6, .guard⟩ (by simp) rfl
        refine wpOpIn_off rfl rfl rfl ?_
        exact ⟨IB, rfl⟩
      · obtain rfl : x14 = false := by simpa using hbi
        obtain rfl : x6 = true := hdep _ rfl ⟨6, .guard⟩ (by simp) rfl
        refine wpOpIn_off rfl rfl rfl ?_
        exact ⟨IB, rfl⟩
      · obtain rfl : x15 = false := by simpa using hbi
        obtain rfl : x6 = true := hdep _ rfl ⟨6, .guard⟩ (by simp) rfl
        refine wpOpIn_off rfl rfl rfl ?_
        exact ⟨IB, rfl⟩
      · obtain rfl : x16 = false := by simpa using hbi
        obtain rfl : x6 = true := hdep _ rfl ⟨6, .guard⟩ (by simp) rfl
        refine wpOpIn_off rfl rfl rfl ?_
        exact ⟨IB, rfl⟩
      · obtain rfl : x17 = false := by simpa using hbi
        obtain rfl : x6 = true := hdep _ rfl ⟨6, .data⟩ (by simp) rfl
        obtain rfl : x16 = true := hdep _ rfl ⟨16, .data⟩ (by simp) rfl
        refine wpOpIn_plain (v := Value.bool false) (w' := w') rfl rfl (by simp [Oper.semAt, execOp, go_sem]) ?_
        exact ⟨IB, rfl⟩
      · obtain rfl : x18 = false := by simpa using hbi
        obtain rfl : x17 = true := hdep _ rfl ⟨17, .data⟩ (by simp) rfl
        refine wpOpIn_plain rfl rfl rfl ?_
        exact ⟨IB, rfl⟩
    case fin =>
    intro listed a' w7 hs hall ⟨IB, ha⟩
    obtain ⟨ls⟩ := listed
    match ls, hs with
    | [x0, x1, x2, x3, x4, x5, x6, x7, x8, x9, x10, x11, x12, x13, x14, x15, x16, x17, x18], _ =>
    obtain rfl : x0 = true := hall 0 (by simp)
    obtain rfl : x1 = true := hall 1 (by simp)
    obtain rfl : x2 = true := hall 2 (by simp)
    obtain rfl : x3 = true := hall 3 (by simp)
    obtain rfl : x4 = true := hall 4 (by simp)
    obtain rfl : x5 = true := hall 5 (by simp)
    obtain rfl : x6 = true := hall 6 (by simp)
    obtain rfl : x7 = true := hall 7 (by simp)
    obtain rfl : x8 = true := hall 8 (by simp)
    obtain rfl : x9 = true := hall 9 (by simp)
    obtain rfl : x10 = true := hall 10 (by simp)
    obtain rfl : x11 = true := hall 11 (by simp)
    obtain rfl : x12 = true := hall 12 (by simp)
    obtain rfl : x13 = true := hall 13 (by simp)
    obtain rfl : x14 = true := hall 14 (by simp)
    obtain rfl : x15 = true := hall 15 (by simp)
    obtain rfl : x16 = true := hall 16 (by simp)
    obtain rfl : x17 = true := hall 17 (by simp)
    obtain rfl : x18 = true := hall 18 (by simp)
    subst ha
    clear hs hall
    go_wp2_with fail
    go_ret
    exact ⟨by show Ending.returned (Value.bool false) = _; simp [hgn, ← HP1.out, ← HP2.out, hrf], HB.out.trans (IB.out.mono HB.out.size)⟩
end Go.Proofs.YtbhkenphcahifaaGreat
