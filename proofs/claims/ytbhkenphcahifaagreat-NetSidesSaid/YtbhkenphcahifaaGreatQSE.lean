import Derived.Test.YtbhkenphcahifaaGreatQSD
import Derived.Test.YtbhkenphcahifaaGreatProg
import Derived.WalkKit
import Derived.WalkSpells
import Derived.LoopTactic
import Derived.Lib.Hide
import Derived.BigQuiet
import Derived.Deep.QuietTactic
import Derived.Shelf.Abstract
import Derived.Lib.AppendZeros
import Derived.Laws.AppendOwnNone
import Derived.RangeFuncNested
import Derived.RangeFuncBound
import Derived.RangeFuncCalls
import Derived.RangeFuncLeaves
import Derived.RangeFuncOne
import Derived.Shelf.RegionOpen
import Derived.OwnWalkIn
import Derived.TacticsInMore
import Derived.LoopNIn
import Derived.LoopIn
import Derived.Test.YtbhkenphcahifaaGreatRows
import Derived.ProofKit
import Derived.OpenShut
import Derived.Carry
import Derived.SizedLaws
import Derived.OrdersIn
import Derived.Laws.Rows
import Derived.Laws.Tables
import Derived.Deep.AppendLies
import Derived.Laws.StructEq
import Derived.ChangeKeysEq
import Derived.Shelf.Small.Bits
import Derived.Shelf.Small.Wraps
import Derived.Shelf.Strconv.Itoa0
import Derived.Shelf.Sort.Plain
import Derived.Shelf.Bits.Mul64
import Derived.Ground.Names2Prog
import Derived.Shelf.Slices.CompactI
import Derived.Shelf.Slices.SearchI
import Derived.Shelf.Slices.Cells
import Derived.Shelf.Slices.In.SortNone
import Derived.Lib.OwnBridge
import Derived.Sort.OwnSortedInts
import Derived.BigRegion
import Init
import Derived.Deep.Grids
namespace Go.Proofs.YtbhkenphcahifaaGreat
open Go.RowKit Go.Shelf
attribute [local go_sem] Oper.semAt_some
set_option maxRecDepth 100000
set_option maxHeartbeats 4000000
/-- are two switches of a dragonfly linked -/
theorem rLinked3_any {w : World} {g o : Nat} (a h : Int) (ha : 1 ≤ a) (ha2 : a ≤ 16) (hh : 1 ≤ h) (hh2 : h ≤ 4) (ht : Two w g o a h) (sc : Nat) (hosts x y : Int) (hx : 0 ≤ x) (hx2 : x < a * (a * h + 1)) (hy : 0 ≤ y) (hy2 : y < a * (a * h + 1)) (hne : x ≠ y) {G gx gy P : Int} (hG : a * h + 1 = G) (hgx : x / a = gx) (hgy : y / a = gy) (hP : (gy - gx - 1 + G) % G = P) :
    Calls Tryz.prog 96 #[.agg #[.int .i64 3, .slice (some ⟨g, o, none⟩) 2 sc, .int .i64 hosts], .int .i64 x, .int .i64 y] w fun e w' => e = .returned (.bool (gx == gy || (gx * a + P / h == x && gy * a + (G - 2 - P) / h == y))) ∧ Below w.heap.size w w' := by
  have HB := Lib.hid ((Below.refl w.heap.size w).alloc (Nat.le_refl _) (.cells #[.int .i64 3, .slice (some ⟨g, o, none⟩) 2 sc, .int .i64 hosts] 34))
  have Q0 := Lib.hid (heap_alloc_new w (.cells #[.int .i64 3, .slice (some ⟨g, o, none⟩) 2 sc, .int .i64 hosts] 34))
  have c0 := cellR 0 Q0.out rfl
  have c1 := cellR 1 Q0.out rfl
  have e0 := (ht.keep HB.out).1
  have hxy : (x == y) = false := by simpa using hne
  obtain ⟨b1, b2, b3, b4⟩ : 1 ≤ a * h ∧ a * h ≤ 64 ∧ 1 ≤ a * (a * h + 1) ∧ a * (a * h + 1) ≤ 1040 := drag_bound ha ha2 hh hh2
  have hg0 : 1 ≤ G := by omega
  have hg1 : G ≤ 100 := by omega
  have hgx0 : 0 ≤ gx := by rw [← hgx]; exact Int.ediv_nonneg hx (show 0 ≤ a by omega)
  have hgy0 : 0 ≤ gy := by rw [← hgy]; exact Int.ediv_nonneg hy (show 0 ≤ a by omega)
  have hgx1 : gx < G := by rw [← hgx]; exact Int.ediv_lt_of_lt_mul (by omega) (by rw [← hG, Int.mul_comm]; exact hx2)
  have hgy1 : gy < G := by rw [← hgy]; exact Int.ediv_lt_of_lt_mul (by omega) (by rw [← hG, Int.mul_comm]; exact hy2)
  have E1 : wrap64 (x.tdiv a) = gx := by rw [Int.tdiv_eq_ediv_of_nonneg hx]; unfold wrap64; omega
  have E2 : wrap64 (y.tdiv a) = gy := by rw [Int.tdiv_eq_ediv_of_nonneg hy]; unfold wrap64; omega
  have hane : a ≠ 0 := by omega
  have hP0 : 0 ≤ P := by rw [← hP]; exact Int.emod_nonneg _ (by omega)
  have hP1 : P < G := by rw [← hP]; exact Int.emod_lt_of_pos _ (by omega)
  have hP2 : gx ≠ gy → P ≤ G - 2 := fun hne => by
    have h5 : (gy - gx - 1 + G) % G = if gx < gy then gy - gx - 1 else gy - gx - 1 + G := by
      split
      · rw [Int.add_emod_right]; exact Int.emod_eq_of_lt (by omega) (by omega)
      · exact Int.emod_eq_of_lt (by omega) (by omega)
    rw [← hP, h5]; split <;> omega
  have HGR : Hid (∀ W, Below w.heap.size w W → Calls Tryz.prog 65 #[.agg #[.int .i64 3, .slice (some ⟨g, o, none⟩) 2 sc, .int .i64 hosts]] W fun e w' => e = .returned (.int .i64 G) ∧ Below W.heap.size W w') := fun W hb => by
    have := rGroups_any a h ha ha2 hh hh2 (ht.keep hb) sc 3 hosts
    rwa [hG] at this
  have HPT : Hid (∀ W, Below w.heap.size w W → ∀ gr m : Int, 0 ≤ gr → gr ≤ 1000 → 0 ≤ m → m ≤ 1000 → Calls Tryz.prog 119 #[.agg #[.int .i64 3, .slice (some ⟨g, o, none⟩) 2 sc, .int .i64 hosts], .int .i64 gr, .int .i64 m] W fun e w' => e = .returned (.int .i64 (gr * a + m / h)) ∧ Below W.heap.size W w') := fun W hb gr m g0 g1 m0 m1 => rPort_any a h ha ha2 hh hh2 (ht.keep hb) sc 3 hosts gr m g0 g1 m0 m1
  have HS1 := Lib.hid (fun W => i64_sub gy gx (by omega) (by omega) W)
  have HS2 := Lib.hid (fun W => i64_sub (gy - gx) 1 (by omega) (by omega) W)
  have HA1 := Lib.hid (fun W => i64_add (gy - gx - 1) G (by omega) (by omega) W)
  have HR1 := Lib.hid (fun W => i64_rem (gy - gx - 1 + G) G (by omega) (by omega) W)
  have HS3 := Lib.hid (fun W => i64_sub G 2 (by omega) (by omega) W)
  have HS4 := Lib.hid (fun W => i64_sub (G - 2) P (by omega) (by omega) W)
  rw [hP] at HR1
  clear hne ht hG hgx hgy hP hx2 hy2 hx hy b1 b2 b3 b4
  go_enter Tryz.func96, Tryz.ntmps96
  go_wp2_with fail
  generalize w.alloc (.cells #[.int .i64 3, .slice (some ⟨g, o, none⟩) 2 sc, .int .i64 hosts] 34) = X at *
  go_quiet (fail)
  rw [E1, E2]
  replace HB := Lib.hid (below_drewN HB.out nq)
  have Q1 : Hid ((X.drewN nq).heap[w.heap.size]? = some (.cells #[.int .i64 3, .slice (some ⟨g, o, none⟩) 2 sc, .int .i64 hosts] 34 (0, 0))) := Q0.out
  clear Q0 c0 c1 e0 E1 E2 hxy
  generalize X.drewN nq = Y at *
  by_cases hgg : gx = gy
  · have e1 : (gx == gy) = true := by simpa using hgg
    go_wp2_with fail
    go_ret
    exact ⟨by rw [e1]; rfl, HB.out⟩
  have hgn : (gx == gy) = false := by simpa using hgg
  replace hP2 := hP2 hgg
  clear hgg
  go_wp2_with fail
  refine (wpIn_wide (n := 0)).1 ?_
  refine region_det (by kernel_rfl) (I := fun listed a' w' => Hid (Below Y.heap.size Y w') ∧ a' = ⟨#[Value.agg #[Value.int IntKind.i64 3, Value.slice (some (Addr.mk g o none)) 2 sc, Value.int IntKind.i64 hosts], Value.int IntKind.i64 x, Value.int IntKind.i64 y, Value.pointer (some (Addr.mk w.heap.size 0 none)), undef, undef, Value.bool false, undef, undef, undef, undef, undef, undef, undef, undef, undef, undef, Value.int IntKind.i64 gx, Value.int IntKind.i64 gy, (if listed.getD 10 false = true then Value.int IntKind.i64 (P) else undef), Value.int IntKind.i64 x, Value.int IntKind.i64 y, Value.bool false, Value.pointer (some (Addr.mk w.heap.size 0 none)), Value.int IntKind.i64 3, Value.bool false, Value.bool false, undef, undef, undef, undef, undef, undef, undef, undef, undef, undef, undef, undef, undef, undef, undef, undef, undef, undef, undef, undef, undef, undef, undef, undef, undef, undef, undef, undef, undef, undef, undef, undef, undef, undef, undef, undef, undef, undef, undef, undef, undef, undef, undef, undef, undef, undef, undef, undef, undef, undef, undef, undef, undef, undef, undef, undef, undef, undef, undef, Value.bool false, Value.bool false, undef, undef, undef, undef, undef, undef, undef, undef, undef, undef, undef, undef, undef, undef, undef, undef, undef, undef, undef, undef, undef, undef, undef, undef, undef, undef, undef, undef, undef, undef, undef, undef, undef, undef, undef, undef, undef, undef, undef, Value.int IntKind.i64 x, Value.pointer (some (Addr.mk w.heap.size 1 none)), Value.slice (some (Addr.mk g o none)) 2 sc, Value.pointer (some (Addr.mk g o none)), Value.int IntKind.i64 a, Value.int IntKind.i64 gx, Value.int IntKind.i64 y, Value.pointer (some (Addr.mk w.heap.size 1 none)), Value.slice (some (Addr.mk g o none)) 2 sc, Value.pointer (some (Addr.mk g o none)), Value.int IntKind.i64 a, Value.int IntKind.i64 gy, Value.int IntKind.i64 gx, Value.int IntKind.i64 gy, Value.bool false, (if listed.getD 0 false = true then Value.int IntKind.i64 (gy) else undef), (if listed.getD 1 false = true then Value.int IntKind.i64 (gx) else undef), (if listed.getD 2 false = true then Value.int IntKind.i64 (gy - gx) else undef), (if listed.getD 3 false = true then Value.int IntKind.i64 (gy - gx - 1) else undef), (if listed.getD 4 false = true then Value.agg #[.int .i64 3, .slice (some ⟨g, o, none⟩) 2 sc, .int .i64 hosts] else undef), (if listed.getD 5 false = true then Value.int IntKind.i64 (G) else undef), (if listed.getD 6 false = true then Value.int IntKind.i64 (gy - gx - 1 + G) else undef), (if listed.getD 7 false = true then Value.agg #[.int .i64 3, .slice (some ⟨g, o, none⟩) 2 sc, .int .i64 hosts] else undef), (if listed.getD 8 false = true then Value.int IntKind.i64 (G) else undef), (if listed.getD 9 false = true then Value.int IntKind.i64 (P) else undef), undef, undef, undef, undef, undef, undef, undef, undef, undef, undef, undef, undef, undef, undef, undef, undef, undef, undef], []⟩) (hup_check (by kernel_rfl)) ?h0 ?step ?fin
  case h0 => exact ⟨(Below.refl _ _).drew, rfl⟩
  case step =>
    intro listed a' w' i hs hbi hdep hi ⟨IB, ha⟩
    obtain ⟨ls⟩ := listed
    match ls, hs with
    | [x0, x1, x2, x3, x4, x5, x6, x7, x8, x9, x10], _ =>
    subst ha
    have hi' : i = 0 ∨ i = 1 ∨ i = 2 ∨ i = 3 ∨ i = 4 ∨ i = 5 ∨ i = 6 ∨ i = 7 ∨ i = 8 ∨ i = 9 ∨ i = 10 := by simp at hi; omega
    rcases hi' with rfl | rfl | rfl | rfl | rfl | rfl | rfl | rfl | rfl | rfl | rfl
    · obtain rfl : x0 = false := by simpa using hbi
      refine wpOpIn_plain rfl rfl rfl ?_
      exact ⟨IB, rfl⟩
    · obtain rfl : x1 = false := by simpa using hbi
      refine wpOpIn_plain rfl rfl rfl ?_
      exact ⟨IB, rfl⟩
    · obtain rfl : x2 = false := by simpa using hbi
      obtain rfl : x0 = true := hdep _ rfl ⟨0, .data⟩ (by simp) rfl
      obtain rfl : x1 = true := hdep _ rfl ⟨1, .data⟩ (by simp) rfl
      refine wpOpIn_plain (v := Value.int IntKind.i64 (gy - gx)) (w' := w') rfl rfl (sem_bin (vx := Value.int IntKind.i64 (gy)) (vy := Value.int IntKind.i64 (gx)) rfl rfl rfl rfl (HS1.out w')) ?_
      exact ⟨IB, rfl⟩
    · obtain rfl : x3 = false := by simpa using hbi
      obtain rfl : x2 = true := hdep _ rfl ⟨2, .data⟩ (by simp) rfl
      refine wpOpIn_plain (v := Value.int IntKind.i64 (gy - gx - 1)) (w' := w') rfl rfl (sem_bin (vx := Value.int IntKind.i64 (gy - gx)) (vy := Value.int IntKind.i64 (1)) rfl rfl rfl rfl (HS2.out w')) ?_
      exact ⟨IB, rfl⟩
    · obtain rfl : x4 = false := by simpa using hbi
      refine wpOpIn_load_row rfl rfl 34 _ rfl w.heap.size rfl 34 _ _ _ (heapB IB.out Q1.out) Tryz.underlying34 rfl info34 ?_
      exact ⟨IB, rfl⟩
    · obtain rfl : x5 = false := by simpa using hbi
      obtain rfl : x4 = true := hdep _ rfl ⟨4, .data⟩ (by simp) rfl
      refine wpOpIn_call (args := #[Value.agg #[.int .i64 3, .slice (some ⟨g, o, none⟩) 2 sc, .int .i64 hosts]]) rfl rfl (sem_call1 rfl rfl (enters_of Tryz.func65 (by kernel_rfl) rfl)) (HGR.out w' (HB.out.trans (IB.out.mono HB.out.size))) ?_
      rintro e V9 ⟨rfl, hb⟩
      exact ⟨_, rfl, (IB.out.trans (hb.mono IB.out.size)), rfl⟩
    · obtain rfl : x6 = false := by simpa using hbi
      obtain rfl : x3 = true := hdep _ rfl ⟨3, .data⟩ (by simp) rfl
      obtain rfl : x5 = true := hdep _ rfl ⟨5, .data⟩ (by simp) rfl
      refine wpOpIn_plain (v := Value.int IntKind.i64 (gy - gx - 1 + G)) (w' := w') rfl rfl (sem_bin (vx := Value.int IntKind.i64 (gy - gx - 1)) (vy := Value.int IntKind.i64 (G)) rfl rfl rfl rfl (HA1.out w')) ?_
      exact ⟨IB, rfl⟩
    · obtain rfl : x7 = false := by simpa using hbi
      refine wpOpIn_load_row rfl rfl 34 _ rfl w.heap.size rfl 34 _ _ _ (heapB IB.out Q1.out) Tryz.underlying34 rfl info34 ?_
      exact ⟨IB, rfl⟩
    · obtain rfl : x8 = false := by simpa using hbi
      obtain rfl : x7 = true := hdep _ rfl ⟨7, .data⟩ (by simp) rfl
      refine wpOpIn_call (args := #[Value.agg #[.int .i64 3, .slice (some ⟨g, o, none⟩) 2 sc, .int .i64 hosts]]) rfl rfl (sem_call1 rfl rfl (enters_of Tryz.func65 (by kernel_rfl) rfl)) (HGR.out w' (HB.out.trans (IB.out.mono HB.out.size))) ?_
      rintro e V9 ⟨rfl, hb⟩
      exact ⟨_, rfl, (IB.out.trans (hb.mono IB.out.size)), rfl⟩
    · obtain rfl : x9 = false := by simpa using hbi
      obtain rfl : x6 = true := hdep _ rfl ⟨6, .data⟩ (by simp) rfl
      obtain rfl : x8 = true := hdep _ rfl ⟨8, .data⟩ (by simp) rfl
      refine wpOpIn_plain (v := Value.int IntKind.i64 (P)) (w' := w') rfl rfl (sem_bin (vx := Value.int IntKind.i64 (gy - gx - 1 + G)) (vy := Value.int IntKind.i64 (G)) rfl rfl rfl rfl (HR1.out w')) ?_
      exact ⟨IB, rfl⟩
    · obtain rfl : x10 = false := by simpa using hbi
      obtain rfl : x9 = true := hdep _ rfl ⟨9, .data⟩ (by simp) rfl
      refine wpOpIn_plain rfl rfl rfl ?_
      exact ⟨IB, rfl⟩
  case fin =>
  intro listed a' w5 hs hall ⟨IB, ha⟩
  obtain ⟨ls⟩ := listed
  match ls, hs with
  | [x0, x1, x2, x3, x4, x5, x6, x7, x8, x9, x10], _ =>
  obtain rfl : x0 = true := hall 0 (by simp)
  obtain rfl : x1 = true := hall 1 (by simp)
  obtain rfl : x2 = true := hall 2 (by simp)
  obtain rfl : x3 = true := hall 3 (by simp)
  obtain rfl : x4 = true := hall 4 (by simp)
  obtain rfl : x5 = true := hall 5 (by simp)
  obtain rfl : x6 = true := hall 6 (by simp)
  obtain rfl : x7 = true := hall 7 (by simp)
  obtain rfl : x8 = true := hall 8 (by simp)
  obtain rfl : x9 = true := hall 9 (by simp)
  obtain rfl : x10 = true := hall 10 (by simp)
  subst ha
  clear hs hall HS1 HS2 HA1 HR1
  obtain ⟨p1, hp1⟩ : ∃ p1, p1 = gx * a + P / h := ⟨_, rfl⟩
  obtain ⟨p2, hp2⟩ : ∃ p2, p2 = gy * a + (G - 2 - P) / h := ⟨_, rfl⟩
  have HW1 : Hid (∀ W, Below w.heap.size w W → Calls Tryz.prog 119 #[.agg #[.int .i64 3, .slice (some ⟨g, o, none⟩) 2 sc, .int .i64 hosts], .int .i64 (gx), .int .i64 (P)] W fun e w' => e = .returned (.int .i64 (p1)) ∧ Below W.heap.size W w') := fun W hb => by rw [hp1]; exact HPT.out W hb gx P hgx0 (by omega) hP0 (by omega)
  have HW2 : Hid (∀ W, Below w.heap.size w W → Calls Tryz.prog 119 #[.agg #[.int .i64 3, .slice (some ⟨g, o, none⟩) 2 sc, .int .i64 hosts], .int .i64 (gy), .int .i64 (G - 2 - P)] W fun e w' => e = .returned (.int .i64 (p2)) ∧ Below W.heap.size W w') := fun W hb => by rw [hp2]; exact HPT.out W hb gy (G - 2 - P) hgy0 (by omega) (by omega) (by omega)
  clear HPT
  have HP1 := Lib.hid hp1
  have HP2 := Lib.hid hp2
  clear hp1 hp2
  go_wp2_with fail
  by_cases hx1 : p1 = x
  · have hrf : (p1 == x) = true := by simpa using hx1
    refine (wpIn_wide (n := 0)).1 ?_
    refine region_det (by kernel_rfl) (I := fun listed a' w' => Hid (Below Y.heap.size Y w') ∧ a' = ⟨#[Value.agg #[Value.int IntKind.i64 3, Value.slice (some (Addr.mk g o none)) 2 sc, Value.int IntKind.i64 hosts], Value.int IntKind.i64 x, Value.int IntKind.i64 y, Value.pointer (some (Addr.mk w.heap.size 0 none)), undef, undef, (if listed.getD 18 false = true then Value.bool (p2 == y) else Value.bool false), undef, undef, undef, undef, undef, undef, undef, undef, undef, undef, Value.int IntKind.i64 gx, Value.int IntKind.i64 gy, Value.int IntKind.i64 P, Value.int IntKind.i64 x, Value.int IntKind.i64 y, Value.bool false, Value.pointer (some (Addr.mk w.heap.size 0 none)), Value.int IntKind.i64 3, Value.bool false, Value.bool false, undef, undef, undef, undef, undef, undef, undef, undef, undef, undef, undef, undef, undef, undef, undef, undef, undef, undef, undef, undef, undef, undef, undef, undef, undef, undef, undef, undef, undef, undef, undef, undef, undef, undef, undef, undef, undef, undef, undef, undef, undef, undef, undef, undef, undef, undef, undef, undef, undef, undef, undef, undef, undef, undef, undef, undef, undef, undef, undef, Value.bool false, Value.bool false, undef, undef, undef, undef, undef, undef, undef, undef, undef, undef, undef, undef, undef, undef, undef, undef, undef, undef, undef, undef, undef, undef, undef, undef, undef, undef, undef, undef, undef, undef, undef, undef, undef, undef, undef, undef, undef, undef, undef, Value.int IntKind.i64 x, Value.pointer (some (Addr.mk w.heap.size 1 none)), Value.slice (some (Addr.mk g o none)) 2 sc, Value.pointer (some (Addr.mk g o none)), Value.int IntKind.i64 a, Value.int IntKind.i64 gx, Value.int IntKind.i64 y, Value.pointer (some (Addr.mk w.heap.size 1 none)), Value.slice (some (Addr.mk g o none)) 2 sc, Value.pointer (some (Addr.mk g o none)), Value.int IntKind.i64 a, Value.int IntKind.i64 gy, Value.int IntKind.i64 gx, Value.int IntKind.i64 gy, Value.bool false, Value.int IntKind.i64 gy, Value.int IntKind.i64 gx, Value.int IntKind.i64 (gy - gx), Value.int IntKind.i64 (gy - gx - 1), Value.agg #[Value.int IntKind.i64 3, Value.slice (some (Addr.mk g o none)) 2 sc, Value.int IntKind.i64 hosts], Value.int IntKind.i64 G, Value.int IntKind.i64 (gy - gx - 1 + G), Value.agg #[Value.int IntKind.i64 3, Value.slice (some (Addr.mk g o none)) 2 sc, Value.int IntKind.i64 hosts], Value.int IntKind.i64 G, Value.int IntKind.i64 P, (if listed.getD 0 false = true then Value.agg #[.int .i64 3, .slice (some ⟨g, o, none⟩) 2 sc, .int .i64 hosts] else undef), (if listed.getD 1 false = true then Value.int IntKind.i64 (gx) else undef), (if listed.getD 2 false = true then Value.int IntKind.i64 (P) else undef), (if listed.getD 3 false = true then Value.int IntKind.i64 (p1) else undef), (if listed.getD 4 false = true then Value.int IntKind.i64 (x) else undef), (if listed.getD 5 false = true then Value.bool true else undef), (if listed.getD 6 false = true then Value.bool true else undef), (if listed.getD 7 false = true then Value.agg #[.int .i64 3, .slice (some ⟨g, o, none⟩) 2 sc, .int .i64 hosts] else undef), (if listed.getD 8 false = true then Value.int IntKind.i64 (gy) else undef), (if listed.getD 9 false = true then Value.agg #[.int .i64 3, .slice (some ⟨g, o, none⟩) 2 sc, .int .i64 hosts] else undef), (if listed.getD 10 false = true then Value.int IntKind.i64 (G) else undef), (if listed.getD 11 false = true then Value.int IntKind.i64 (G - 2) else undef), (if listed.getD 12 false = true then Value.int IntKind.i64 (P) else undef), (if listed.getD 13 false = true then Value.int IntKind.i64 (G - 2 - P) else undef), (if listed.getD 14 false = true then Value.int IntKind.i64 (p2) else undef), (if listed.getD 15 false = true then Value.int IntKind.i64 (y) else undef), (if listed.getD 16 false = true then Value.bool (p2 == y) else undef), (if listed.getD 17 false = true then Value.bool (p2 == y) else undef)], []⟩) (hup_check (by kernel_rfl)) ?h0 ?step ?fin
    case h0 => exact ⟨IB.out.drew, rfl⟩
    case step =>
      intro listed a' w' i hs hbi hdep hi ⟨IB, ha⟩
      obtain ⟨ls⟩ := listed
      match ls, hs with
      | [x0, x1, x2, x3, x4, x5, x6, x7, x8, x9, x10, x11, x12, x13, x14, x15, x16, x17, x18], _ =>
      subst ha
      have hi' : i = 0 ∨ i = 1 ∨ i = 2 ∨ i = 3 ∨ i = 4 ∨ i = 5 ∨ i = 6 ∨ i = 7 ∨ i = 8 ∨ i = 9 ∨ i = 10 ∨ i = 11 ∨ i = 12 ∨ i = 13 ∨ i = 14 ∨ i = 15 ∨ i = 16 ∨ i = 17 ∨ i = 18 := by simp at hi; omega
      rcases hi' with rfl | rfl | rfl | rfl | rfl | rfl | rfl | rfl | rfl | rfl | rfl | rfl | rfl | rfl | rfl | rfl | rfl | rfl | rfl
      · obtain rfl : x0 = false := by simpa using hbi
        refine wpOpIn_load_row rfl rfl 34 _ rfl w.heap.size rfl 34 _ _ _ (heapB IB.out Q1.out) Tryz.underlying34 rfl info34 ?_
        exact ⟨IB, rfl⟩
      · obtain rfl : x1 = false := by simpa using hbi
        refine wpOpIn_plain rfl rfl rfl ?_
        exact ⟨IB, rfl⟩
      · obtain rfl : x2 = false := by simpa using hbi
        refine wpOpIn_plain rfl rfl rfl ?_
        exact ⟨IB, rfl⟩
      · obtain rfl : x3 = false := by simpa using hbi
        obtain rfl : x0 = true := hdep _ rfl ⟨0, .data⟩ (by simp) rfl
        obtain rfl : x1 = true := hdep _ rfl ⟨1, .data⟩ (by simp) rfl
        obtain rfl : x2 = true := hdep _ rfl ⟨2, .data⟩ (by simp) rfl
        refine wpOpIn_call (args := #[Value.agg #[.int .i64 3, .slice (some ⟨g, o, none⟩) 2 sc, .int .i64 hosts], Value.int IntKind.i64 (gx), Value.int IntKind.i64 (P)]) rfl rfl (sem_call3 rfl rfl rfl rfl (enters_of Tryz.func119 (by kernel_rfl) rfl)) (HW1.out w' (HB.out.trans (IB.out.mono HB.out.size))) ?_
        rintro e V9 ⟨rfl, hb⟩
        exact ⟨_, rfl, (IB.out.trans (hb.mono IB.out.size)), rfl⟩
      · obtain rfl : x4 = false := by simpa using hbi
        refine wpOpIn_plain rfl rfl rfl ?_
        exact ⟨IB, rfl⟩
      · obtain rfl : x5 = false := by simpa using hbi
        obtain rfl : x3 = true := hdep _ rfl ⟨3, .data⟩ (by simp) rfl
        obtain rfl : x4 = true := hdep _ rfl ⟨4, .data⟩ (by simp) rfl
        refine wpOpIn_plain (v := Value.bool true) (w' := w') rfl rfl (by simp [Oper.semAt, execOp, go_sem, hx1]) ?_
        exact ⟨IB, rfl⟩
      · obtain rfl : x6 = false := by simpa using hbi
        obtain rfl : x5 = true := hdep _ rfl ⟨5, .data⟩ (by simp) rfl
        refine wpOpIn_plain rfl rfl rfl ?_
        exact ⟨IB, rfl⟩
      · obtain rfl : x7 = false := by simpa using hbi
        obtain rfl : x6 = true := hdep _ rfl ⟨6, .guard⟩ (by simp) rfl
        refine wpOpIn_rowg rfl rfl rfl 34 _ rfl w.heap.size rfl 34 _ _ _ (heapB IB.out Q1.out) Tryz.underlying34 rfl info34 ?_
        exact ⟨IB, rfl⟩
      · obtain rfl : x8 = false := by simpa using hbi
        obtain rfl : x6 = true := hdep _ rfl ⟨6, .guard⟩ (by simp) rfl
        refine wpOpIn_guard (v := Value.int IntKind.i64 (gy)) (w' := w') rfl rfl rfl (by simp [Oper.semAt, execOp, go_sem]) ?_
        exact ⟨IB, rfl⟩
      · obtain rfl : x9 = false := by simpa using hbi
        obtain rfl : x6 = true := hdep _ rfl ⟨6, .guard⟩ (by simp) rfl
        refine wpOpIn_rowg rfl rfl rfl 34 _ rfl w.heap.size rfl 34 _ _ _ (heapB IB.out Q1.out) Tryz.underlying34 rfl info34 ?_
        exact ⟨IB, rfl⟩
      · obtain rfl : x10 = false := by simpa using hbi
        obtain rfl : x9 = true := hdep _ rfl ⟨9, .data⟩ (by simp) rfl
        obtain rfl : x6 = true := hdep _ rfl ⟨6, .guard⟩ (by simp) rfl
        refine wpOpIn_callg (args := #[Value.agg #[.int .i64 3, .slice (some ⟨g, o, none⟩) 2 sc, .int .i64 hosts]]) rfl rfl rfl (sem_call1 rfl rfl (enters_of Tryz.func65 (by kernel_rfl) rfl)) (HGR.out w' (HB.out.trans (IB.out.mono HB.out.size))) ?_
        rintro e V9 ⟨rfl, hb⟩
        exact ⟨_, rfl, (IB.out.trans (hb.mono IB.out.size)), rfl⟩
      · obtain rfl : x11 = false := by simpa using hbi
        obtain rfl : x10 = true := hdep _ rfl ⟨10, .data⟩ (by simp) rfl
        obtain rfl : x6 = true := hdep _ rfl ⟨6, .guard⟩ (by simp) rfl
        refine wpOpIn_guard (v := Value.int IntKind.i64 (G - 2)) (w' := w') rfl rfl rfl (sem_bin (vx := Value.int IntKind.i64 (G)) (vy := Value.int IntKind.i64 (2)) rfl rfl rfl rfl (HS3.out w')) ?_
        exact ⟨IB, rfl⟩
      · obtain rfl : x12 = false := by simpa using hbi
        obtain rfl : x6 = true := hdep _ rfl ⟨6, .guard⟩ (by simp) rfl
        refine wpOpIn_guard (v := Value.int IntKind.i64 (P)) (w' := w') rfl rfl rfl (by simp [Oper.semAt, execOp, go_sem]) ?_
        exact ⟨IB, rfl⟩
      · obtain rfl : x13 = false := by simpa using hbi
        obtain rfl : x11 = true := hdep _ rfl ⟨11, .data⟩ (by simp) rfl
        obtain rfl : x12 = true := hdep _ rfl ⟨12, .data⟩ (by simp) rfl
        obtain rfl : x6 = true := hdep _ rfl ⟨6, .guard⟩ (by simp) rfl
        refine wpOpIn_guard (v := Value.int IntKind.i64 (G - 2 - P)) (w' := w') rfl rfl rfl (sem_bin (vx := Value.int IntKind.i64 (G - 2)) (vy := Value.int IntKind.i64 (P)) rfl rfl rfl rfl (HS4.out w')) ?_
        exact ⟨IB, rfl⟩
      · obtain rfl : x14 = false := by simpa using hbi
        obtain rfl : x7 = true := hdep _ rfl ⟨7, .data⟩ (by simp) rfl
        obtain rfl : x8 = true := hdep _ rfl ⟨8, .data⟩ (by simp) rfl
        obtain rfl : x13 = true := hdep _ rfl ⟨13, .data⟩ (by simp) rfl
        obtain rfl : x6 = true := hdep _ rfl ⟨6, .guard⟩ (by simp) rfl
        refine wpOpIn_callg (args := #[Value.agg #[.int .i64 3, .slice (some ⟨g, o, none⟩) 2 sc, .int .i64 hosts], Value.int IntKind.i64 (gy), Value.int IntKind.i64 (G - 2 - P)]) rfl rfl rfl (sem_call3 rfl rfl rfl rfl (enters_of Tryz.func119 (by kernel_rfl) rfl)) (HW2.out w' (HB.out.trans (IB.out.mono HB.out.size))) ?_
        rintro e V9 ⟨rfl, hb⟩
        exact ⟨_, rfl, (IB.out.trans (hb.mono IB.out.size)), rfl⟩
      · obtain rfl : x15 = false := by simpa using hbi
        obtain rfl : x6 = true := hdep _ rfl ⟨6, .guard⟩ (by simp) rfl
        refine wpOpIn_guard (v := Value.int IntKind.i64 (y)) (w' := w') rfl rfl rfl (by simp [Oper.semAt, execOp, go_sem]) ?_
        exact ⟨IB, rfl⟩
      · obtain rfl : x16 = false := by simpa using hbi
        obtain rfl : x14 = true := hdep _ rfl ⟨14, .data⟩ (by simp) rfl
        obtain rfl : x15 = true := hdep _ rfl ⟨15, .data⟩ (by simp) rfl
        obtain rfl : x6 = true := hdep _ rfl ⟨6, .guard⟩ (by simp) rfl
        refine wpOpIn_guard (v := Value.bool (p2 == y)) (w' := w') rfl rfl rfl (by simp [Oper.semAt, execOp, go_sem]) ?_
        exact ⟨IB, rfl⟩
      · obtain rfl : x17 = false := by simpa using hbi
        obtain rfl : x6 = true := hdep _ rfl ⟨6, .data⟩ (by simp) rfl
        obtain rfl : x16 = true := hdep _ rfl ⟨16, .data⟩ (by simp) rfl
        refine wpOpIn_plain (v := Value.bool (p2 == y)) (w' := w') rfl rfl (by simp [Oper.semAt, execOp, go_sem]) ?_
        exact ⟨IB, rfl⟩
      · obtain rfl : x18 = false := by simpa using hbi
        obtain rfl : x17 = true := hdep _ rfl ⟨17, .data⟩ (by simp) rfl
        refine wpOpIn_plain rfl rfl rfl ?_
        exact ⟨IB, rfl⟩
    case fin =>
    intro listed a' w7 hs hall ⟨IB, ha⟩
    obtain ⟨ls⟩ := listed
    match ls, hs with
    | [x0, x1, x2, x3, x4, x5, x6, x7, x8, x9, x10, x11, x12, x13, x14, x15, x16, x17, x18], _ =>
    obtain rfl : x0 = true := hall 0 (by simp)
    obtain rfl : x1 = true := hall 1 (by simp)
    obtain rfl : x2 = true := hall 2 (by simp)
    obtain rfl : x3 = true := hall 3 (by simp)
    obtain rfl : x4 = true := hall 4 (by simp)
    obtain rfl : x5 = true := hall 5 (by simp)
    obtain rfl : x6 = true := hall 6 (by simp)
    obtain rfl : x7 = true := hall 7 (by simp)
    obtain rfl : x8 = true := hall 8 (by simp)
    obtain rfl : x9 = true := hall 9 (by simp)
    obtain rfl : x10 = true := hall 10 (by simp)
    obtain rfl : x11 = true := hall 11 (by simp)
    obtain rfl : x12 = true := hall 12 (by simp)
    obtain rfl : x13 = true := hall 13 (by simp)
    obtain rfl : x14 = true := hall 14 (by simp)
    obtain rfl : x15 = true := hall 15 (by simp)
    obtain rfl : x16 = true := hall 16 (by simp)
    obtain rfl : x17 = true := hall 17 (by simp)
    obtain rfl : x18 = true := hall 18 (by simp)
    subst ha
    clear hs hall
    go_wp2_with fail
    go_ret
    exact ⟨by show Ending.returned (Value.bool (p2 == y)) = _; simp [hgn, ← HP1.out, ← HP2.out, hrf], HB.out.trans (IB.out.mono HB.out.size)⟩
  · have hrf : (p1 == x) = false := by simpa using hx1
    refine (wpIn_wide (n := 0)).1 ?_
    refine region_det (by kernel_rfl) (I := fun listed a' w' => Hid (Below Y.heap.size Y w') ∧ a' = ⟨#[Value.agg #[Value.int IntKind.i64 3, Value.slice (some (Addr.mk g o none)) 2 sc, Value.int IntKind.i64 hosts], Value.int IntKind.i64 x, Value.int IntKind.i64 y, Value.pointer (some (Addr.mk w.heap.size 0 none)), undef, undef, (if listed.getD 18 false = true then Value.bool false else Value.bool false), undef, undef, undef, undef, undef, undef, undef, undef, undef, undef, Value.int IntKind.i64 gx, Value.int IntKind.i64 gy, Value.int IntKind.i64 P, Value.int IntKind.i64 x, Value.int IntKind.i64 y, Value.bool false, Value.pointer (some (Addr.mk w.heap.size 0 none)), Value.int IntKind.i64 3, Value.bool false, Value.bool false, undef, undef, undef, undef, undef, undef, undef, undef, undef, undef, undef, undef, undef, undef, undef, undef, undef, undef, undef, undef, undef, undef, undef, undef, undef, undef, undef, undef, undef, undef, undef, undef, undef, undef, undef, undef, undef, undef, undef, undef, undef, undef, undef, undef, undef, undef, undef, undef, undef, undef, undef, undef, undef, undef, undef, undef, undef, undef, undef, Value.bool false, Value.bool false, undef, undef, undef, undef, undef, undef, undef, undef, undef, undef, undef, undef, undef, undef, undef, undef, undef, undef, undef, undef, undef, undef, undef, undef, undef, undef, undef, undef, undef, undef, undef, undef, undef, undef, undef, undef, undef, undef, undef, Value.int IntKind.i64 x, Value.pointer (some (Addr.mk w.heap.size 1 none)), Value.slice (some (Addr.mk g o none)) 2 sc, Value.pointer (some (Addr.mk g o none)), Value.int IntKind.i64 a, Value.int IntKind.i64 gx, Value.int IntKind.i64 y, Value.pointer (some (Addr.mk w.heap.size 1 none)), Value.slice (some (Addr.mk g o none)) 2 sc, Value.pointer (some (Addr.mk g o none)), Value.int IntKind.i64 a, Value.int IntKind.i64 gy, Value.int IntKind.i64 gx, Value.int IntKind.i64 gy, Value.bool false, Value.int IntKind.i64 gy, Value.int IntKind.i64 gx, Value.int IntKind.i64 (gy - gx), Value.int IntKind.i64 (gy - gx - 1), Value.agg #[Value.int IntKind.i64 3, Value.slice (some (Addr.mk g o none)) 2 sc, Value.int IntKind.i64 hosts], Value.int IntKind.i64 G, Value.int IntKind.i64 (gy - gx - 1 + G), Value.agg #[Value.int IntKind.i64 3, Value.slice (some (Addr.mk g o none)) 2 sc, Value.int IntKind.i64 hosts], Value.int IntKind.i64 G, Value.int IntKind.i64 P, (if listed.getD 0 false = true then Value.agg #[.int .i64 3, .slice (some ⟨g, o, none⟩) 2 sc, .int .i64 hosts] else undef), (if listed.getD 1 false = true then Value.int IntKind.i64 (gx) else undef), (if listed.getD 2 false = true then Value.int IntKind.i64 (P) else undef), (if listed.getD 3 false = true then Value.int IntKind.i64 (p1) else undef), (if listed.getD 4 false = true then Value.int IntKind.i64 (x) else undef), (if listed.getD 5 false = true then Value.bool false else undef), (if listed.getD 6 false = true then Value.bool false else undef), (if listed.getD 7 false = true then undef else undef), (if listed.getD 8 false = true then undef else undef), (if listed.getD 9 false = true then undef else undef), (if listed.getD 10 false = true then undef else undef), (if listed.getD 11 false = true then undef else undef), (if listed.getD 12 false = true then undef else undef), (if listed.getD 13 false = true then undef else undef), (if listed.getD 14 false = true then undef else undef), (if listed.getD 15 false = true then undef else undef), (if listed.getD 16 false = true then undef else undef), (if listed.getD 17 false = true then Value.bool false else undef)], []⟩) (hup_check (by kernel_rfl)) ?h0 ?step ?fin
    case h0 => exact ⟨IB.out.drew, rfl⟩
    case step =>
      intro listed a' w' i hs hbi hdep hi ⟨IB, ha⟩
      obtain ⟨ls⟩ := listed
      match ls, hs with
      | [x0, x1, x2, x3, x4, x5, x6, x7, x8, x9, x10, x11, x12, x13, x14, x15, x16, x17, x18], _ =>
      subst ha
      have hi' : i = 0 ∨ i = 1 ∨ i = 2 ∨ i = 3 ∨ i = 4 ∨ i = 5 ∨ i = 6 ∨ i = 7 ∨ i = 8 ∨ i = 9 ∨ i = 10 ∨ i = 11 ∨ i = 12 ∨ i = 13 ∨ i = 14 ∨ i = 15 ∨ i = 16 ∨ i = 17 ∨ i = 18 := by simp at hi; omega
      rcases hi' with rfl | rfl | rfl | rfl | rfl | rfl | rfl | rfl | rfl | rfl | rfl | rfl | rfl | rfl | rfl | rfl | rfl | rfl | rfl
      · obtain rfl : x0 = false := by simpa using hbi
        refine wpOpIn_load_row rfl rfl 34 _ rfl w.heap.size rfl 34 _ _ _ (heapB IB.out Q1.out) Tryz.underlying34 rfl info34 ?_
        exact ⟨IB, rfl⟩
      · obtain rfl : x1 = false := by simpa using hbi
        refine wpOpIn_plain rfl rfl rfl ?_
        exact ⟨IB, rfl⟩
      · obtain rfl : x2 = false := by simpa using hbi
        refine wpOpIn_plain rfl rfl rfl ?_
        exact ⟨IB, rfl⟩
      · obtain rfl : x3 = false := by simpa using hbi
        obtain rfl : x0 = true := hdep _ rfl ⟨0, .data⟩ (by simp) rfl
        obtain rfl : x1 = true := hdep _ rfl ⟨1, .data⟩ (by simp) rfl
        obtain rfl : x2 = true := hdep _ rfl ⟨2, .data⟩ (by simp) rfl
        refine wpOpIn_call (args := #[Value.agg #[.int .i64 3, .slice (some ⟨g, o, none⟩) 2 sc, .int .i64 hosts], Value.int IntKind.i64 (gx), Value.int IntKind.i64 (P)]) rfl rfl (sem_call3 rfl rfl rfl rfl (enters_of Tryz.func119 (by kernel_rfl) rfl)) (HW1.out w' (HB.out.trans (IB.out.mono HB.out.size))) ?_
        rintro e V9 ⟨rfl, hb⟩
        exact ⟨_, rfl, (IB.out.trans (hb.mono IB.out.size)), rfl⟩
      · obtain rfl : x4 = false := by simpa using hbi
        refine wpOpIn_plain rfl rfl rfl ?_
        exact ⟨IB, rfl⟩
      · obtain rfl : x5 = false := by simpa using hbi
        obtain rfl : x3 = true := hdep _ rfl ⟨3, .data⟩ (by simp) rfl
        obtain rfl : x4 = true := hdep _ rfl ⟨4, .data⟩ (by simp) rfl
        refine wpOpIn_plain (v := Value.bool false) (w' := w') rfl rfl (by simp [Oper.semAt, execOp, go_sem, hx1]) ?_
        exact ⟨IB, rfl⟩
      · obtain rfl : x6 = false := by simpa using hbi
        obtain rfl : x5 = true := hdep _ rfl ⟨5, .data⟩ (by simp) rfl
        refine wpOpIn_plain rfl rfl rfl ?_
        exact ⟨IB, rfl⟩
      · obtain rfl : x7 = false := by simpa using hbi
        obtain rfl : x6 = true := hdep _ rfl ⟨6, .guard⟩ (by simp) rfl
        refine wpOpIn_off rfl rfl rfl ?_
        exact ⟨IB, rfl⟩
      · obtain rfl : x8 = false := by simpa using hbi
        obtain rfl : x6 = true := hdep _ rfl ⟨6, .guard⟩ (by simp) rfl
        refine wpOpIn_off rfl rfl rfl ?_
        exact ⟨IB, rfl⟩
      · obtain rfl : x9 = false := by simpa using hbi
        obtain rfl : x6 = true := hdep _ rfl ⟨6, .guard⟩ (by simp) rfl
        refine wpOpIn_off rfl rfl rfl ?_
        exact ⟨IB, rfl⟩
      · obtain rfl : x10 = false := by simpa using hbi
        obtain rfl : x6 = true := hdep _ rfl ⟨6, .guard⟩ (by simp) rfl
        refine wpOpIn_off rfl rfl rfl ?_
        exact ⟨IB, rfl⟩
      · obtain rfl : x11 = false := by simpa using hbi
        obtain rfl : x6 = true := hdep _ rfl ⟨6, .guard⟩ (by simp) rfl
        refine wpOpIn_off rfl rfl rfl ?_
        exact ⟨IB, rfl⟩
      · obtain rfl : x12 = false := by simpa using hbi
        obtain rfl : x6 = true := hdep _ rfl ⟨6, .guard⟩ (by simp) rfl
        refine wpOpIn_off rfl rfl rfl ?_
        exact ⟨IB, rfl⟩
      · obtain rfl : x13 = false := by simpa using hbi
        obtain rfl : x6 = true := hdep _ rfl ⟨6, .guard⟩ (by simp) rfl
        refine wpOpIn_off rfl rfl rfl ?_
        exact ⟨IB, rfl⟩
      · obtain rfl : x14 = false := by simpa using hbi
        obtain rfl : x6 = true := hdep _ rfl ⟨6, .guard⟩ (by simp) rfl
        refine wpOpIn_off rfl rfl rfl ?_
        exact ⟨IB, rfl⟩
      · obtain rfl : x15 = false := by simpa using hbi
        obtain rfl : x6 = true := hdep _ rfl ⟨6, .guard⟩ (by simp) rfl
        refine wpOpIn_off rfl rfl rfl ?_
        exact ⟨IB, rfl⟩
      · obtain rfl : x16 = false := by simpa using hbi
        obtain rfl : x6 = true := hdep _ rfl ⟨6, .guard⟩ (by simp) rfl
        refine wpOpIn_off rfl rfl rfl ?_
        exact ⟨IB, rfl⟩
      · obtain rfl : x17 = false := by simpa using hbi
        obtain rfl : x6 = true := hdep _ rfl ⟨6, .data⟩ (by simp) rfl
        obtain rfl : x16 = true := hdep _ rfl ⟨16, .data⟩ (by simp) rfl
        refine wpOpIn_plain (v := Value.bool false) (w' := w') rfl rfl (by simp [Oper.semAt, execOp, go_sem]) ?_
        exact ⟨IB, rfl⟩
      · obtain rfl : x18 = false := by simpa using hbi
        obtain rfl : x17 = true := hdep _ rfl ⟨17, .data⟩ (by simp) rfl
        refine wpOpIn_plain rfl rfl rfl ?_
        exact ⟨IB, rfl⟩
    case fin =>
    intro listed a' w7 hs hall ⟨IB, ha⟩
    obtain ⟨ls⟩ := listed
    match ls, hs with
    | [x0, x1, x2, x3, x4, x5, x6, x7, x8, x9, x10, x11, x12, x13, x14, x15, x16, x17, x18], _ =>
    obtain rfl : x0 = true := hall 0 (by simp)
    obtain rfl : x1 = true := hall 1 (by simp)
    obtain rfl : x2 = true := hall 2 (by simp)
    obtain rfl : x3 = true := hall 3 (by simp)
    obtain rfl : x4 = true := hall 4 (by simp)
    obtain rfl : x5 = true := hall 5 (by simp)
    obtain rfl : x6 = true := hall 6 (by simp)
    obtain rfl : x7 = true := hall 7 (by simp)
    obtain rfl : x8 = true := hall 8 (by simp)
    obtain rfl : x9 = true := hall 9 (by simp)
    obtain rfl : x10 = true := hall 10 (by simp)
    obtain rfl : x11 = true := hall 11 (by simp)
    obtain rfl : x12 = true := hall 12 (by simp)
    obtain rfl : x13 = true := hall 13 (by simp)
    obtain rfl : x14 = true := hall 14 (by simp)
    obtain rfl : x15 = true := hall 15 (by simp)
    obtain rfl : x16 = true := hall 16 (by simp)
    obtain rfl : x17 = true := hall 17 (by simp)
    obtain rfl : x18 = true := hall 18 (by simp)
    subst ha
    clear hs hall
    go_wp2_with fail
    go_ret
    exact ⟨by show Ending.returned (Value.bool false) = _; simp [hgn, ← HP1.out, ← HP2.out, hrf], HB.out.trans (IB.out.mono HB.out.size)⟩
end Go.Proofs.YtbhkenphcahifaaGreat
namespace Go.Proofs.YtbhkenphcahifaaGreat
open Go.RowKit Go.Shelf
set_option maxRecDepth 100000
set_option maxHeartbeats 4000000
/-! trees -/
theorem quot_add {P q e : Int} (hP : 1 ≤ P) (w : Int) (h : w / P = q) : (w + e * P) / P = q + e := by rw [Int.add_mul_ediv_right _ _ (by omega), h]
theorem wth_quot {k i : Nat} (hk : 1 ≤ k) (w d : Int) : wthI k i w d / ((k ^ i : Nat) : Int) = w / ((k ^ i : Nat) : Int) + (d - digI k i w) := by
  unfold wthI
  exact quot_add (by have := pow_pos' (i := i) hk; omega) w rfl
theorem wth_dig {k i : Nat} (hk : 1 ≤ k) (w : Int) {d : Int} (h0 : 0 ≤ d) (h1 : d < k) : digI k i (wthI k i w d) = d := by
  have h := wth_quot (i := i) hk w d
  unfold digI at h ⊢
  rw [h]
  generalize w / ((k ^ i : Nat) : Int) = q
  have e : q + (d - q % (k : Int)) = d + (k : Int) * (q / k) := by have := Int.mul_ediv_add_emod q k; omega
  rw [e, Int.add_mul_emod_self_left, Int.emod_eq_of_lt h0 h1]
theorem wth_own {k i : Nat} (w : Int) : wthI k i w (digI k i w) = w := by unfold wthI; simp
theorem wth_wth {k i : Nat} (hk : 1 ≤ k) (w : Int) {d : Int} (h0 : 0 ≤ d) (h1 : d < k) (e : Int) : wthI k i (wthI k i w d) e = wthI k i w e := by
  have h := wth_dig (i := i) hk w h0 h1
  generalize hv : wthI k i w d = v at h ⊢
  unfold wthI at hv ⊢
  rw [h, ← hv]
  have : (d - digI k i w) * ((k ^ i : Nat) : Int) + (e - d) * ((k ^ i : Nat) : Int) = (e - digI k i w) * ((k ^ i : Nat) : Int) := by rw [← Int.add_mul]; congr 1; omega
  omega
theorem pow_quot {k : Nat} (w : Int) (i j : Nat) : w / ((k ^ (i + j) : Nat) : Int) = w / ((k ^ i : Nat) : Int) / ((k ^ j : Nat) : Int) := by
  rw [Nat.pow_add, Int.natCast_mul]
  exact (Int.ediv_ediv_of_nonneg (Int.natCast_nonneg _)).symm
/-- digits above are not changed -/
theorem wth_above {k i : Nat} (hk : 1 ≤ k) (w : Int) {d : Int} (h0 : 0 ≤ d) (h1 : d < k) {j : Nat} (hj : i < j) : wthI k i w d / ((k ^ j : Nat) : Int) = w / ((k ^ j : Nat) : Int) := by
  have e1 : wthI k i w d / ((k ^ (i + 1) : Nat) : Int) = w / ((k ^ (i + 1) : Nat) : Int) := by
    rw [pow_quot, pow_quot, wth_quot hk]
    unfold digI
    rw [Nat.pow_one]
    generalize w / ((k ^ i : Nat) : Int) = q
    have e : q + (d - q % (k : Int)) = d + (k : Int) * (q / k) := by have := Int.mul_ediv_add_emod q k; omega
    rw [e, Int.add_mul_ediv_left _ _ (by omega), Int.ediv_eq_zero_of_lt h0 h1, Int.zero_add]
  obtain ⟨m, rfl⟩ : ∃ m, j = i + 1 + m := ⟨j - i - 1, by omega⟩
  rw [pow_quot _ (i + 1) m, e1, ← pow_quot]
theorem mem_lvT {k lv : Nat} {ww : Int} {l : Nat} {wx z : Int} : z ∈ lvT k lv ww l wx ↔ (0 < l ∧ ∃ d : Nat, d < k ∧ z = ((l - 1 : Nat) : Int) * ww + wthI k (l - 1) wx d) ∨ (l < lv - 1 ∧ ∃ d : Nat, d < k ∧ z = ((l + 1 : Nat) : Int) * ww + wthI k l wx d) := by
  unfold lvT
  rw [List.mem_append]
  have e1 : z ∈ dnT k ww (l - 1) wx k ↔ ∃ d : Nat, d < k ∧ z = ((l - 1 : Nat) : Int) * ww + wthI k (l - 1) wx d := by
    unfold dnT; rw [List.mem_map]
    exact ⟨fun ⟨d, hd, e⟩ => ⟨d, List.mem_range.1 hd, e.symm⟩, fun ⟨d, hd, e⟩ => ⟨d, List.mem_range.2 hd, e.symm⟩⟩
  have e2 : z ∈ upT k ww l wx k ↔ ∃ d : Nat, d < k ∧ z = ((l + 1 : Nat) : Int) * ww + wthI k l wx d := by
    unfold upT; rw [List.mem_map]
    exact ⟨fun ⟨d, hd, e⟩ => ⟨d, List.mem_range.1 hd, e.symm⟩, fun ⟨d, hd, e⟩ => ⟨d, List.mem_range.2 hd, e.symm⟩⟩
  constructor
  · rintro (h | h)
    · by_cases h0 : 0 < l
      · rw [if_pos h0] at h; exact .inl ⟨h0, e1.1 h⟩
      · rw [if_neg h0] at h; simp at h
    · by_cases h0 : l < lv - 1
      · rw [if_pos h0] at h; exact .inr ⟨h0, e2.1 h⟩
      · rw [if_neg h0] at h; simp at h
  · rintro (⟨h0, h⟩ | ⟨h0, h⟩)
    · rw [if_pos h0]; exact .inl (e1.2 h)
    · rw [if_pos h0]; exact .inr (e2.2 h)
/-- a switch by its level and word -/
def InTr (k lv : Nat) (x : Int) (l : Nat) (wd : Int) : Prop := x = (l : Int) * ((k ^ (lv - 1) : Nat) : Int) + wd ∧ l ≤ lv - 1 ∧ 0 ≤ wd ∧ wd < ((k ^ (lv - 1) : Nat) : Int)
theorem InTr.of {k lv : Nat} (hk : 1 ≤ k) (hlv : 1 ≤ lv) {x : Int} (h0 : 0 ≤ x) (h1 : x < (lv : Int) * ((k ^ (lv - 1) : Nat) : Int)) : InTr k lv x (x / ((k ^ (lv - 1) : Nat) : Int)).toNat (x % ((k ^ (lv - 1) : Nat) : Int)) := by
  have hw : 1 ≤ k ^ (lv - 1) := pow_pos' hk
  have h2 : x / ((k ^ (lv - 1) : Nat) : Int) < lv := Int.ediv_lt_of_lt_mul (by omega) h1
  have h3 := Int.ediv_nonneg h0 (show (0 : Int) ≤ ((k ^ (lv - 1) : Nat) : Int) by omega)
  refine ⟨?_, by omega, Int.emod_nonneg _ (by omega), Int.emod_lt_of_pos _ (by omega)⟩
  rw [Int.toNat_of_nonneg h3, Int.mul_comm]
  exact (Int.mul_ediv_add_emod x _).symm
theorem InTr.rng {k lv : Nat} (hlv : 1 ≤ lv) {x : Int} {l : Nat} {wd : Int} (h : InTr k lv x l wd) : 0 ≤ x ∧ x < (lv : Int) * ((k ^ (lv - 1) : Nat) : Int) := by
  obtain ⟨rfl, h1, h2, h3⟩ := h
  have e1 : (l : Int) * ((k ^ (lv - 1) : Nat) : Int) ≤ ((lv - 1 : Nat) : Int) * ((k ^ (lv - 1) : Nat) : Int) := Int.mul_le_mul_of_nonneg_right (by omega) (by omega)
  have e2 : ((lv - 1 : Nat) : Int) * ((k ^ (lv - 1) : Nat) : Int) = (lv : Int) * ((k ^ (lv - 1) : Nat) : Int) - ((k ^ (lv - 1) : Nat) : Int) := by
    rw [show ((lv - 1 : Nat) : Int) = (lv : Int) - 1 by omega, Int.sub_mul, Int.one_mul]
  have e3 := Int.mul_nonneg (show (0 : Int) ≤ l by omega) (show (0 : Int) ≤ ((k ^ (lv - 1) : Nat) : Int) by omega)
  omega
theorem InTr.parts {k lv : Nat} {x : Int} {l : Nat} {wd : Int} (h : InTr k lv x l wd) : x / ((k ^ (lv - 1) : Nat) : Int) = l ∧ x % ((k ^ (lv - 1) : Nat) : Int) = wd := by
  obtain ⟨rfl, h1, h2, h3⟩ := h
  refine ⟨lvl_div l h2 h3, ?_⟩
  rw [Int.add_comm, Int.add_mul_emod_self_right, Int.emod_eq_of_lt h2 h3]
theorem InTr.nb {k lv : Nat} {x : Int} {l : Nat} {wd : Int} (h : InTr k lv x l wd) : nbT k lv x = lvT k lv ((k ^ (lv - 1) : Nat) : Int) l wd := by
  unfold nbT
  rw [h.parts.1, h.parts.2, Int.toNat_natCast]
theorem InTr.unique {k lv : Nat} {x : Int} {l l' : Nat} {wd wd' : Int} (h : InTr k lv x l wd) (g : InTr k lv x l' wd') : l = l' ∧ wd = wd' := by
  have h1 := h.parts; have h2 := g.parts
  exact ⟨by have := h1.1.symm.trans h2.1; omega, h1.2.symm.trans h2.2⟩
theorem InTr.with_ {k lv : Nat} (hk : 1 ≤ k) {i l' : Nat} {wd d : Int} (hi : i < lv - 1) (hl : l' ≤ lv - 1) (h2 : 0 ≤ wd) (h3 : wd < ((k ^ (lv - 1) : Nat) : Int)) (d0 : 0 ≤ d) (d1 : d < k) : InTr k lv ((l' : Int) * ((k ^ (lv - 1) : Nat) : Int) + wthI k i wd d) l' (wthI k i wd d) := by
  obtain ⟨a, b⟩ := wth_in hk hi h2 h3 d0 d1
  exact ⟨rfl, hl, a, b⟩
/-- links of a tree: one level up or down, another digit; they lead back -/
theorem tree_sym {k lv : Nat} (hk : 1 ≤ k) {x : Int} {l : Nat} {wd : Int} (h : InTr k lv x l wd) : ∀ z ∈ nbT k lv x, x ∈ nbT k lv z ∧ ∃ l' wd', InTr k lv z l' wd' ∧ ((l' + 1 = l ∧ ∀ j, l' < j → wd' / ((k ^ j : Nat) : Int) = wd / ((k ^ j : Nat) : Int)) ∨ (l' = l + 1 ∧ ∀ j, l < j → wd' / ((k ^ j : Nat) : Int) = wd / ((k ^ j : Nat) : Int))) := by
  intro z hz
  rw [h.nb, mem_lvT] at hz
  obtain ⟨rfl, h1, h2, h3⟩ := h
  rcases hz with ⟨h0, d, hd, rfl⟩ | ⟨h0, d, hd, rfl⟩
  · obtain ⟨m, rfl⟩ : ∃ m, l = m + 1 := ⟨l - 1, by omega⟩
    rw [Nat.add_sub_cancel]
    have g := InTr.with_ (lv := lv) (l' := m) hk (show m < lv - 1 by omega) (by omega) h2 h3 (show (0 : Int) ≤ (d : Int) by omega) (by omega)
    refine ⟨?_, m, _, g, .inl ⟨rfl, fun j hj => wth_above hk wd (by omega) (by omega) hj⟩⟩
    rw [g.nb, mem_lvT]
    obtain ⟨d0, d1⟩ := dig_bound (k := k) (i := m) (x := wd) hk
    refine .inr ⟨by omega, (digI k m wd).toNat, by omega, ?_⟩
    rw [Int.toNat_of_nonneg d0, wth_wth hk wd (by omega) (by omega), wth_own]
  · have g := InTr.with_ (lv := lv) (l' := l + 1) hk (show l < lv - 1 by omega) (by omega) h2 h3 (show (0 : Int) ≤ (d : Int) by omega) (by omega)
    refine ⟨?_, l + 1, _, g, .inr ⟨rfl, fun j hj => wth_above hk wd (by omega) (by omega) hj⟩⟩
    rw [g.nb, mem_lvT]
    obtain ⟨d0, d1⟩ := dig_bound (k := k) (i := l) (x := wd) hk
    refine .inl ⟨by omega, (digI k l wd).toNat, by omega, ?_⟩
    rw [Int.toNat_of_nonneg d0, Nat.add_sub_cancel, wth_wth hk wd (by omega) (by omega), wth_own]
end Go.Proofs.YtbhkenphcahifaaGreat
namespace Go.Proofs.YtbhkenphcahifaaGreat
open Go.RowKit Go.Shelf
set_option maxRecDepth 100000
set_option maxHeartbeats 4000000
theorem set_own {c : List Int} {i : Nat} (hi : i < c.length) : c.set i (c.getD i 0) = c := by
  refine List.ext_getElem (by simp) fun j h1 h2 => ?_
  rw [List.getElem_set]
  split
  · rename_i h; subst h; simp [List.getD, hi]
  · rfl
theorem mem_nbL {l d : List Int} (hd : InT l d) {z : Int} : z ∈ nbL l (numI l d) ↔ ∃ i s, i < l.length ∧ (s = 1 ∨ s = -1) ∧ z = numI l (d.set i ((d.getD i 0 + s) % l.getD i 0)) := by
  rw [nbL_iff, nbK_iff]
  constructor
  · rintro ⟨i, hi, h | h⟩
    · exact ⟨i, 1, hi, .inl rfl, by rw [h, nbA_num hd hi]⟩
    · exact ⟨i, -1, hi, .inr rfl, by rw [h, nbA_num hd hi]⟩
  · rintro ⟨i, s, hi, rfl | rfl, rfl⟩
    · exact ⟨i, hi, .inl (by rw [nbA_num hd hi])⟩
    · exact ⟨i, hi, .inr (by rw [nbA_num hd hi])⟩
theorem torus_sym {l : List Int} (hb : ∀ i, i < l.length → 2 ≤ l.getD i 0 ∧ l.getD i 0 ≤ 16) {d : List Int} (hd : InT l d) : ∀ z ∈ nbL l (numI l d), numI l d ∈ nbL l z := by
  intro z hz
  obtain ⟨i, s, hi, hs, rfl⟩ := (mem_nbL hd).1 hz
  obtain ⟨e1, e2⟩ := emod_in (a := d.getD i 0 + s) (hb i hi).1
  obtain ⟨c0, c1⟩ := hd.2 i hi
  refine (mem_nbL (hd.set hi e1 e2)).2 ⟨i, -s, hi, by omega, ?_⟩
  rw [getD_set_same _ _ _ _ (by rw [hd.1]; exact hi), List.set_set]
  have e : ((d.getD i 0 + s) % l.getD i 0 + -s) % l.getD i 0 = d.getD i 0 := by
    rw [Int.emod_add_emod, show d.getD i 0 + s + -s = d.getD i 0 by omega, Int.emod_eq_of_lt c0 c1]
  rw [e, set_own (by rw [hd.1]; exact hi)]
theorem list_eq {c e : List Int} (h : c.length = e.length) (hj : ∀ j, j < c.length → c.getD j 0 = e.getD j 0) : c = e := by
  refine List.ext_getElem h fun j h1 h2 => ?_
  have := hj j h1
  simpa [List.getD, h1, h2] using this
end Go.Proofs.YtbhkenphcahifaaGreat
namespace Go.Proofs.YtbhkenphcahifaaGreat
open Go.RowKit Go.Shelf
set_option maxRecDepth 100000
set_option maxHeartbeats 4000000
/-- a switch of a dragonfly by its group and place -/
def InDr (a g x gr pl : Int) : Prop := x = gr * a + pl ∧ 0 ≤ gr ∧ gr < g ∧ 0 ≤ pl ∧ pl < a
theorem InDr.parts {a g x gr pl : Int} (h : InDr a g x gr pl) : x / a = gr ∧ x % a = pl := by
  obtain ⟨rfl, h1, h2, h3, h4⟩ := h
  refine ⟨?_, ?_⟩
  · rw [Int.add_comm, Int.add_mul_ediv_right _ _ (by omega), Int.ediv_eq_zero_of_lt h3 h4, Int.zero_add]
  · rw [Int.add_comm, Int.add_mul_emod_self_right, Int.emod_eq_of_lt h3 h4]
theorem InDr.of {a g x : Int} (ha : 1 ≤ a) (h0 : 0 ≤ x) (h1 : x < a * g) : InDr a g x (x / a) (x % a) :=
  ⟨by rw [Int.mul_comm]; exact (Int.mul_ediv_add_emod x a).symm, Int.ediv_nonneg h0 (by omega), Int.ediv_lt_of_lt_mul (by omega) (by rw [Int.mul_comm]; exact h1), Int.emod_nonneg _ (by omega), Int.emod_lt_of_pos _ (by omega)⟩
theorem InDr.rng {a g x gr pl : Int} (h : InDr a g x gr pl) : 0 ≤ x ∧ x < a * g := by
  obtain ⟨rfl, h1, h2, h3, h4⟩ := h
  have e1 : (gr + 1) * a ≤ g * a := Int.mul_le_mul_of_nonneg_right (by omega) (by omega)
  rw [Int.add_mul, Int.one_mul, Int.mul_comm g a] at e1
  have e2 := Int.mul_nonneg h1 (show 0 ≤ a by omega)
  omega
theorem sort_mem_iff {l : List Int} {y : Int} : y ∈ sortL l ↔ y ∈ l := by unfold sortL; exact (List.mergeSort_perm _ _).mem_iff
theorem mem_dgA {a gr pl z : Int} : ∀ m, z ∈ dgA a gr pl m ↔ ∃ i : Nat, i < m ∧ (i : Int) ≠ pl ∧ z = gr * a + i
  | 0 => by simp [dgA]
  | m + 1 => by
    rw [dgA, List.mem_append, mem_dgA m]
    constructor
    · rintro (⟨i, h1, h2⟩ | h)
      · exact ⟨i, by omega, h2⟩
      · split at h
        · rename_i hne; exact ⟨m, by omega, hne, by simpa using h⟩
        · simp at h
    · rintro ⟨i, h1, h2, rfl⟩
      by_cases hi : i = m
      · subst hi; rw [if_pos h2]; exact .inr (by simp)
      · exact .inl ⟨i, by omega, h2, rfl⟩
theorem mem_nbD {a h : Nat} {x gr pl z : Int} (hx : InDr a ((a : Int) * h + 1) x gr pl) : z ∈ nbD a h x ↔ (∃ i : Int, 0 ≤ i ∧ i < a ∧ i ≠ pl ∧ z = gr * a + i) ∨ ∃ p : Int, 0 ≤ p ∧ p < h ∧ z = (gr + (pl * h + p) + 1) % ((a : Int) * h + 1) * a + ((a : Int) * h + 1 - 2 - (pl * h + p)) / h := by
  unfold nbD
  rw [hx.parts.1, hx.parts.2, sort_mem_iff, List.mem_append, mem_dgA]
  refine or_congr ⟨fun ⟨i, h1, h2, h3⟩ => ⟨i, by omega, by omega, h2, h3⟩, fun ⟨i, h1, h2, h3, h4⟩ => ⟨i.toNat, by omega, by omega, by rw [h4]; congr 1; omega⟩⟩ ?_
  unfold dgB
  rw [List.mem_map]
  constructor
  · rintro ⟨p, hp, rfl⟩
    have := List.mem_range.1 hp
    exact ⟨p, by omega, by omega, rfl⟩
  · rintro ⟨p, h1, h2, rfl⟩
    obtain ⟨n, rfl⟩ := Int.eq_ofNat_of_zero_le h1
    exact ⟨n, List.mem_range.2 (by omega), rfl⟩
/-- the port of a group behind which another group is -/
theorem port_far {g gr P : Int} (h0 : 0 ≤ gr) (h1 : gr < g) (p0 : 0 ≤ P) (p1 : P ≤ g - 2) : 0 ≤ (gr + P + 1) % g ∧ (gr + P + 1) % g < g ∧ (gr + P + 1) % g ≠ gr ∧ ((gr + P + 1) % g + (g - 2 - P) + 1) % g = gr ∧ (gr - (gr + P + 1) % g - 1) % g = g - 2 - P := by
  have e : (gr + P + 1) % g = if gr + P + 1 < g then gr + P + 1 else gr + P + 1 - g := by
    split
    · exact Int.emod_eq_of_lt (by omega) (by omega)
    · rw [← Int.sub_emod_right]; exact Int.emod_eq_of_lt (by omega) (by omega)
  rw [e]
  refine ⟨by split <;> omega, by split <;> omega, by split <;> omega, ?_, ?_⟩
  · split
    · rw [show gr + P + 1 + (g - 2 - P) + 1 = gr + g by omega, Int.add_emod_right, Int.emod_eq_of_lt h0 h1]
    · rw [show gr + P + 1 - g + (g - 2 - P) + 1 = gr by omega, Int.emod_eq_of_lt h0 h1]
  · split
    · rw [← Int.add_emod_right, Int.emod_eq_of_lt (by omega) (by omega)]; omega
    · rw [Int.emod_eq_of_lt (by omega) (by omega)]; omega
theorem port_in {a h pl p : Int} (hh : 1 ≤ h) (l0 : 0 ≤ pl) (l1 : pl < a) (p0 : 0 ≤ p) (p1 : p < h) : 0 ≤ pl * h + p ∧ pl * h + p ≤ a * h + 1 - 2 ∧ (pl * h + p) / h = pl ∧ (pl * h + p) % h = p := by
  have e1 : (pl + 1) * h ≤ a * h := Int.mul_le_mul_of_nonneg_right (by omega) (by omega)
  rw [Int.add_mul, Int.one_mul] at e1
  have e2 := Int.mul_nonneg l0 (show 0 ≤ h by omega)
  refine ⟨by omega, by omega, ?_, ?_⟩
  · rw [Int.add_comm, Int.add_mul_ediv_right _ _ (by omega), Int.ediv_eq_zero_of_lt p0 p1, Int.zero_add]
  · rw [Int.add_comm, Int.add_mul_emod_self_right, Int.emod_eq_of_lt p0 p1]
theorem place_in {a h P : Int} (hh : 1 ≤ h) (p0 : 0 ≤ P) (p1 : P ≤ a * h + 1 - 2) : 0 ≤ P / h ∧ P / h < a ∧ 0 ≤ P % h ∧ P % h < h ∧ P / h * h + P % h = P :=
  ⟨Int.ediv_nonneg p0 (by omega), Int.ediv_lt_of_lt_mul (by omega) (by omega), Int.emod_nonneg _ (by omega), Int.emod_lt_of_pos _ (by omega), by rw [Int.mul_comm]; exact Int.mul_ediv_add_emod P h⟩
/-- links of a dragonfly lead back -/
theorem drag_sym {a h : Nat} (ha : 1 ≤ a) (hh : 1 ≤ h) {x gr pl : Int} (hx : InDr a ((a : Int) * h + 1) x gr pl) : ∀ z ∈ nbD a h x, x ∈ nbD a h z ∧ ∃ gr' pl', InDr a ((a : Int) * h + 1) z gr' pl' := by
  intro z hz
  obtain ⟨g0, g1, l0, l1⟩ := hx.2
  rcases (mem_nbD hx).1 hz with ⟨i, i0, i1, i2, rfl⟩ | ⟨p, p0, p1, rfl⟩
  · have hz2 : InDr a ((a : Int) * h + 1) (gr * a + i) gr i := ⟨rfl, g0, g1, i0, i1⟩
    exact ⟨(mem_nbD hz2).2 (.inl ⟨pl, l0, l1, fun e => i2 e.symm, hx.1⟩), _, _, hz2⟩
  · obtain ⟨q0, q1, q2, q3⟩ := port_in (a := a) (show 1 ≤ (h : Int) by omega) l0 l1 p0 p1
    generalize hP : pl * (h : Int) + p = P at *
    obtain ⟨f0, f1, _, f2, _⟩ := port_far g0 g1 q0 q1
    obtain ⟨r0, r1, r2, r3, r4⟩ := place_in (a := a) (h := h) (P := (a : Int) * h + 1 - 2 - P) (by omega) (by omega) (by omega)
    have hz2 : InDr a ((a : Int) * h + 1) ((gr + P + 1) % ((a : Int) * h + 1) * a + ((a : Int) * h + 1 - 2 - P) / h) ((gr + P + 1) % ((a : Int) * h + 1)) (((a : Int) * h + 1 - 2 - P) / h) := ⟨rfl, f0, f1, r0, r1⟩
    refine ⟨(mem_nbD hz2).2 (.inr ⟨((a : Int) * h + 1 - 2 - P) % h, r2, r3, ?_⟩), _, _, hz2⟩
    rw [r4, f2, show (a : Int) * h + 1 - 2 - ((a : Int) * h + 1 - 2 - P) = P by omega, q2]
    exact hx.1
end Go.Proofs.YtbhkenphcahifaaGreat
namespace Go.Proofs.YtbhkenphcahifaaGreat
open Go.RowKit Go.Shelf
attribute [local go_sem] Oper.semAt_some
set_option maxRecDepth 100000
set_option maxHeartbeats 4000000
/-- what is known of a tree's numbers -/
theorem tree_nums {l : List Int} {hosts : Int} (hv : vOk 2 l hosts) : ∃ k lv : Nat, 1 ≤ k ∧ 1 ≤ lv ∧ l.getD 0 0 = (k : Int) ∧ l.getD 1 0 = (lv : Int) ∧ swI 2 l = (lv : Int) * ((k ^ (lv - 1) : Nat) : Int) ∧ hoI 2 l = ((k ^ (lv - 1) : Nat) : Int) := by
  have hr : rOk l hosts := by
    rcases hv with ⟨h0, h1⟩ | ⟨h0, h1⟩ | ⟨h0, h1⟩
    · cases h0
    · exact h1
    · cases h0
  obtain ⟨_, h1, h2, _⟩ := hr
  have hs : swI 2 l = l.getD 1 0 * wordsI l := rfl
  have ho : hoI 2 l = wordsI l := rfl
  have hw : wordsI l = (((l.getD 0 0).toNat ^ ((l.getD 1 0).toNat - 1) : Nat) : Int) := rfl
  rw [hs, ho, hw]
  generalize l.getD 0 0 = A at *
  generalize l.getD 1 0 = C at *
  obtain ⟨k, rfl⟩ := Int.eq_ofNat_of_zero_le (show 0 ≤ A by omega)
  obtain ⟨lv, rfl⟩ := Int.eq_ofNat_of_zero_le (show 0 ≤ C by omega)
  simp only [Int.toNat_natCast]
  exact ⟨k, lv, by omega, by omega, rfl, rfl, rfl, rfl⟩
theorem drag_nums {l : List Int} {hosts : Int} (hv : vOk 3 l hosts) : ∃ a h : Nat, 1 ≤ a ∧ 1 ≤ h ∧ l.getD 0 0 = (a : Int) ∧ l.getD 1 0 = (h : Int) ∧ swI 3 l = (a : Int) * ((a : Int) * h + 1) ∧ hoI 3 l = (a : Int) * ((a : Int) * h + 1) := by
  have hr : dOk l hosts := by
    rcases hv with ⟨h0, h1⟩ | ⟨h0, h1⟩ | ⟨h0, h1⟩
    · cases h0
    · cases h0
    · exact h1
  obtain ⟨_, _, h1, h2, h3⟩ := hr
  have hs : swI 3 l = l.getD 0 0 * (l.getD 0 0 * l.getD 1 0 + 1) := rfl
  have ho : hoI 3 l = l.getD 0 0 * (l.getD 0 0 * l.getD 1 0 + 1) := rfl
  rw [hs, ho]
  generalize l.getD 0 0 = A at *
  generalize l.getD 1 0 = C at *
  obtain ⟨a, rfl⟩ := Int.eq_ofNat_of_zero_le (show 0 ≤ A by omega)
  obtain ⟨h, rfl⟩ := Int.eq_ofNat_of_zero_le (show 0 ≤ C by omega)
  exact ⟨a, h, by omega, by omega, rfl, rfl, rfl, rfl⟩
/-- the neighbors are switches, and have the switch as a neighbor -/
theorem net_sym {kind : Int} {l : List Int} {hosts : Int} (hv : vOk kind l hosts) {x : Int} (h0 : 0 ≤ x) (h1 : x < swI kind l) : ∀ z ∈ nbS kind l x, (0 ≤ z ∧ z < swI kind l) ∧ x ∈ nbS kind l z := by
  rcases v_kind hv with rfl | rfl | rfl
  · obtain ⟨_, hb⟩ := tOk_sides (torus_v hv)
    have hsw : swI 1 l = prodI l := rfl
    rw [hsw] at h1 ⊢
    intro z hz
    have e : ∀ a, nbS 1 l a = nbL l a := fun a => by simp [nbS]
    rw [e] at hz ⊢
    refine ⟨nbL_in hb h0 h1 z hz, ?_⟩
    obtain ⟨d, hd, rfl⟩ := num_of hb h0 h1
    exact torus_sym hb hd z hz
  · obtain ⟨k, lv, hk, hlv, e0, e1, e2, e3⟩ := tree_nums hv
    have e : ∀ a, nbS 2 l a = nbT k lv a := fun a => by simp [nbS, -List.getD_eq_getElem?_getD, e0, e1]
    rw [e2] at h1 ⊢
    intro z hz
    rw [e] at hz ⊢
    obtain ⟨s1, l', wd', s2, _⟩ := tree_sym hk (InTr.of hk hlv h0 h1) z hz
    exact ⟨s2.rng hlv, s1⟩
  · obtain ⟨a, h, ha, hh, e0, e1, e2, e3⟩ := drag_nums hv
    have e : ∀ b, nbS 3 l b = nbD a h b := fun b => by simp [nbS, -List.getD_eq_getElem?_getD, e0, e1]
    rw [e2] at h1 ⊢
    intro z hz
    rw [e] at hz ⊢
    obtain ⟨s1, gr, pl, s2⟩ := drag_sym ha hh (InDr.of (by omega) h0 h1) z hz
    exact ⟨s2.rng, s1⟩
end Go.Proofs.YtbhkenphcahifaaGreat
namespace Go.Proofs.YtbhkenphcahifaaGreat
open Go.RowKit Go.Shelf
set_option maxRecDepth 100000
set_option maxHeartbeats 4000000
/-- two lists that rise and have the same elements are equal -/
theorem rise_eq : ∀ {a b : List Int}, a.Pairwise (· < ·) → b.Pairwise (· < ·) → (∀ x, x ∈ a ↔ x ∈ b) → a = b
  | [], [], _, _, _ => rfl
  | [], y :: b, _, _, h => by have := (h y).2 (by simp); simp at this
  | x :: a, [], _, _, h => by have := (h x).1 (by simp); simp at this
  | x :: a, y :: b, ha, hb, h => by
    obtain ⟨a1, a2⟩ := List.pairwise_cons.1 ha
    obtain ⟨b1, b2⟩ := List.pairwise_cons.1 hb
    have hxy : x = y := by
      rcases List.mem_cons.1 ((h x).1 (by simp)) with e | e
      · exact e
      · rcases List.mem_cons.1 ((h y).2 (by simp)) with e2 | e2
        · exact e2.symm
        · have := b1 x e; have := a1 y e2; omega
    subst hxy
    rw [rise_eq a2 b2 fun z => ?_]
    constructor
    · intro hz
      rcases List.mem_cons.1 ((h z).1 (by simp [hz])) with e | e
      · have := a1 z hz; omega
      · exact e
    · intro hz
      rcases List.mem_cons.1 ((h z).2 (by simp [hz])) with e | e
      · have := b1 z hz; omega
      · exact e
theorem rise_of {l : List Int} (h : l.Pairwise (· ≤ ·)) (hn : l.Nodup) : l.Pairwise (· < ·) := by
  induction l with
  | nil => exact List.Pairwise.nil
  | cons x l ih =>
    obtain ⟨a1, a2⟩ := List.pairwise_cons.1 h
    obtain ⟨b1, b2⟩ := List.nodup_cons.1 hn
    refine List.pairwise_cons.2 ⟨fun y hy => ?_, ih a2 b2⟩
    have := a1 y hy
    have : x ≠ y := fun e => b1 (e ▸ hy)
    omega
/-! the torus -/
theorem compact_sorted {l : List Int} (h : l.Pairwise (· ≤ ·)) : (Lib.compact l).Pairwise (· ≤ ·) := by
  unfold Lib.compact Lib.compactUpTo
  refine List.pairwise_map.2 ?_
  have hr : (List.range l.length).Pairwise (· < ·) := List.pairwise_lt_range
  refine (hr.filter _).imp_of_mem ?_
  intro a b ha hb hab
  have hal : a < l.length := List.mem_range.1 (List.mem_filter.1 ha).1
  have hbl : b < l.length := List.mem_range.1 (List.mem_filter.1 hb).1
  simp only [List.getElem!_toArray, getElem!_pos, hal, hbl]
  exact (List.pairwise_iff_getElem.1 h) a b hal hbl hab
theorem nbL_rise (l : List Int) (x : Int) : (nbL l x).Pairwise (· < ·) := rise_of (compact_sorted (sort_sorted _)) (nbL_nodup l x)
theorem torus_linked {l : List Int} (hb : ∀ i, i < l.length → 2 ≤ l.getD i 0 ∧ l.getD i 0 ≤ 16) {x y : Int} (hx : 0 ≤ x) (hx2 : x < prodI l) (hy : 0 ≤ y) (hy2 : y < prodI l) :
    (difK (coordsL l x) (coordsL l y) l.length = 1 ∧ neaK l (coordsL l x) (coordsL l y) l.length = true) ↔ y ∈ nbL l x := by
  obtain ⟨d, hd, rfl⟩ := num_of hb hx hx2
  obtain ⟨e, he, rfl⟩ := num_of hb hy hy2
  rw [coords_num hd, coords_num he, dif_one, mem_nbL hd]
  have hmod : ∀ i, i < l.length → ∀ s, s = 1 ∨ s = -1 → (d.getD i 0 + s) % l.getD i 0 = if s = 1 then (if d.getD i 0 + 1 = l.getD i 0 then 0 else d.getD i 0 + 1) else (if d.getD i 0 = 0 then l.getD i 0 - 1 else d.getD i 0 - 1) := fun i hi s hs => by
    obtain ⟨c0, c1⟩ := hd.2 i hi
    rcases hs with rfl | rfl
    · rw [if_pos rfl]; split
      · rename_i h; rw [h, Int.emod_self]
      · exact Int.emod_eq_of_lt (by omega) (by omega)
    · rw [if_neg (by decide)]; split
      · rename_i h; rw [h, ← Int.add_emod_right, Int.emod_eq_of_lt (by omega) (by omega)]; omega
      · rw [Int.emod_eq_of_lt (by omega) (by omega)]; omega
  constructor
  · rintro ⟨i, i1, i2, i3, i4⟩
    obtain ⟨c0, c1⟩ := hd.2 i i1
    obtain ⟨g0, g1⟩ := he.2 i i1
    have hm := (hb i i1).1
    have key : ∀ s, s = 1 ∨ s = -1 → e.getD i 0 = (d.getD i 0 + s) % l.getD i 0 → ∃ i s, i < l.length ∧ (s = 1 ∨ s = -1) ∧ numI l e = numI l (d.set i ((d.getD i 0 + s) % l.getD i 0)) := fun s hs hq => by
      refine ⟨i, s, i1, hs, ?_⟩
      congr 1
      refine list_eq (by rw [List.length_set, hd.1, he.1]) fun j hj => ?_
      by_cases hji : i = j
      · subst hji; rw [getD_set_same _ _ _ _ (by rw [hd.1]; exact i1)]; exact hq
      · rw [getD_set_other _ _ _ _ _ hji]; exact (i4 j (by rw [he.1] at hj; exact hj) (fun q => hji q.symm)).symm
    by_cases h1 : e.getD i 0 = (d.getD i 0 + 1) % l.getD i 0
    · exact key 1 (.inl rfl) h1
    · refine key (-1) (.inr rfl) ?_
      rw [hmod i i1 1 (.inl rfl), if_pos rfl] at h1
      rw [hmod i i1 (-1) (.inr rfl), if_neg (by decide)]
      split at h1 <;> split <;> omega
  · rintro ⟨i, s, hi, hs, hq⟩
    obtain ⟨c0, c1⟩ := hd.2 i hi
    obtain ⟨e1, e2⟩ := emod_in (a := d.getD i 0 + s) (hb i hi).1
    have hm := (hb i hi).1
    have hee : e = d.set i ((d.getD i 0 + s) % l.getD i 0) := by rw [← coords_num he, hq, coords_num (hd.set hi e1 e2)]
    have hei : e.getD i 0 = (d.getD i 0 + s) % l.getD i 0 := by rw [hee]; exact getD_set_same _ _ _ _ (by rw [hd.1]; exact hi)
    rw [hmod i hi s hs] at hei
    refine ⟨i, hi, ?_, ?_, fun j hj hji => by rw [hee, getD_set_other _ _ _ _ _ (fun q => hji q.symm)]⟩
    · rcases hs with rfl | rfl
      · rw [if_pos rfl] at hei; split at hei <;> omega
      · rw [if_neg (by decide)] at hei; split at hei <;> omega
    · rcases hs with rfl | rfl
      · rw [if_pos rfl] at hei; split at hei <;> omega
      · rw [if_neg (by decide)] at hei; split at hei <;> omega
end Go.Proofs.YtbhkenphcahifaaGreat
namespace Go.Proofs.YtbhkenphcahifaaGreat
open Go.RowKit Go.Shelf
set_option maxRecDepth 100000
set_option maxHeartbeats 4000000
theorem tree_lt {k lv : Nat} {x y : Int} {l m : Nat} {wd wd' : Int} (hx : InTr k lv x l wd) (hy : InTr k lv y m wd') (h : l < m) : x < y := by
  obtain ⟨rfl, h1, h2, h3⟩ := hx
  obtain ⟨rfl, g1, g2, g3⟩ := hy
  have e1 : ((l + 1 : Nat) : Int) * ((k ^ (lv - 1) : Nat) : Int) ≤ (m : Int) * ((k ^ (lv - 1) : Nat) : Int) := Int.mul_le_mul_of_nonneg_right (by omega) (by omega)
  rw [show ((l + 1 : Nat) : Int) = (l : Int) + 1 by omega, Int.add_mul, Int.one_mul] at e1
  omega
theorem tree_linked_lt {k lv : Nat} (hk : 1 ≤ k) {x y : Int} {l m : Nat} {wd wd' : Int} (hx : InTr k lv x l wd) (hy : InTr k lv y m wd') (hlt : x < y) : (m = l + 1 ∧ wthI k l wd 0 = wthI k l wd' 0) ↔ y ∈ nbT k lv x := by
  rw [hx.nb, mem_lvT]
  constructor
  · rintro ⟨rfl, hw⟩
    obtain ⟨d0, d1⟩ := dig_bound (k := k) (i := l) (x := wd') hk
    refine .inr ⟨by have := hy.2.1; omega, (digI k l wd').toNat, by omega, ?_⟩
    rw [Int.toNat_of_nonneg d0]
    have e1 : wthI k l wd (digI k l wd') = wd' := by
      rw [← wth_wth hk wd (d := 0) (by omega) (by omega), hw, wth_wth hk wd' (by omega) (by omega), wth_own]
    rw [e1]
    exact hy.1
  · rintro (⟨h0, d, hd, he⟩ | ⟨h0, d, hd, he⟩)
    · exfalso
      have g := InTr.with_ (lv := lv) (l' := l - 1) hk (show l - 1 < lv - 1 by have := hx.2.1; omega) (by have := hx.2.1; omega) hx.2.2.1 hx.2.2.2 (show (0 : Int) ≤ (d : Int) by omega) (by omega)
      rw [← he] at g
      have := tree_lt g hx (by omega)
      omega
    · have g := InTr.with_ (lv := lv) (l' := l + 1) hk (show l < lv - 1 by omega) (by omega) hx.2.2.1 hx.2.2.2 (show (0 : Int) ≤ (d : Int) by omega) (by omega)
      rw [← he] at g
      obtain ⟨e1, e2⟩ := hy.unique g
      exact ⟨e1, by rw [e2, wth_wth hk wd (by omega) (by omega)]⟩
theorem tree_linked {k lv : Nat} (hk : 1 ≤ k) (hlv : 1 ≤ lv) {x y : Int} (hx : 0 ≤ x) (hx2 : x < (lv : Int) * ((k ^ (lv - 1) : Nat) : Int)) (hy : 0 ≤ y) (hy2 : y < (lv : Int) * ((k ^ (lv - 1) : Nat) : Int)) (hne : x ≠ y) :
    (max x y / ((k ^ (lv - 1) : Nat) : Int) = min x y / ((k ^ (lv - 1) : Nat) : Int) + 1 ∧ wthI k (min x y / ((k ^ (lv - 1) : Nat) : Int)).toNat (min x y % ((k ^ (lv - 1) : Nat) : Int)) 0 = wthI k (min x y / ((k ^ (lv - 1) : Nat) : Int)).toNat (max x y % ((k ^ (lv - 1) : Nat) : Int)) 0) ↔ y ∈ nbT k lv x := by
  have tx := InTr.of hk hlv hx hx2
  have ty := InTr.of hk hlv hy hy2
  have px := tx.parts
  have py := ty.parts
  rcases Int.lt_or_gt_of_ne hne with h | h
  · rw [show max x y = y by omega, show min x y = x by omega, ← tree_linked_lt hk tx ty h]
    refine and_congr ?_ Iff.rfl
    omega
  · have hs : y ∈ nbT k lv x ↔ x ∈ nbT k lv y := ⟨fun q => (tree_sym hk tx y q).1, fun q => (tree_sym hk ty x q).1⟩
    rw [show max x y = x by omega, show min x y = y by omega, hs, ← tree_linked_lt hk ty tx h]
    refine and_congr ?_ Iff.rfl
    omega
theorem wth_rise {k i : Nat} (hk : 1 ≤ k) (w : Int) {d e : Nat} (h : d < e) : wthI k i w (d : Int) < wthI k i w (e : Int) := by
  unfold wthI
  have hP : (1 : Int) ≤ ((k ^ i : Nat) : Int) := by have := pow_pos' (i := i) hk; omega
  have := Int.mul_lt_mul_of_pos_right (show (d : Int) - digI k i w < (e : Int) - digI k i w by omega) (show (0 : Int) < ((k ^ i : Nat) : Int) by omega)
  omega
theorem nbT_rise {k lv : Nat} (hk : 1 ≤ k) {x : Int} {l : Nat} {wd : Int} (hx : InTr k lv x l wd) : (nbT k lv x).Pairwise (· < ·) := by
  rw [hx.nb]
  unfold lvT
  refine List.pairwise_append.2 ⟨?_, ?_, ?_⟩
  · split
    · unfold dnT
      refine List.pairwise_map.2 (List.pairwise_lt_range.imp fun h => ?_)
      have := wth_rise (i := l - 1) hk wd h
      omega
    · exact List.Pairwise.nil
  · split
    · unfold upT
      refine List.pairwise_map.2 (List.pairwise_lt_range.imp fun h => ?_)
      have := wth_rise (i := l) hk wd h
      omega
    · exact List.Pairwise.nil
  · intro a ha b hb
    have h1 := mem_lvT (k := k) (lv := lv) (ww := ((k ^ (lv - 1) : Nat) : Int)) (l := l) (wx := wd) (z := a)
    by_cases h0 : 0 < l
    · by_cases h2 : l < lv - 1
      · rw [if_pos h0] at ha
        rw [if_pos h2] at hb
        unfold dnT at ha
        unfold upT at hb
        obtain ⟨d, hd, rfl⟩ := List.mem_map.1 ha
        obtain ⟨e, he, rfl⟩ := List.mem_map.1 hb
        have hd2 := List.mem_range.1 hd
        have he2 := List.mem_range.1 he
        have g1 := InTr.with_ (lv := lv) (l' := l - 1) hk (show l - 1 < lv - 1 by omega) (by omega) hx.2.2.1 hx.2.2.2 (show (0 : Int) ≤ (d : Int) by omega) (by omega)
        have g2 := InTr.with_ (lv := lv) (l' := l + 1) hk (show l < lv - 1 by omega) (by omega) hx.2.2.1 hx.2.2.2 (show (0 : Int) ≤ (e : Int) by omega) (by omega)
        have := tree_lt g1 g2 (by omega)
        rw [show ((l + 1 : Nat) : Int) = (l : Int) + 1 by omega] at this
        exact this
      · rw [if_neg h2] at hb; simp at hb
    · rw [if_neg h0] at ha; simp at ha
/-! dragonflies -/
theorem port_to {g gr P : Int} (h0 : 0 ≤ gr) (h1 : gr < g) (p0 : 0 ≤ P) (p1 : P ≤ g - 2) : ((gr + P + 1) % g - gr - 1) % g = P := by
  have e : (gr + P + 1) % g = if gr + P + 1 < g then gr + P + 1 else gr + P + 1 - g := by
    split
    · exact Int.emod_eq_of_lt (by omega) (by omega)
    · rw [← Int.sub_emod_right]; exact Int.emod_eq_of_lt (by omega) (by omega)
  rw [e]
  split
  · rw [show gr + P + 1 - gr - 1 = P by omega, Int.emod_eq_of_lt p0 (by omega)]
  · rw [← Int.add_emod_right, show gr + P + 1 - g - gr - 1 + g = P by omega, Int.emod_eq_of_lt p0 (by omega)]
theorem drag_linked {a h : Nat} (ha : 1 ≤ a) (hh : 1 ≤ h) {x y : Int} (hx0 : 0 ≤ x) (hx1 : x < (a : Int) * ((a : Int) * h + 1)) (hy0 : 0 ≤ y) (hy1 : y < (a : Int) * ((a : Int) * h + 1)) (hne : x ≠ y) :
    (x / (a : Int) = y / (a : Int) ∨ (x / (a : Int) * a + ((y / (a : Int) - x / (a : Int) - 1 + ((a : Int) * h + 1)) % ((a : Int) * h + 1)) / h = x ∧ y / (a : Int) * a + ((a : Int) * h + 1 - 2 - (y / (a : Int) - x / (a : Int) - 1 + ((a : Int) * h + 1)) % ((a : Int) * h + 1)) / h = y)) ↔ y ∈ nbD a h x := by
  have hx := InDr.of (a := a) (g := (a : Int) * h + 1) (by omega) hx0 hx1
  have hy := InDr.of (a := a) (g := (a : Int) * h + 1) (by omega) hy0 hy1
  rw [Int.add_emod_right]
  generalize x / (a : Int) = gx at *
  generalize y / (a : Int) = gy at *
  generalize x % (a : Int) = px at *
  generalize y % (a : Int) = py at *
  obtain ⟨a0, a1, a2, a3⟩ := hx.2
  obtain ⟨b0, b1, b2, b3⟩ := hy.2
  rw [mem_nbD hx]
  by_cases hg : gx = gy
  · refine ⟨fun _ => .inl ⟨py, b2, b3, ?_, by rw [hg]; exact hy.1⟩, fun _ => .inl hg⟩
    rintro rfl
    exact hne (by rw [hx.1, hy.1, hg])
  · constructor
    · rintro (h1 | ⟨h1, h2⟩)
      · exact absurd h1 hg
      · right
        obtain ⟨po, hpo⟩ : ∃ po, po = (gy - gx - 1) % ((a : Int) * h + 1) := ⟨_, rfl⟩
        rw [← hpo] at h1 h2
        have h5 : po = if gx < gy then gy - gx - 1 else gy - gx - 1 + ((a : Int) * h + 1) := by
          rw [hpo]
          split
          · exact Int.emod_eq_of_lt (by omega) (by omega)
          · rw [← Int.add_emod_right]; exact Int.emod_eq_of_lt (by omega) (by omega)
        have hp0 : 0 ≤ po := by rw [h5]; split <;> omega
        have hp1 : po ≤ (a : Int) * h + 1 - 2 := by rw [h5]; split <;> omega
        have h6 : (gx + po + 1) % ((a : Int) * h + 1) = gy := by
          rw [h5]
          split
          · rw [show gx + (gy - gx - 1) + 1 = gy by omega]; exact Int.emod_eq_of_lt b0 b1
          · rw [show gx + (gy - gx - 1 + ((a : Int) * h + 1)) + 1 = gy + ((a : Int) * h + 1) by omega, Int.add_emod_right]; exact Int.emod_eq_of_lt b0 b1
        obtain ⟨q0, q1, q2, q3, q4⟩ := place_in (a := a) (h := h) (P := po) (by omega) hp0 hp1
        have hx2 : InDr a ((a : Int) * h + 1) x gx (po / h) := ⟨h1.symm, a0, a1, q0, q1⟩
        have e9 : po / (h : Int) = px := hx2.parts.2.symm.trans hx.parts.2
        refine ⟨po % h, q2, q3, ?_⟩
        rw [← e9, q4, h6]
        exact h2.symm
    · rintro (⟨i, i0, i1, i2, i3⟩ | ⟨p, p0, p1, he⟩)
      · exfalso
        have : InDr a ((a : Int) * h + 1) y gx i := ⟨i3, a0, a1, i0, i1⟩
        exact hg (this.parts.1.symm.trans hy.parts.1)
      · right
        obtain ⟨t0, t1, t2, t3⟩ := port_in (a := a) (show 1 ≤ (h : Int) by omega) a2 a3 p0 p1
        generalize hP : px * (h : Int) + p = P at *
        obtain ⟨f0, f1, _, f2, f3⟩ := port_far a0 a1 t0 t1
        obtain ⟨s0, s1, s2, s3, s4⟩ := place_in (a := a) (h := h) (P := (a : Int) * h + 1 - 2 - P) (by omega) (by omega) (by omega)
        have hy2 : InDr a ((a : Int) * h + 1) y ((gx + P + 1) % ((a : Int) * h + 1)) (((a : Int) * h + 1 - 2 - P) / h) := ⟨he, f0, f1, s0, s1⟩
        have hgy : gy = (gx + P + 1) % ((a : Int) * h + 1) := hy.parts.1.symm.trans hy2.parts.1
        have hm : (gy - gx - 1) % ((a : Int) * h + 1) = P := by rw [hgy]; exact port_to a0 a1 t0 t1
        rw [hm, t2]
        exact ⟨hx.1.symm, by rw [hgy]; exact he.symm⟩
theorem dgA_rise (a gr pl : Int) : ∀ m, (dgA a gr pl m).Pairwise (· < ·)
  | 0 => List.Pairwise.nil
  | m + 1 => by
    rw [dgA]
    refine List.pairwise_append.2 ⟨dgA_rise a gr pl m, by split <;> simp, fun u hu v hv => ?_⟩
    obtain ⟨i, hi, _, rfl⟩ := (mem_dgA m).1 hu
    split at hv
    · obtain rfl : v = gr * a + (m : Int) := by simpa using hv
      omega
    · simp at hv
theorem nbD_rise {a h : Nat} (hh : 1 ≤ h) {x gr pl : Int} (hx : InDr a ((a : Int) * h + 1) x gr pl) : (nbD a h x).Pairwise (· < ·) := by
  unfold nbD
  rw [hx.parts.1, hx.parts.2]
  obtain ⟨a0, a1, a2, a3⟩ := hx.2
  refine rise_of (sort_sorted _) ?_
  have hp : (sortL (dgA a gr pl a ++ dgB a h ((a : Int) * h + 1) gr pl h)).Perm (dgA a gr pl a ++ dgB a h ((a : Int) * h + 1) gr pl h) := by unfold sortL; exact List.mergeSort_perm _ _
  rw [hp.nodup_iff, List.nodup_append]
  have hfar : ∀ p : Nat, p < h → ∃ P, P = pl * (h : Int) + (p : Int) ∧ InDr a ((a : Int) * h + 1) ((gr + (pl * (h : Int) + (p : Int)) + 1) % ((a : Int) * h + 1) * a + ((a : Int) * h + 1 - 2 - (pl * (h : Int) + (p : Int))) / h) ((gr + P + 1) % ((a : Int) * h + 1)) (((a : Int) * h + 1 - 2 - P) / h) ∧ (gr + P + 1) % ((a : Int) * h + 1) ≠ gr ∧ ((gr + P + 1) % ((a : Int) * h + 1) - gr - 1) % ((a : Int) * h + 1) = P := fun p hp => by
    obtain ⟨t0, t1, t2, t3⟩ := port_in (a := a) (pl := pl) (p := (p : Int)) (show 1 ≤ (h : Int) by omega) a2 a3 (by omega) (by omega)
    refine ⟨_, rfl, ?_⟩
    generalize pl * (h : Int) + (p : Int) = P at *
    obtain ⟨f0, f1, f4, f2, f3⟩ := port_far a0 a1 t0 t1
    obtain ⟨s0, s1, s2, s3, s4⟩ := place_in (a := a) (h := h) (P := (a : Int) * h + 1 - 2 - P) (by omega) (by omega) (by omega)
    exact ⟨⟨rfl, f0, f1, s0, s1⟩, f4, port_to a0 a1 t0 t1⟩
  refine ⟨(dgA_rise a gr pl a).imp fun h => by omega, ?_, ?_⟩
  · unfold dgB
    refine List.pairwise_map.2 ((List.pairwise_lt_range (n := h)).imp_of_mem ?_)
    intro p q hp hq hpq he
    obtain ⟨P, rfl, i1, i2, i3⟩ := hfar p (List.mem_range.1 hp)
    obtain ⟨Q, rfl, j1, j2, j3⟩ := hfar q (List.mem_range.1 hq)
    rw [he] at i1
    have e1 := i1.parts.1.symm.trans j1.parts.1
    rw [e1, j3] at i3
    omega
  · intro u hu v hv he
    obtain ⟨i, hi, _, rfl⟩ := (mem_dgA a).1 hu
    unfold dgB at hv
    obtain ⟨p, hp, rfl⟩ := List.mem_map.1 hv
    obtain ⟨P, rfl, i1, i2, i3⟩ := hfar p (List.mem_range.1 hp)
    have hu2 : InDr a ((a : Int) * h + 1) (gr * a + (i : Int)) gr i := ⟨rfl, a0, a1, by omega, by omega⟩
    rw [he] at hu2
    exact i2 (i1.parts.1.symm.trans hu2.parts.1)
/-- the neighbors of a switch rise -/
theorem nbS_rise {kind : Int} {l : List Int} {hosts : Int} (hv : vOk kind l hosts) {x : Int} (h0 : 0 ≤ x) (h1 : x < swI kind l) : (nbS kind l x).Pairwise (· < ·) := by
  rcases v_kind hv with rfl | rfl | rfl
  · have e : nbS 1 l x = nbL l x := by simp [nbS]
    rw [e]; exact nbL_rise l x
  · obtain ⟨k, lv, hk, hlv, e0, e1, e2, e3⟩ := tree_nums hv
    have e : nbS 2 l x = nbT k lv x := by simp [nbS, -List.getD_eq_getElem?_getD, e0, e1]
    rw [e2] at h1
    rw [e]; exact nbT_rise hk (InTr.of hk hlv h0 h1)
  · obtain ⟨a, h, ha, hh, e0, e1, e2, e3⟩ := drag_nums hv
    have e : nbS 3 l x = nbD a h x := by simp [nbS, -List.getD_eq_getElem?_getD, e0, e1]
    rw [e2] at h1
    rw [e]; exact nbD_rise hh (InDr.of (by omega) h0 h1)
/-- the neighbors, chosen from all switches -/
theorem nbS_filter {kind : Int} {l : List Int} {hosts : Int} (hv : vOk kind l hosts) {x : Int} (h0 : 0 ≤ x) (h1 : x < swI kind l) : ((List.range (swI kind l).toNat).map (fun (y : Nat) => (y : Int))).filter (fun y => decide (y ∈ nbS kind l x)) = nbS kind l x := by
  refine rise_eq (List.Pairwise.filter _ (List.pairwise_map.2 (List.pairwise_lt_range.imp fun h => by omega))) (nbS_rise hv h0 h1) fun z => ?_
  rw [List.mem_filter, decide_eq_true_eq]
  refine ⟨fun h => h.2, fun h => ⟨?_, h⟩⟩
  obtain ⟨⟨z0, z1⟩, _⟩ := net_sym hv h0 h1 z h
  obtain ⟨zn, rfl⟩ := Int.eq_ofNat_of_zero_le z0
  exact List.mem_map.2 ⟨zn, List.mem_range.2 (by omega), rfl⟩
end Go.Proofs.YtbhkenphcahifaaGreat
namespace Go.Proofs.YtbhkenphcahifaaGreat
open Go.RowKit Go.Shelf
set_option maxRecDepth 100000
set_option maxHeartbeats 4000000
theorem difK_self (a : List Int) : ∀ k, difK a a k = 0
  | 0 => rfl
  | k + 1 => by rw [difK, if_pos rfl, difK_self a k]
theorem drag_self {a h : Nat} (hh : 1 ≤ h) {x gr pl : Int} (hx : InDr a ((a : Int) * h + 1) x gr pl) : x ∉ nbD a h x := by
  rw [mem_nbD hx]
  rintro (⟨i, h1, h2, h3, h4⟩ | ⟨p, p0, p1, hz⟩)
  · have := hx.1; omega
  · obtain ⟨a0, a1, a2, a3⟩ := hx.2
    have e1 : (pl + 1) * (h : Int) ≤ (a : Int) * h := Int.mul_le_mul_of_nonneg_right (by omega) (by omega)
    rw [Int.add_mul, Int.one_mul] at e1
    have e2 := Int.mul_nonneg a2 (show (0 : Int) ≤ h by omega)
    have g := port_to (g := (a : Int) * h + 1) (gr := gr) (P := pl * h + p) a0 a1 (by omega) (by omega)
    have hG : (0 : Int) < (a : Int) * h + 1 := by omega
    have m0 := Int.emod_nonneg (gr + (pl * h + p) + 1) (show (a : Int) * h + 1 ≠ 0 by omega)
    have m1 := Int.emod_lt_of_pos (gr + (pl * h + p) + 1) hG
    have q0 : 0 ≤ ((a : Int) * h + 1 - 2 - (pl * h + p)) / h := Int.ediv_nonneg (by omega) (by omega)
    have q1 : ((a : Int) * h + 1 - 2 - (pl * h + p)) / h < a := Int.ediv_lt_of_lt_mul (by omega) (by omega)
    have t : InDr a ((a : Int) * h + 1) x ((gr + (pl * h + p) + 1) % ((a : Int) * h + 1)) (((a : Int) * h + 1 - 2 - (pl * h + p)) / h) := ⟨hz, m0, m1, q0, q1⟩
    have e3 := t.parts.1.symm.trans hx.parts.1
    rw [e3, show gr - gr - 1 = -1 by omega] at g
    have e4 : (-1 : Int) % ((a : Int) * h + 1) = (a : Int) * h + 1 - 1 := by
      rw [← Int.add_emod_right]; exact Int.emod_eq_of_lt (by omega) (by omega)
    rw [e4] at g
    omega
theorem tree_self {k lv : Nat} (hk : 1 ≤ k) {x : Int} {l : Nat} {wd : Int} (hx : InTr k lv x l wd) : x ∉ nbT k lv x := by
  rw [hx.nb, mem_lvT]
  rintro (⟨h0, d, hd, he⟩ | ⟨h0, d, hd, he⟩)
  · have g := InTr.with_ (lv := lv) (l' := l - 1) hk (show l - 1 < lv - 1 by have := hx.2.1; omega) (by have := hx.2.1; omega) hx.2.2.1 hx.2.2.2 (show (0 : Int) ≤ (d : Int) by omega) (by omega)
    rw [← he] at g
    have := (hx.unique g).1
    omega
  · have g := InTr.with_ (lv := lv) (l' := l + 1) hk (show l < lv - 1 by omega) (by omega) hx.2.2.1 hx.2.2.2 (show (0 : Int) ≤ (d : Int) by omega) (by omega)
    rw [← he] at g
    have := (hx.unique g).1
    omega
theorem nbS_self {kind : Int} {l : List Int} {hosts : Int} (hv : vOk kind l hosts) {x : Int} (h0 : 0 ≤ x) (h1 : x < swI kind l) : x ∉ nbS kind l x := by
  rcases v_kind hv with rfl | rfl | rfl
  · have e : nbS 1 l x = nbL l x := by simp [nbS]
    obtain ⟨_, hb⟩ := tOk_sides (torus_v hv)
    rw [e, ← torus_linked hb h0 h1 h0 h1, difK_self]
    simp
  · obtain ⟨k, lv, hk, hlv, e0, e1, e2, e3⟩ := tree_nums hv
    have e : nbS 2 l x = nbT k lv x := by simp [nbS, -List.getD_eq_getElem?_getD, e0, e1]
    rw [e2] at h1
    rw [e]; exact tree_self hk (InTr.of hk hlv h0 h1)
  · obtain ⟨a, h, ha, hh, e0, e1, e2, e3⟩ := drag_nums hv
    have e : nbS 3 l x = nbD a h x := by simp [nbS, -List.getD_eq_getElem?_getD, e0, e1]
    rw [e2] at h1
    rw [e]; exact drag_self hh (InDr.of (by omega) h0 h1)
theorem tree_v {l : List Int} {hosts : Int} (hv : vOk 2 l hosts) : rOk l hosts := by
  rcases hv with ⟨h0, h1⟩ | ⟨h0, h1⟩ | ⟨h0, h1⟩
  · cases h0
  · exact h1
  · cases h0
theorem drag_v {l : List Int} {hosts : Int} (hv : vOk 3 l hosts) : dOk l hosts := by
  rcases hv with ⟨h0, h1⟩ | ⟨h0, h1⟩ | ⟨h0, h1⟩
  · cases h0
  · cases h0
  · exact h1
theorem coords_rng {l : List Int} (hb : ∀ i, i < l.length → 2 ≤ l.getD i 0 ∧ l.getD i 0 ≤ 16) {x : Int} (h0 : 0 ≤ x) (h1 : x < prodI l) : ∀ i, i < l.length → 0 ≤ (coordsL l x).getD i 0 ∧ (coordsL l x).getD i 0 ≤ 1000 := by
  obtain ⟨d, hd, rfl⟩ := num_of hb h0 h1
  rw [coords_num hd]
  intro i hi
  have h2 := hd.2 i hi
  have h3 := hb i hi
  omega
/-- are two switches linked: just when one is the other's neighbor -/
theorem rLinked_any {w : World} {sa : Option Addr} {l : List Int} (h : Ints w sa l) (sc : Nat) {kind hosts x y : Int} (hv : vOk kind l hosts) (hx : 0 ≤ x) (hx2 : x < swI kind l) (hy : 0 ≤ y) (hy2 : y < swI kind l) :
    Calls Tryz.prog 96 #[.agg #[.int .i64 kind, .slice sa l.length sc, .int .i64 hosts], .int .i64 x, .int .i64 y] w fun e w' => e = .returned (.bool (decide (y ∈ nbS kind l x))) ∧ Below w.heap.size w w' := by
  have hsw := sw_max hv
  by_cases hxy : x = y
  · subst hxy
    have e : decide (x ∈ nbS kind l x) = false := decide_eq_false (nbS_self hv hx hx2)
    rw [e]
    exact rLinked_same l.length sc kind hosts x
  · rcases v_kind hv with rfl | rfl | rfl
    · obtain ⟨⟨k1, k2⟩, hb⟩ := tOk_sides (torus_v hv)
      have e : nbS 1 l x = nbL l x := by simp [nbS]
      have hs : swI 1 l = prodI l := rfl
      rw [hs] at hx2 hy2
      have hp : ∀ s ∈ l, 1 ≤ s ∧ s ≤ 64 := fun s hs => by have := (torus_v hv).2.2.1 s hs; omega
      have hr := rLinked1_any h (by omega) hp sc hosts x y hx (by omega) hy (by omega) hxy (coords_rng hb hx hx2) (coords_rng hb hy hy2)
      have e2 : (difK (coordsL l x) (coordsL l y) l.length == 1 && neaK l (coordsL l x) (coordsL l y) l.length) = decide (y ∈ nbL l x) := by
        rw [Bool.eq_iff_iff, decide_eq_true_eq, ← torus_linked hb hx hx2 hy hy2]; simp
      rw [e, ← e2]
      exact hr
    · obtain ⟨k, lv, hk, hlv, e0, e1, e2, e3⟩ := tree_nums hv
      have e : nbS 2 l x = nbT k lv x := by simp [nbS, -List.getD_eq_getElem?_getD, e0, e1]
      obtain ⟨hl, hk8, hlv4, _⟩ := tree_v hv
      obtain ⟨ka, lb, rfl⟩ := two_of hl
      obtain rfl : ka = (k : Int) := e0
      obtain rfl : lb = (lv : Int) := e1
      obtain ⟨g, o, rfl, ht⟩ := h.two
      rw [e2] at hx2 hy2 hsw
      have hw1 : (1 : Int) ≤ ((k ^ (lv - 1) : Nat) : Int) := by have := pow_pos' (i := lv - 1) hk; omega
      have hww : wordsI [(k : Int), (lv : Int)] = ((k ^ (lv - 1) : Nat) : Int) := rfl
      have hmx : max x y / ((k ^ (lv - 1) : Nat) : Int) < lv := Int.ediv_lt_of_lt_mul (by omega) (by omega)
      have hmn : min x y / ((k ^ (lv - 1) : Nat) : Int) < lv := Int.ediv_lt_of_lt_mul (by omega) (by omega)
      have hk16 : k ≤ 16 := by have := hk8.2; simp at this; omega
      have hlv5 : lv ≤ 4 := by have := hlv4.2; simp at this; omega
      have hr := rLinked2_any k lv hk hk16 hlv (by omega) ht sc hosts x y hx (by omega) hy (by omega) hxy hww hw1 rfl rfl rfl rfl (by omega) (by omega)
      have e4 : (max x y / ((k ^ (lv - 1) : Nat) : Int) == min x y / ((k ^ (lv - 1) : Nat) : Int) + 1 && wthI k (min x y / ((k ^ (lv - 1) : Nat) : Int)).toNat (min x y % ((k ^ (lv - 1) : Nat) : Int)) 0 == wthI k (min x y / ((k ^ (lv - 1) : Nat) : Int)).toNat (max x y % ((k ^ (lv - 1) : Nat) : Int)) 0) = decide (y ∈ nbT k lv x) := by
        rw [Bool.eq_iff_iff, decide_eq_true_eq, ← tree_linked hk hlv hx hx2 hy hy2 hxy, Bool.and_eq_true, beq_iff_eq, beq_iff_eq]
      rw [e, ← e4]
      exact hr
    · obtain ⟨a, hh', ha, hh, e0, e1, e2, e3⟩ := drag_nums hv
      have e : nbS 3 l x = nbD a hh' x := by simp [nbS, -List.getD_eq_getElem?_getD, e0, e1]
      obtain ⟨hl, _, ha16, hh4, _⟩ := drag_v hv
      obtain ⟨ka, lb, rfl⟩ := two_of hl
      obtain rfl : ka = (a : Int) := e0
      obtain rfl : lb = (hh' : Int) := e1
      obtain ⟨g, o, rfl, ht⟩ := h.two
      rw [e2] at hx2 hy2 hsw
      have ha17 : (a : Int) ≤ 16 := by have := ha16.2; simp at this; omega
      have hh5 : (hh' : Int) ≤ 4 := by have := hh4.2; simp at this; omega
      have hr := rLinked3_any (a : Int) (hh' : Int) (by omega) ha17 (by omega) hh5 ht sc hosts x y hx hx2 hy hy2 hxy rfl rfl rfl rfl
      have e4 : (x / (a : Int) == y / (a : Int) || (x / (a : Int) * a + ((y / (a : Int) - x / (a : Int) - 1 + ((a : Int) * hh' + 1)) % ((a : Int) * hh' + 1)) / hh' == x && y / (a : Int) * a + ((a : Int) * hh' + 1 - 2 - (y / (a : Int) - x / (a : Int) - 1 + ((a : Int) * hh' + 1)) % ((a : Int) * hh' + 1)) / hh' == y)) = decide (y ∈ nbD a hh' x) := by
        rw [Bool.eq_iff_iff, decide_eq_true_eq, ← drag_linked ha hh hx hx2 hy hy2 hxy, Bool.or_eq_true, Bool.and_eq_true, beq_iff_eq, beq_iff_eq, beq_iff_eq]
      rw [e, ← e4]
      exact hr
end Go.Proofs.YtbhkenphcahifaaGreat
namespace Go.Proofs.YtbhkenphcahifaaGreat
open Go.RowKit Go.Shelf
attribute [local go_sem] Oper.semAt_some
set_option maxRecDepth 100000
set_option maxHeartbeats 4000000
/-- the neighbors below i -/
def fltS (kind : Int) (l : List Int) (x : Int) (i : Nat) : List Int := ((List.range i).map fun (y : Nat) => (y : Int)).filter fun y => decide (y ∈ nbS kind l x)
theorem flt_succ (kind : Int) (l : List Int) (x : Int) (i : Nat) : fltS kind l x (i + 1) = fltS kind l x i ++ (if decide ((i : Int) ∈ nbS kind l x) = true then [(i : Int)] else []) := by
  unfold fltS
  rw [List.range_succ, List.map_append, List.filter_append]
  congr 1
  simp only [List.map_cons, List.map_nil, List.filter_cons, List.filter_nil]
theorem flt_len (kind : Int) (l : List Int) (x : Int) (i : Nat) : (fltS kind l x i).length ≤ i := by
  unfold fltS
  refine Nat.le_trans (List.length_filter_le _ _) ?_
  simp
/-- the reference's neighbors -/
theorem rNeighbors_any {w : World} {sa : Option Addr} {l : List Int} (h : Ints w sa l) (sc : Nat) {kind hosts x : Int} (hv : vOk kind l hosts) (hx : 0 ≤ x) (hx2 : x < swI kind l) :
    Calls Tryz.prog 52 #[.agg #[.int .i64 kind, .slice sa l.length sc, .int .i64 hosts], .int .i64 x] w fun e w' => ∃ v, e = .returned v ∧ NewInts w.heap.size w' v (nbS kind l x) ∧ Below w.heap.size w w' := by
  have HB := Lib.hid ((Below.refl w.heap.size w).alloc (Nat.le_refl _) (.cells #[.int .i64 kind, .slice sa l.length sc, .int .i64 hosts] 34))
  have Q0 := Lib.hid (heap_alloc_new w (.cells #[.int .i64 kind, .slice sa l.length sc, .int .i64 hosts] 34))
  have hz : (w.alloc (.cells #[.int .i64 kind, .slice sa l.length sc, .int .i64 hosts] 34)).heap.size = w.heap.size + 1 := by simp
  obtain ⟨N, hN⟩ := Int.eq_ofNat_of_zero_le (show 0 ≤ swI kind l by have := v_bound hv; omega)
  have hsw := sw_max hv
  have HSW : Hid (∀ W, Below w.heap.size w W → Calls Tryz.prog 51 #[.agg #[.int .i64 kind, .slice sa l.length sc, .int .i64 hosts]] W fun e w' => e = .returned (.int .i64 (N : Int)) ∧ Below W.heap.size W w') := fun W hb => by
    have := rSwitches_any (h.keep hb) sc kind hosts hv
    rwa [hN] at this
  have HLK : Hid (∀ W, Below w.heap.size w W → ∀ i : Nat, i < N → Calls Tryz.prog 96 #[.agg #[.int .i64 kind, .slice sa l.length sc, .int .i64 hosts], .int .i64 x, .int .i64 (i : Int)] W fun e w' => e = .returned (.bool (decide ((i : Int) ∈ nbS kind l x))) ∧ Below W.heap.size W w') := fun W hb i hi => rLinked_any (h.keep hb) sc hv hx hx2 (by omega) (by omega)
  have HEND : Hid (fltS kind l x N = nbS kind l x) := by
    have := nbS_filter hv hx hx2
    rw [hN, Int.toNat_natCast] at this
    exact this
  have HN : Hid (N ≤ 256) := by show _ ≤ _; omega
  clear h hv hx hx2 hN hsw
  go_enter Tryz.func52, Tryz.ntmps52
  go_wp2_with fail
  have HS0 : Hid (NewInts (w.heap.size + 1) (w.alloc (.cells #[.int .i64 kind, .slice sa l.length sc, .int .i64 hosts] 34)) (.slice none 0 0) (fltS kind l x 0) ∧ Below w.heap.size w (w.alloc (.cells #[.int .i64 kind, .slice sa l.length sc, .int .i64 hosts] 34)) ∧ (w.alloc (.cells #[.int .i64 kind, .slice sa l.length sc, .int .i64 hosts] 34)).heap[w.heap.size]? = some (.cells #[.int .i64 kind, .slice sa l.length sc, .int .i64 hosts] 34 (0, 0)) ∧ w.heap.size < (w.alloc (.cells #[.int .i64 kind, .slice sa l.length sc, .int .i64 hosts] 34)).heap.size) :=
    ⟨⟨World.ownsRow_nil _ _ _ _, by simp [fltS]⟩, HB.out, Q0.out, by omega⟩
  clear HB Q0 hz
  generalize w.alloc (.cells #[.int .i64 kind, .slice sa l.length sc, .int .i64 hosts] 34) = X at *
  go_loopw [5, 6] (fun v iv wr => ∃ (i : Nat), i ≤ N ∧ iv = .int .i64 (i : Int) ∧ Hid (NewInts (w.heap.size + 1) wr v (fltS kind l x i) ∧ Below w.heap.size w wr ∧ wr.heap[w.heap.size]? = some (.cells #[.int .i64 kind, .slice sa l.length sc, .int .i64 hosts] 34 (0, 0)) ∧ w.heap.size < wr.heap.size)) (fun _ iv _ => N - (intOf iv).toNat)
  case atStart => exact ⟨0, Nat.zero_le _, rfl, HS0⟩
  case round =>
    clear HS0
    obtain ⟨i, hi, rfl, HI⟩ := hrel
    have c0 := cellR 0 HI.out.2.2.1 rfl
    have c1 := cellR 1 HI.out.2.2.1 rfl
    have c2 := cellR 2 HI.out.2.2.1 rfl
    go_wp2_with fail
    refine (HSW.out _ HI.out.2.1).mono ?_
    rintro e W2 ⟨rfl, hb⟩
    replace HI : Hid (NewInts (w.heap.size + 1) W2 u5 (fltS kind l x i) ∧ Below w.heap.size w W2 ∧ W2.heap[w.heap.size]? = some (.cells #[.int .i64 kind, .slice sa l.length sc, .int .i64 hosts] 34 (0, 0)) ∧ w.heap.size < W2.heap.size) := ⟨HI.out.1.keep2 hb, HI.out.2.1.trans (hb.mono HI.out.2.1.size), heapB hb HI.out.2.2.1, Nat.lt_of_lt_of_le HI.out.2.2.2 hb.size⟩
    clear hb c0 c1 c2
    have c0 := cellR 0 HI.out.2.2.1 rfl
    have c1 := cellR 1 HI.out.2.2.1 rfl
    have c2 := cellR 2 HI.out.2.2.1 rfl
    by_cases hlt : i < N
    · have d1 : decide ((i : Int) < (N : Int)) = true := decide_eq_true (by omega)
      have HWI := Lib.hid (wrap_small ((i : Int) + 1) (by omega) (by have := HN.out; omega))
      have HCS : Hid (((i : Int) + 1) = ((i + 1 : Nat) : Int)) := by show _ = _; rw [Int.natCast_add]; rfl
      have HME : Hid (N - (intOf (.int .i64 ((i : Int) + 1))).toNat < N - (intOf (.int .i64 (i : Int))).toNat) := by show _ < _; simp [intOf]; omega
      have HMO : Hid (N - (intOf (.int .i64 (wrap64 ((i : Int) + 1)))).toNat < N - (intOf (.int .i64 (i : Int))).toNat) := by show _ < _; rw [HWI.out]; exact HME.out
      have HK1 : Hid (i + 1 ≤ N) := hlt
      go_wp2_with fail
      refine (HLK.out _ HI.out.2.1 i hlt).mono ?_
      rintro e W3 ⟨rfl, hb⟩
      replace HI : Hid (NewInts (w.heap.size + 1) W3 u5 (fltS kind l x i) ∧ Below w.heap.size w W3 ∧ W3.heap[w.heap.size]? = some (.cells #[.int .i64 kind, .slice sa l.length sc, .int .i64 hosts] 34 (0, 0)) ∧ w.heap.size < W3.heap.size) := ⟨HI.out.1.keep2 hb, HI.out.2.1.trans (hb.mono HI.out.2.1.size), heapB hb HI.out.2.2.1, Nat.lt_of_lt_of_le HI.out.2.2.2 hb.size⟩
      clear hb c0 c1 c2
      by_cases hm : decide ((i : Int) ∈ nbS kind l x) = true
      · obtain ⟨v', w2, hr, hn2, hb2⟩ := appOne HI.out.1 (i : Int) (by have := flt_len kind l x i; have := HN.out; omega) HI.out.2.2.2
        have HI2 : Hid (NewInts (w.heap.size + 1) w2 v' (fltS kind l x (i + 1)) ∧ Below w.heap.size w w2 ∧ w2.heap[w.heap.size]? = some (.cells #[.int .i64 kind, .slice sa l.length sc, .int .i64 hosts] 34 (0, 0)) ∧ w.heap.size < w2.heap.size) := by
          refine ⟨?_, HI.out.2.1.trans (hb2.mono (by omega)), (hb2.block _ (by omega)).trans HI.out.2.2.1, Nat.lt_of_lt_of_le HI.out.2.2.2 hb2.size⟩
          rw [flt_succ, if_pos hm]; exact hn2
        have HR := Lib.hid hr
        clear hr hn2 hb2
        go_wp2_with (at_builtin; refine Lib.wpList_append_run _ rfl (.tmp 17) (.tmp 19) 22 22 rfl _ _ rfl rfl _ _ HR.out ?_)
        go_roundw
        case rel => exact ⟨i + 1, HK1.out, by first | rw [HWI.out, HCS.out] | rw [HCS.out], HI2⟩
        case measure => first | exact HMO.out | exact HME.out
      · have hm2 : decide ((i : Int) ∈ nbS kind l x) = false := by simpa using hm
        have HI2 : Hid (NewInts (w.heap.size + 1) W3 u5 (fltS kind l x (i + 1)) ∧ Below w.heap.size w W3 ∧ W3.heap[w.heap.size]? = some (.cells #[.int .i64 kind, .slice sa l.length sc, .int .i64 hosts] 34 (0, 0)) ∧ w.heap.size < W3.heap.size) := by
          rw [flt_succ, if_neg hm, List.append_nil]; exact HI
        clear hm
        go_wp2_with fail
        go_roundw
        case rel => exact ⟨i + 1, HK1.out, by first | rw [HWI.out, HCS.out] | rw [HCS.out], HI2⟩
        case measure => first | exact HMO.out | exact HME.out
    · have hin : i = N := by omega
      have d1 : decide ((i : Int) < (N : Int)) = false := decide_eq_false (by omega)
      have HF : Hid (NewInts w.heap.size W2 u5 (nbS kind l x) ∧ Below w.heap.size w W2) := ⟨by
        have := HI.out.1
        rw [hin, HEND.out] at this
        exact ⟨ownsRow_low this.own (by omega), this.len⟩, HI.out.2.1⟩
      go_wp2_with fail
      go_ret
      exact ⟨_, rfl, HF.out.1, HF.out.2⟩
end Go.Proofs.YtbhkenphcahifaaGreat
namespace Go.Proofs.YtbhkenphcahifaaGreat
open Go.RowKit Go.Shelf
attribute [local go_sem] Oper.semAt_some
set_option maxRecDepth 100000
set_option maxHeartbeats 4000000
/-- a list that is new -/
structure Fresh (B : Nat) (a : Option Addr) : Prop where
  ge : ∀ b, a.map (·.block) = some b → B ≤ b
theorem NewInts.fresh {B : Nat} {w : World} {v : Value} {l : List Int} (h : NewInts B w v l) : ∃ a cap, v = .slice a l.length cap ∧ Ints w a l ∧ Fresh B a := by
  obtain ⟨a, cap, rfl, hi⟩ := h.ints
  refine ⟨a, cap, rfl, hi, ⟨fun b hb => ?_⟩⟩
  cases a with
  | none => cases hb
  | some ad =>
    have := h.own.lt ad.block rfl
    have e : ad.block = b := by simpa using hb
    omega
end Go.Proofs.YtbhkenphcahifaaGreat
namespace Go.Proofs.YtbhkenphcahifaaGreat
open Go.RowKit Go.Shelf
attribute [local go_sem] Oper.semAt_some
set_option maxRecDepth 100000
set_option maxHeartbeats 4000000
theorem Ints.move {w w' : World} {a : Option Addr} {l : List Int} (h : Ints w a l) (hb : ∀ b, a.map (·.block) = some b → b < w.heap.size → w'.heap[b]? = w.heap[b]?) : Ints w' a l :=
  ⟨h.len, fun hl => by
    obtain ⟨b, off, ha, hc⟩ := h.at_ hl
    refine ⟨b, off, ha, fun j hj => ?_⟩
    have hlt : b < w.heap.size := block_lt_of_cell (hc j hj)
    exact (World.cell?_of_block (a := ⟨b, off + j, none⟩) (hb b (by rw [ha]; rfl) hlt)).trans (hc j hj)⟩
end Go.Proofs.YtbhkenphcahifaaGreat
namespace Go.Proofs.YtbhkenphcahifaaGreat
open Go.RowKit Go.Shelf
attribute [local go_sem] Oper.semAt_some
set_option maxRecDepth 100000
set_option maxHeartbeats 4000000
theorem few_any {w : World} {sa : Option Addr} {l : List Int} (h : Ints w sa l) (sc : Nat) (kind hosts n : Int) :
    Calls Tryz.prog 8 #[.agg #[.int .i64 kind, .slice sa l.length sc, .int .i64 hosts], .int .i64 n] w fun e w' => ∃ b, e = .returned (.bool b) ∧ Below w.heap.size w w' := by
  have HB := Lib.hid ((Below.refl w.heap.size w).alloc (Nat.le_refl _) (.cells #[.int .i64 kind, .slice sa l.length sc, .int .i64 hosts] 24))
  have Q0 := Lib.hid (heap_alloc_new w (.cells #[.int .i64 kind, .slice sa l.length sc, .int .i64 hosts] 24))
  have c0 := cellR 0 Q0.out rfl
  have c1 := cellR 1 Q0.out rfl
  have c2 := cellR 2 Q0.out rfl
  have HSP := Lib.hid (fun W => spec_any sa l.length sc kind hosts W)
  have HSZ : Hid (∀ W, Below w.heap.size w W → Calls Tryz.prog 40 #[.agg #[.int .i64 kind, .slice sa l.length sc, .int .i64 hosts]] W fun e w' => e = .returned (.tuple #[.int .i64 (szI kind l hosts), .int .i64 (hsI kind l hosts), .int .i64 (errI kind l hosts)]) ∧ Below W.heap.size W w') := fun W hb => rSize_any (h.keep hb) sc kind hosts
  generalize szI kind l hosts = S1 at *
  generalize hsI kind l hosts = S2 at *
  generalize errI kind l hosts = S3 at *
  clear h
  generalize l.length = M at *
  go_enter Tryz.func8, Tryz.ntmps8
  go_wp2_with fail
  generalize w.alloc (.cells #[.int .i64 kind, .slice sa M sc, .int .i64 hosts] 24) = X at *
  refine (HSP.out _).mono ?_
  rintro e w1 ⟨rfl, hb1⟩
  replace Q0 := Lib.hid (heapB hb1 Q0.out)
  replace HB := Lib.hid (HB.out.trans (hb1.mono HB.out.size))
  clear hb1 c0 c1 c2
  have c0 := cellR 0 Q0.out rfl
  have c1 := cellR 1 Q0.out rfl
  have c2 := cellR 2 Q0.out rfl
  go_wp2_with fail
  refine (HSZ.out _ HB.out).mono ?_
  rintro e w2 ⟨rfl, hb2⟩
  replace Q0 := Lib.hid (heapB hb2 Q0.out)
  replace HB := Lib.hid (HB.out.trans (hb2.mono HB.out.size))
  clear hb2 c0 c1 c2
  have c0 := cellR 0 Q0.out rfl
  have c1 := cellR 1 Q0.out rfl
  have c2 := cellR 2 Q0.out rfl
  by_cases h1 : decide ((M : Int) ≤ 10) = true
  · by_cases h2 : (S3 != 0) = true
    · go_wp2_with fail
      go_ret
      exact ⟨_, rfl, HB.out⟩
    · have h3 : (S3 != 0) = false := by simpa using h2
      clear h2
      go_wp2_with fail
      go_ret
      exact ⟨_, rfl, HB.out⟩
  · have h3 : decide ((M : Int) ≤ 10) = false := by simpa using h1
    clear h1
    go_wp2_with fail
    go_ret
    exact ⟨_, rfl, HB.out⟩
end Go.Proofs.YtbhkenphcahifaaGreat
namespace Go.Proofs.YtbhkenphcahifaaGreat
open Go.RowKit Go.Shelf
attribute [local go_sem] Oper.semAt_some
set_option maxRecDepth 100000
set_option maxHeartbeats 4000000
/-- a row of pairs of one's own -/
def pairsV (L : List (Int × Int)) : List Value := L.flatMap fun p => [.int .i64 p.1, .int .i64 p.2]
structure NewPairs (e : TypeId) (B : Nat) (w : World) (v : Value) (L : List (Int × Int)) : Prop where
  own : w.ownsRow B e 2 v L.length (pairsV L)
theorem NewPairs.keep2 {e : TypeId} {w w' : World} {lo : Nat} {v : Value} {L : List (Int × Int)} (h : NewPairs e lo w v L) (hb : Below w.heap.size w w') : NewPairs e lo w' v L := ⟨ownsRow_bl h.own hb⟩
/-- one more pair in a row of one's own -/
theorem appPair {t e : TypeId} (ht : Tryz.prog.underlying t = some (.slice e)) (hie : (Tryz.prog.info? e).map (fun i => (i.zero, i.size, i.bytes)) = some (some (.agg #[.int .i64 0, .int .i64 0]), 2, 16))
    {w : World} {lo : Nat} {v : Value} {R : List (Int × Int)} (h : NewPairs e lo w v R) (p : Int × Int) (hl : R.length ≤ 1000000) (hs : lo ≤ w.heap.size) :
    ∃ g cap w2, (Builtin.append_ #[t, t] t #[v, .slice (some ⟨w.heap.size, 0, none⟩) 1 1]).run Tryz.prog (w.alloc (.cells #[.int .i64 p.1, .int .i64 p.2] e)) = .ok (.slice (some ⟨g, 0, none⟩) (R.length + 1) cap) w2 ∧
      NewPairs e lo w2 (.slice (some ⟨g, 0, none⟩) (R.length + 1) cap) (R ++ [p]) ∧ (w.alloc (.cells #[.int .i64 p.1, .int .i64 p.2] e)).grownBy w2 v.ownBlock ∧ (v.ownBlock = some g ∨ w.heap.size < g) ∧ w.heap.size + 1 ≤ w2.heap.size := by
  obtain ⟨i0, hi, hz0, hz1, hz2⟩ := info_parts hie
  obtain ⟨g, cap, w2, hr, hown, hgrow, hat, hlt⟩ := run_append_lies (P := Tryz.prog) (w.alloc (.cells #[.int .i64 p.1, .int .i64 p.2] e)) t t lo e i0 (.agg #[.int .i64 0, .int .i64 0]) 2 16 ht hi hz0 hz1 hz2 (by simp [Value.cells, go_sem]) (by decide) v R.length (pairsV R) (h.own.alloc _) ⟨w.heap.size, 0, none⟩ 1 1 [.int .i64 p.1, .int .i64 p.2] (by simp)
    (World.news_of_block (cs := #[.int .i64 p.1, .int .i64 p.2]) (heap_alloc_new w (.cells #[.int .i64 p.1, .int .i64 p.2] e))) (by intro u hu; simp at hu; rcases hu with rfl | rfl <;> rfl) (by decide) (by unfold maxLen; omega) (by omega) (by simp; omega) _ rfl
  have hsz := hgrow.size
  simp at hsz
  refine ⟨g, cap, w2, hr, ⟨?_⟩, hgrow, ?_, hsz⟩
  · have e1 : pairsV (R ++ [p]) = pairsV R ++ [.int .i64 p.1, .int .i64 p.2] := by unfold pairsV; simp [List.flatMap_append]
    rw [e1]; simpa using hown
  · rcases hat with e | e
    · exact .inl e
    · simp at e; exact .inr (by omega)
theorem infoP37 : (Tryz.prog.info? 37).map (fun i => (i.zero, i.size, i.bytes)) = some (some (.agg #[.int .i64 0, .int .i64 0]), 2, 16) := by kernel_rfl
/-- the reference's links: the row, what is older, the box -/
structure LS (w : World) (ROW : Array Value) (L : List (Int × Int)) (v : Value) (wr : World) : Prop where
  que : NewPairs 37 (w.heap.size + 1) wr v L
  bel : Below w.heap.size w wr
  box : wr.heap[w.heap.size]? = some (.cells ROW 34 (0, 0))
  lt : w.heap.size < wr.heap.size
theorem LS.later {w wr w' : World} {ROW : Array Value} {L : List (Int × Int)} {v : Value} (h : LS w ROW L v wr) (hb : Below wr.heap.size wr w') : LS w ROW L v w' :=
  ⟨h.que.keep2 hb, h.bel.trans (hb.mono h.bel.size), heapB hb h.box, Nat.lt_of_lt_of_le h.lt hb.size⟩
theorem LS.push {w wr : World} {ROW : Array Value} {L : List (Int × Int)} {v : Value} (h : LS w ROW L v wr) (p : Int × Int) (hl : L.length ≤ 1000000) :
    ∃ v' w2, (Builtin.append_ #[31, 31] 31 #[v, .slice (some ⟨wr.heap.size, 0, none⟩) 1 1]).run Tryz.prog (wr.alloc (.cells #[.int .i64 p.1, .int .i64 p.2] 37)) = .ok v' w2 ∧ LS w ROW (L ++ [p]) v' w2 ∧ (∀ b, b < wr.heap.size → v.ownBlock ≠ some b → w2.heap[b]? = wr.heap[b]? ∧ v'.ownBlock ≠ some b) ∧ wr.heap.size ≤ w2.heap.size := by
  have hlt := h.lt
  obtain ⟨b, cap, w2, hr, hn, hg, hat, hz⟩ := appPair Tryz.underlying31 infoP37 h.que p hl (by omega)
  have hal : Below wr.heap.size wr (wr.alloc (.cells #[.int .i64 p.1, .int .i64 p.2] 37)) := (Below.refl _ _).alloc (Nat.le_refl _) _
  have hne : ∀ k, k < wr.heap.size → v.ownBlock ≠ some k → w2.heap[k]? = wr.heap[k]? := fun k hk hv => (hg.block k (by simp; omega) (fun e => hv e.symm)).trans (hal.block k hk)
  have hge : ∀ k, v.ownBlock = some k → w.heap.size + 1 ≤ k := fun k hk => (h.que.own.lt k hk).1
  have hbel : Below (w.heap.size + 1) wr w2 := ⟨hg.os.trans hal.os, hg.tape.trans hal.tape, hg.output.trans hal.output, by have := hal.size; omega, fun k hk => hne k (by omega) (fun e => by have := hge k e; omega)⟩
  refine ⟨_, w2, hr, ⟨hn, h.bel.trans (hbel.mono (by omega)), (hbel.block _ (by omega)).trans h.box, by omega⟩, fun k hk hv => ⟨hne k hk hv, ?_⟩, by omega⟩
  rintro hk2
  obtain rfl : b = k := by simpa [Value.ownBlock] using hk2
  rcases hat with e | e
  · exact hv e
  · omega
theorem selL_len (x : Int) (K : List Int) : (selL x K).length ≤ K.length := by
  unfold selL
  rw [List.length_map]
  exact List.length_filter_le _ _
theorem lkL_len {NB : Int → List Int} {N : Nat} (h : ∀ x : Nat, x < N → (NB (x : Int)).length ≤ N) : ∀ i, i ≤ N → (lkL NB i).length ≤ i * N
  | 0, _ => by simp [lkL]
  | i + 1, hi => by
    have h1 := lkL_len h i (by omega)
    have h2 := selL_len (i : Int) (NB (i : Int))
    have h3 := h i (by omega)
    rw [lkL, List.length_append, Nat.add_mul, Nat.one_mul]
    omega
theorem nbS_few {kind : Int} {l : List Int} {hosts : Int} (hv : vOk kind l hosts) {N : Nat} (hN : swI kind l = (N : Int)) {x : Int} (h0 : 0 ≤ x) (h1 : x < (N : Int)) : (nbS kind l x).length ≤ N := by
  have := flt_len kind l x N
  have h2 := nbS_filter hv h0 (by rw [hN]; exact h1)
  rw [hN, Int.toNat_natCast] at h2
  unfold fltS at this
  rwa [h2] at this
theorem rLinks_bad {w : World} {sa : Option Addr} {l : List Int} (h : Ints w sa l) (sc : Nat) (kind hosts : Int) (hE : errI kind l hosts ≠ 0) :
    Calls Tryz.prog 11 #[.agg #[.int .i64 kind, .slice sa l.length sc, .int .i64 hosts]] w fun e w' => e = .returned (.tuple #[.slice none 0 0, .int .i64 (errI kind l hosts)]) ∧ Below w.heap.size w w' := by
  have HB := Lib.hid ((Below.refl w.heap.size w).alloc (Nat.le_refl _) (.cells #[.int .i64 kind, .slice sa l.length sc, .int .i64 hosts] 34))
  have c0 := cellR 0 (heap_alloc_new w (.cells #[.int .i64 kind, .slice sa l.length sc, .int .i64 hosts] 34)) rfl
  have c1 := cellR 1 (heap_alloc_new w (.cells #[.int .i64 kind, .slice sa l.length sc, .int .i64 hosts] 34)) rfl
  have c2 := cellR 2 (heap_alloc_new w (.cells #[.int .i64 kind, .slice sa l.length sc, .int .i64 hosts] 34)) rfl
  have H1 := Lib.hid (rCheck_any (h.keep HB.out) sc kind hosts)
  have hne : (errI kind l hosts != 0) = true := bne_iff_ne.2 hE
  generalize errI kind l hosts = E at *
  clear h hE
  go_enter Tryz.func11, Tryz.ntmps11
  go_wp2_with fail
  generalize w.alloc (.cells #[.int .i64 kind, .slice sa l.length sc, .int .i64 hosts] 34) = X at *
  refine H1.out.mono ?_
  rintro e w1 ⟨rfl, hb1⟩
  have HB1 := Lib.hid (HB.out.trans (hb1.mono HB.out.size))
  clear H1 hb1 HB c0 c1 c2
  go_wp2_with fail
  go_ret2
  exact ⟨rfl, HB1.out⟩
theorem rLinks_ok {w : World} {sa : Option Addr} {l : List Int} (h : Ints w sa l) (sc : Nat) (kind hosts : Int) {N : Nat} (hv : vOk kind l hosts) (hN : swI kind l = (N : Int)) :
    Calls Tryz.prog 11 #[.agg #[.int .i64 kind, .slice sa l.length sc, .int .i64 hosts]] w fun e w' => ∃ v, e = .returned (.tuple #[v, .int .i64 0]) ∧ NewPairs 37 w.heap.size w' v (lkL (nbS kind l) N) ∧ Below w.heap.size w w' := by
  have HB := Lib.hid ((Below.refl w.heap.size w).alloc (Nat.le_refl _) (.cells #[.int .i64 kind, .slice sa l.length sc, .int .i64 hosts] 34))
  have Q0 := Lib.hid (heap_alloc_new w (.cells #[.int .i64 kind, .slice sa l.length sc, .int .i64 hosts] 34))
  have c0 := cellR 0 Q0.out rfl
  have c1 := cellR 1 Q0.out rfl
  have c2 := cellR 2 Q0.out rfl
  have H1 := Lib.hid (rCheck_any (h.keep HB.out) sc kind hosts)
  rw [show errI kind l hosts = 0 from if_pos hv] at H1
  have HSW : Hid (∀ W, Below w.heap.size w W → Calls Tryz.prog 51 #[.agg #[.int .i64 kind, .slice sa l.length sc, .int .i64 hosts]] W fun e w' => e = .returned (.int .i64 (N : Int)) ∧ Below W.heap.size W w') := fun W hb => by
    have := rSwitches_any (h.keep hb) sc kind hosts hv
    rwa [hN] at this
  have HNB : Hid (∀ W, Below w.heap.size w W → ∀ x : Nat, x < N → Calls Tryz.prog 52 #[.agg #[.int .i64 kind, .slice sa l.length sc, .int .i64 hosts], .int .i64 (x : Int)] W fun e w' => ∃ v, e = .returned v ∧ NewInts W.heap.size w' v (nbS kind l (x : Int)) ∧ Below W.heap.size W w') := fun W hb x hx => rNeighbors_any (h.keep hb) sc hv (by omega) (by rw [hN]; omega)
  have HLN : Hid (∀ x : Nat, x < N → (nbS kind l (x : Int)).length ≤ N) := fun x hx => nbS_few hv hN (by omega) (by omega)
  have HNN : Hid (N ≤ 256) := by have := sw_max hv; show _ ≤ _; omega
  have HIN : Hid (∀ x : Nat, x < N → ∀ z ∈ nbS kind l (x : Int), 0 ≤ z ∧ z < (N : Int)) := fun x hx z hz => by
    have := (net_sym hv (x := (x : Int)) (by omega) (by rw [hN]; omega) z hz).1
    rw [hN] at this; exact this
  clear h hv hN
  generalize nbS kind l = NB at *
  generalize l.length = M at *
  go_enter Tryz.func11, Tryz.ntmps11
  go_wp2_with fail
  generalize w.alloc (.cells #[.int .i64 kind, .slice sa M sc, .int .i64 hosts] 34) = X at *
  refine H1.out.mono ?_
  rintro e w1 ⟨rfl, hb1⟩
  replace Q0 := Lib.hid (heapB hb1 Q0.out)
  have HB1 := Lib.hid (HB.out.trans (hb1.mono HB.out.size))
  clear H1 hb1 HB c0 c1 c2
  have HS0 : Hid (LS w #[.int .i64 kind, .slice sa M sc, .int .i64 hosts] (lkL NB 0) (.slice none 0 0) w1) := ⟨⟨World.ownsRow_nil _ _ _ _⟩, HB1.out, Q0.out, (Array.getElem?_eq_some_iff.1 Q0.out).1⟩
  clear Q0 HB1
  go_wp2_with fail
  go_loopw [5, 6] (fun v iv wr => ∃ (i : Nat), i ≤ N ∧ iv = .int .i64 (i : Int) ∧ Hid (LS w #[.int .i64 kind, .slice sa M sc, .int .i64 hosts] (lkL NB i) v wr)) (fun _ iv _ => N - (intOf iv).toNat)
  case atStart => exact ⟨0, Nat.zero_le _, rfl, HS0⟩
  case round =>
    clear HS0
    obtain ⟨i, hi, rfl, HI⟩ := hrel
    have c0 := cellR 0 HI.out.box rfl
    have c1 := cellR 1 HI.out.box rfl
    have c2 := cellR 2 HI.out.box rfl
    go_wp2_with fail
    refine (HSW.out _ HI.out.bel).mono ?_
    rintro e w2 ⟨rfl, hb⟩
    replace HI := Lib.hid (HI.out.later hb)
    clear hb c0 c1 c2
    have c0 := cellR 0 HI.out.box rfl
    have c1 := cellR 1 HI.out.box rfl
    have c2 := cellR 2 HI.out.box rfl
    by_cases hlt : i < N
    · have d1 : decide ((i : Int) < (N : Int)) = true := decide_eq_true (by omega)
      go_wp2_with fail
      refine (HNB.out _ HI.out.bel i hlt).mono ?_
      rintro e w3 ⟨nv, rfl, hn, hb⟩
      obtain ⟨an, cn, rfl, hin, hfr⟩ := hn.fresh
      have hkl := HLN.out i hlt
      have hn6 := HNN.out
      obtain ⟨K, hK⟩ : ∃ K, K = NB (i : Int) := ⟨_, rfl⟩
      rw [← hK] at hin hkl ⊢
      have HKE := Lib.hid hK
      have HKN : Hid (∀ z ∈ K, 0 ≤ z ∧ z < (N : Int)) := fun z hz => HIN.out i hlt z (by rw [← hK]; exact hz)
      have HLI : Hid ((lkL NB i).length ≤ 65536) := by
        have h1 := lkL_len HLN.out i hi
        have h2 := Nat.mul_le_mul (show i ≤ 256 by omega) (show N ≤ 256 by omega)
        show _ ≤ _; omega
      have HI0 : Hid (LS w #[.int .i64 kind, .slice sa M sc, .int .i64 hosts] (lkL NB i ++ selL (i : Int) (K.take 0)) u5 w3 ∧ Ints w3 an K ∧ ∀ b, an.map (·.block) = some b → u5.ownBlock ≠ some b) := by
        refine ⟨by simpa [selL] using HI.out.later hb, hin, fun b hb2 e => ?_⟩
        have h2 := hfr.ge b hb2
        have h4 := HI.out.que.own.lt b e
        omega
      have HWI0 := Lib.hid (wrap_small ((i : Int) + 1) (by omega) (by omega))
      have HCS0 : Hid (((i : Int) + 1) = ((i + 1 : Nat) : Int)) := by show _ = _; rw [Int.natCast_add]; rfl
      have HME0 : Hid (N - (intOf (.int .i64 ((i : Int) + 1))).toNat < N - (intOf (.int .i64 (i : Int))).toNat) := by show _ < _; simp [intOf]; omega
      have HMO0 : Hid (N - (intOf (.int .i64 (wrap64 ((i : Int) + 1)))).toNat < N - (intOf (.int .i64 (i : Int))).toNat) := by show _ < _; rw [HWI0.out]; exact HME0.out
      clear hn hb hin hfr hK HI c0 c1 c2
      go_wp2_with fail
      go_loopw [5, 8] (fun v jv wr => ∃ (j : Nat), j ≤ K.length ∧ jv = .int .i64 (j : Int) ∧ Hid (LS w #[.int .i64 kind, .slice sa M sc, .int .i64 hosts] (lkL NB i ++ selL (i : Int) (K.take j)) v wr ∧ Ints wr an K ∧ ∀ b, an.map (·.block) = some b → v.ownBlock ≠ some b)) (fun _ jv _ => K.length - (intOf jv).toNat)
      case atStart => exact ⟨0, Nat.zero_le _, rfl, HI0⟩
      case round =>
        clear HI0
        obtain ⟨j, hj, rfl, HJ⟩ := hrel
        by_cases hjl : j < K.length
        · obtain ⟨gn, on, rfl, hcn⟩ := HJ.out.2.1.at_ (ne_nil_of_lt hjl)
          have czn := hcn j hjl
          have hzK := HKN.out K[j] (List.getElem_mem hjl)
          obtain ⟨zi, hzi⟩ : ∃ zi, zi = K[j] := ⟨_, rfl⟩
          rw [← hzi] at hzK czn
          obtain ⟨hz0, hz1⟩ := hzK
          have HTK : Hid (selL (i : Int) (K.take (j + 1)) = selL (i : Int) (K.take j) ++ (if (i : Int) < zi then [((i : Int), zi)] else [])) := by
            show _ = _; rw [List.take_succ_eq_append_getElem hjl, selL_snoc, hzi]
          have HLJ : Hid ((lkL NB i ++ selL (i : Int) (K.take j)).length ≤ 1000000) := by
            have h1 := selL_len (i : Int) (K.take j)
            rw [List.length_take] at h1
            have h2 := HLI.out
            show _ ≤ _; rw [List.length_append]; omega
          have d1 : decide ((j : Int) < (K.length : Int)) = true := decide_eq_true (by omega)
          have HWI := Lib.hid (wrap_small ((j : Int) + 1) (by omega) (by omega))
          have HCS : Hid (((j : Int) + 1) = ((j + 1 : Nat) : Int)) := by show _ = _; rw [Int.natCast_add]; rfl
          have HME : Hid (K.length - (intOf (.int .i64 ((j : Int) + 1))).toNat < K.length - (intOf (.int .i64 (j : Int))).toNat) := by show _ < _; simp [intOf]; omega
          have HMO : Hid (K.length - (intOf (.int .i64 (wrap64 ((j : Int) + 1)))).toNat < K.length - (intOf (.int .i64 (j : Int))).toNat) := by show _ < _; rw [HWI.out]; exact HME.out
          have HK1 : Hid (j + 1 ≤ K.length) := hjl
          clear hcn hzi hz0 hz1 hj
          by_cases hgt : (i : Int) < zi
          · have d2 : decide ((i : Int) < zi) = true := decide_eq_true hgt
            obtain ⟨v', w2', hr, hd2, hmv, hsz⟩ := HJ.out.1.push ((i : Int), zi) HLJ.out
            have HI2 : Hid (LS w #[.int .i64 kind, .slice sa M sc, .int .i64 hosts] (lkL NB i ++ selL (i : Int) (K.take (j + 1))) v' w2' ∧ Ints w2' (some ⟨gn, on, none⟩) K ∧ ∀ b, (some (Addr.mk gn on none)).map (·.block) = some b → v'.ownBlock ≠ some b) := by
              obtain ⟨h1, h2, h3⟩ := HJ.out
              have hgs : gn < wr.heap.size := block_lt_of_cell czn
              refine ⟨?_, h2.move (fun b hb hbs => (hmv b hbs (h3 b hb)).1), fun b hb => ?_⟩
              · rw [HTK.out, if_pos hgt, ← List.append_assoc]; exact hd2
              · obtain rfl : gn = b := by simpa using hb
                exact (hmv _ hgs (h3 _ rfl)).2
            have HR := Lib.hid hr
            clear hr hd2 hmv hsz HJ hgt
            go_wp2_with (at_builtin; refine Lib.wpList_append_run _ rfl (.tmp 35) (.tmp 42) 31 31 rfl _ _ rfl rfl _ _ HR.out ?_)
            go_roundw
            case rel => exact ⟨j + 1, HK1.out, by first | rw [HWI.out, HCS.out] | rw [HCS.out], HI2⟩
            case measure => first | exact HMO.out | exact HME.out
          · have d2 : decide ((i : Int) < zi) = false := decide_eq_false hgt
            have HI2 : Hid (LS w #[.int .i64 kind, .slice sa M sc, .int .i64 hosts] (lkL NB i ++ selL (i : Int) (K.take (j + 1))) u5 wr ∧ Ints wr (some ⟨gn, on, none⟩) K ∧ ∀ b, (some (Addr.mk gn on none)).map (·.block) = some b → u5.ownBlock ≠ some b) := by
              rw [HTK.out, if_neg hgt, List.append_nil]; exact HJ
            clear hgt HJ
            go_wp2_with fail
            go_roundw
            case rel => exact ⟨j + 1, HK1.out, by first | rw [HWI.out, HCS.out] | rw [HCS.out], HI2⟩
            case measure => first | exact HMO.out | exact HME.out
        · obtain rfl : j = K.length := by omega
          have d2 : decide ((K.length : Int) < (K.length : Int)) = false := decide_eq_false (by omega)
          have HI9 : Hid (LS w #[.int .i64 kind, .slice sa M sc, .int .i64 hosts] (lkL NB (i + 1)) u5 wr) := by
            have h1 := HJ.out.1
            rw [List.take_length, HKE.out] at h1
            exact h1
          have HK1 : Hid (i + 1 ≤ N) := hlt
          clear HJ hjl hj
          go_wp2_with fail
          go_roundw
          case rel => exact ⟨i + 1, HK1.out, by first | rw [HWI0.out, HCS0.out] | rw [HCS0.out], HI9⟩
          case measure => first | exact HMO0.out | exact HME0.out
    · have hin : i = N := by omega
      subst hin
      have d1 : decide ((i : Int) < (i : Int)) = false := decide_eq_false (by omega)
      have HF : Hid (NewPairs 37 w.heap.size w2 u5 (lkL NB i) ∧ Below w.heap.size w w2) := ⟨⟨ownsRow_low HI.out.que.own (by omega)⟩, HI.out.bel⟩
      clear HI c0 c1 c2 hlt hi
      go_wp2_with fail
      go_ret2
      exact ⟨u5, rfl, HF.out.1, HF.out.2⟩
end Go.Proofs.YtbhkenphcahifaaGreat
namespace Go.Proofs.YtbhkenphcahifaaGreat
open Go.RowKit Go.Shelf
attribute [local go_sem] Oper.semAt_some
set_option maxRecDepth 100000
set_option maxHeartbeats 4000000
theorem pairs_at : ∀ (L : List (Int × Int)) (j : Nat) (h : j < L.length), (pairsV L)[2 * j]? = some (.int .i64 L[j].1) ∧ (pairsV L)[2 * j + 1]? = some (.int .i64 L[j].2)
  | [], j, h => by simp at h
  | p :: L, 0, h => by constructor <;> rfl
  | p :: L, j + 1, h => by
    have ih := pairs_at L j (by simpa using h)
    have e : pairsV (p :: L) = .int .i64 p.1 :: .int .i64 p.2 :: pairsV L := rfl
    rw [e, show 2 * (j + 1) = 2 * j + 1 + 1 by omega]
    simpa using ih
/-- a slice of pairs -/
structure Prs (w : World) (a : Option Addr) (L : List (Int × Int)) : Prop where
  at_ : L ≠ [] → ∃ b, a = some ⟨b, 0, none⟩ ∧ ∀ j (h : j < L.length), w.cell? ⟨b, j * 2, none⟩ = some (.int .i64 L[j].1) ∧ w.cell? ⟨b, j * 2 + 1, none⟩ = some (.int .i64 L[j].2)
theorem Prs.keep {w w' : World} {a : Option Addr} {L : List (Int × Int)} (h : Prs w a L) (hb : Below w.heap.size w w') : Prs w' a L :=
  ⟨fun hl => by
    obtain ⟨b, ha, hc⟩ := h.at_ hl
    exact ⟨b, ha, fun j hj => ⟨kcell hb (hc j hj).1, kcell hb (hc j hj).2⟩⟩⟩
theorem NewPairs.prs {e : TypeId} {B : Nat} {w : World} {v : Value} {L : List (Int × Int)} (h : NewPairs e B w v L) : ∃ a cap, v = .slice a L.length cap ∧ Prs w a L := by
  have h0 := h.own
  rcases h0.2 with ⟨rfl, hn⟩ | ⟨g, cap, cur, rfl, _⟩
  · exact ⟨none, 0, by rw [hn], ⟨fun hl => absurd (List.length_eq_zero_iff.1 hn) hl⟩⟩
  · refine ⟨_, cap, rfl, ⟨fun _ => ⟨g, rfl, fun j hj => ?_⟩⟩⟩
    obtain ⟨p1, p2⟩ := pairs_at L j hj
    have q1 := h0.cells (g := g) rfl _ _ p1
    have q2 := h0.cells (g := g) rfl _ _ p2
    have e1 : (⟨g, 0, none⟩ : Addr).add (2 * j) = ⟨g, j * 2, none⟩ := by
      rw [Nat.mul_comm]; simp only [Addr.add]; split
      · rename_i h0; rw [h0]
      · simp
    have e2 : (⟨g, 0, none⟩ : Addr).add (2 * j + 1) = ⟨g, j * 2 + 1, none⟩ := by
      rw [Nat.mul_comm]; simp [Addr.add]
    rw [e1] at q1
    rw [e2] at q2
    exact ⟨q1, q2⟩
end Go.Proofs.YtbhkenphcahifaaGreat
namespace Go.Proofs.YtbhkenphcahifaaGreat
open Go.RowKit Go.Shelf
attribute [local go_sem] Oper.semAt_some
set_option maxRecDepth 100000
set_option maxHeartbeats 4000000
/-- the reference's Across -/
theorem rAcross_ok {w : World} {sa ba : Option Addr} {l : List Int} {bs : List Bool} (h : Ints w sa l) (hbs : Bls w ba bs) (sc bc0 : Nat) (kind hosts : Int) {N : Nat} (hv : vOk kind l hosts) (hN : swI kind l = (N : Int)) (hbl : bs.length = N) :
    Calls Tryz.prog 23 #[.agg #[.int .i64 kind, .slice sa l.length sc, .int .i64 hosts], .slice ba bs.length bc0] w fun e w' => e = .returned (.tuple #[.int .i64 (cutL bs (lkL (nbS kind l) N) : Nat), .int .i64 0]) ∧ Below w.heap.size w w' := by
  have HB := Lib.hid ((Below.refl w.heap.size w).alloc (Nat.le_refl _) (.cells #[.int .i64 kind, .slice sa l.length sc, .int .i64 hosts] 34))
  have Q0 := Lib.hid (heap_alloc_new w (.cells #[.int .i64 kind, .slice sa l.length sc, .int .i64 hosts] 34))
  have c0 := cellR 0 Q0.out rfl
  have c1 := cellR 1 Q0.out rfl
  have c2 := cellR 2 Q0.out rfl
  have H1 := Lib.hid (rLinks_ok (h.keep HB.out) sc kind hosts hv hN)
  have HSW : Hid (∀ W, Below w.heap.size w W → Calls Tryz.prog 51 #[.agg #[.int .i64 kind, .slice sa l.length sc, .int .i64 hosts]] W fun e w' => e = .returned (.int .i64 (N : Int)) ∧ Below W.heap.size W w') := fun W hb => by
    have := rSwitches_any (h.keep hb) sc kind hosts hv
    rwa [hN] at this
  have HIN : Hid (∀ p ∈ lkL (nbS kind l) N, (0 ≤ p.1 ∧ p.1 < (N : Int)) ∧ 0 ≤ p.2 ∧ p.2 < (N : Int)) := fun p hp => by
    have hin : ∀ x : Nat, x < N → ∀ z ∈ nbS kind l (x : Int), 0 ≤ z ∧ z < (N : Int) := fun x hx z hz => by
      have := (net_sym hv (x := (x : Int)) (by omega) (by rw [hN]; omega) z hz).1
      rw [hN] at this; exact this
    generalize nbS kind l = NB at *
    have key : ∀ i, i ≤ N → ∀ p ∈ lkL NB i, (0 ≤ p.1 ∧ p.1 < (N : Int)) ∧ 0 ≤ p.2 ∧ p.2 < (N : Int) := by
      intro i
      induction i with
      | zero => intro _ p hp; simp [lkL] at hp
      | succ i ih =>
        intro hi p hp
        rw [lkL] at hp
        rcases List.mem_append.1 hp with hp | hp
        · exact ih (by omega) p hp
        · unfold selL at hp
          obtain ⟨y, hy, rfl⟩ := List.mem_map.1 hp
          have := hin i (by omega) y (List.mem_filter.1 hy).1
          exact ⟨⟨by simp, by simp; omega⟩, this⟩
    exact key N (Nat.le_refl _) p hp
  have HLL : Hid ((lkL (nbS kind l) N).length ≤ 100000) := by
    have h1 := lkL_len (NB := nbS kind l) (N := N) (fun x hx => nbS_few hv hN (by omega) (by omega)) N (Nat.le_refl _)
    have h3 := sw_max hv
    have h2 := Nat.mul_le_mul (show N ≤ 256 by omega) (show N ≤ 256 by omega)
    show _ ≤ _; omega
  have HBS := Lib.hid (hbs.keep HB.out)
  have HBL := Lib.hid hbl
  have d0 : ((N : Int) != (N : Int)) = false := by simp
  clear h hv hN hbs
  rw [hbl]
  generalize lkL (nbS kind l) N = L at *
  generalize l.length = M at *
  clear hbl
  go_enter Tryz.func23, Tryz.ntmps23
  go_wp2_with fail
  generalize w.alloc (.cells #[.int .i64 kind, .slice sa M sc, .int .i64 hosts] 34) = X at *
  refine H1.out.mono ?_
  rintro e w1 ⟨v, rfl, hp, hb1⟩
  obtain ⟨ag, cg, rfl, hpr⟩ := hp.prs
  have HP := Lib.hid hpr
  replace HBS := Lib.hid (HBS.out.keep hb1)
  replace Q0 := Lib.hid (heapB hb1 Q0.out)
  replace HB := Lib.hid (HB.out.trans (hb1.mono HB.out.size))
  clear H1 hp hpr hb1 c0 c1 c2
  have c0 := cellR 0 Q0.out rfl
  have c1 := cellR 1 Q0.out rfl
  have c2 := cellR 2 Q0.out rfl
  go_wp2_with fail
  refine (HSW.out _ HB.out).mono ?_
  rintro e w2 ⟨rfl, hb2⟩
  replace HP := Lib.hid (HP.out.keep hb2)
  replace HBS := Lib.hid (HBS.out.keep hb2)
  replace HB := Lib.hid (HB.out.trans (hb2.mono HB.out.size))
  clear HSW hb2 c0 c1 c2 Q0
  have HS0 : Hid (Below w.heap.size w w2 ∧ Below w2.heap.size w2 w2) := ⟨HB.out, Below.refl _ _⟩
  go_wp2_with fail
  go_loopw [8, 9] (fun cv iv wr => ∃ (i : Nat), i ≤ L.length ∧ iv = .int .i64 (i : Int) ∧ cv = .int .i64 ((cutL bs (L.take i) : Nat) : Int) ∧ Hid (Below w.heap.size w wr ∧ Below w2.heap.size w2 wr)) (fun _ iv _ => L.length - (intOf iv).toNat)
  case atStart => exact ⟨0, Nat.zero_le _, rfl, rfl, HS0⟩
  case round =>
    clear HS0
    obtain ⟨i, hi, rfl, rfl, HI⟩ := hrel
    have hll := HLL.out
    by_cases hlt : i < L.length
    · obtain ⟨g1, rfl, hc1⟩ := (HP.out.keep HI.out.2).at_ (ne_nil_of_lt hlt)
      obtain ⟨x1, x2⟩ := hc1 i hlt
      obtain ⟨⟨n1, n2⟩, n3, n4⟩ := HIN.out L[i] (List.getElem_mem hlt)
      have hcs : cutL bs (L.take (i + 1)) = cutL bs (L.take i) + (if (bs.getD L[i].1.toNat false != bs.getD L[i].2.toNat false) = true then 1 else 0) := by
        rw [List.take_succ_eq_append_getElem hlt, cutL_snoc]
      have hcl : cutL bs (L.take i) ≤ 100000 := by
        have h7 := cutL_le bs (L.take i)
        rw [List.length_take] at h7
        omega
      generalize L[i].1 = p1 at *
      generalize L[i].2 = p2 at *
      obtain ⟨a1, rfl⟩ := Int.eq_ofNat_of_zero_le n1
      obtain ⟨a2, rfl⟩ := Int.eq_ofNat_of_zero_le n3
      have hm1 : a1 < N := by omega
      have hm2 : a2 < N := by omega
      have hib : a1 < bs.length := by rw [HBL.out]; exact hm1
      have hjb : a2 < bs.length := by rw [HBL.out]; exact hm2
      obtain ⟨gb, ob, rfl, hcb⟩ := (HBS.out.keep HI.out.2).at_ (ne_nil_of_lt hib)
      have e1 := hcb a1 hib
      have e2 := hcb a2 hjb
      rw [show bs.getD (a1 : Int).toNat false = bs[a1] by simp [List.getD, hib], show bs.getD (a2 : Int).toNat false = bs[a2] by simp [List.getD, hjb]] at hcs
      generalize bs[a1] = b1 at *
      generalize bs[a2] = b2 at *
      have d1 : decide ((i : Int) < (L.length : Int)) = true := decide_eq_true (by omega)
      have HWI := Lib.hid (wrap_small ((i : Int) + 1) (by omega) (by omega))
      have HCS : Hid (((i : Int) + 1) = ((i + 1 : Nat) : Int)) := by show _ = _; rw [Int.natCast_add]; rfl
      have HME : Hid (L.length - (intOf (.int .i64 ((i : Int) + 1))).toNat < L.length - (intOf (.int .i64 (i : Int))).toNat) := by show _ < _; simp [intOf]; omega
      have HMO : Hid (L.length - (intOf (.int .i64 (wrap64 ((i : Int) + 1)))).toNat < L.length - (intOf (.int .i64 (i : Int))).toNat) := by show _ < _; rw [HWI.out]; exact HME.out
      have HK1 : Hid (i + 1 ≤ L.length) := hlt
      have HCU := Lib.hid hcs
      clear hc1 hcb hcs hi hib hjb n1 n2 n3 n4
      go_wp2_with fail
      go_quiet (fail)
      have HI2 : Hid (Below w.heap.size w (wr.drewN nq) ∧ Below w2.heap.size w2 (wr.drewN nq)) := ⟨below_drewN HI.out.1 _, below_drewN HI.out.2 _⟩
      clear x1 x2 e1 e2 HI
      generalize wr.drewN nq = W9 at *
      generalize hcq : cutL bs (L.take i) = cq at *
      have hw9 := wrap_small ((cq : Int) + 1) (by omega) (by omega)
      have hcc : ((cq : Int) + 1) = ((cq + 1 : Nat) : Int) := by rw [Int.natCast_add]; rfl
      have HW9 := Lib.hid hw9
      have HC9 := Lib.hid hcc
      clear hcq hw9 hcc hcl
      cases b1 with
      | false =>
       cases b2 with
       | false =>
        have HZ9 : Hid (cutL bs (L.take (i + 1)) = cq) := by show _ = _; rw [HCU.out]; simp
        clear HCU
        go_wp2_with fail
        go_roundw
        case rel => exact ⟨i + 1, HK1.out, by first | rw [HWI.out, HCS.out] | rw [HCS.out], by rw [HZ9.out], HI2⟩
        case measure => first | exact HMO.out | exact HME.out
       | true =>
        have HZ9 : Hid (cutL bs (L.take (i + 1)) = cq + 1) := by show _ = _; rw [HCU.out]; simp
        clear HCU
        go_wp2_with fail
        go_roundw
        case rel => exact ⟨i + 1, HK1.out, by first | rw [HWI.out, HCS.out] | rw [HCS.out], by rw [HZ9.out, ← HC9.out]; first | rw [HW9.out] | rfl, HI2⟩
        case measure => first | exact HMO.out | exact HME.out
      | true =>
       cases b2 with
       | false =>
        have HZ9 : Hid (cutL bs (L.take (i + 1)) = cq + 1) := by show _ = _; rw [HCU.out]; simp
        clear HCU
        go_wp2_with fail
        go_roundw
        case rel => exact ⟨i + 1, HK1.out, by first | rw [HWI.out, HCS.out] | rw [HCS.out], by rw [HZ9.out, ← HC9.out]; first | rw [HW9.out] | rfl, HI2⟩
        case measure => first | exact HMO.out | exact HME.out
       | true =>
        have HZ9 : Hid (cutL bs (L.take (i + 1)) = cq) := by show _ = _; rw [HCU.out]; simp
        clear HCU
        go_wp2_with fail
        go_roundw
        case rel => exact ⟨i + 1, HK1.out, by first | rw [HWI.out, HCS.out] | rw [HCS.out], by rw [HZ9.out], HI2⟩
        case measure => first | exact HMO.out | exact HME.out
    · have hin : i = L.length := by omega
      subst hin
      have d1 : decide ((L.length : Int) < (L.length : Int)) = false := decide_eq_false (by omega)
      have HF := Lib.hid HI.out.1
      rw [List.take_length]
      clear HI hlt hi hll
      go_wp2_with fail
      go_ret2
      exact ⟨rfl, HF.out⟩
end Go.Proofs.YtbhkenphcahifaaGreat
namespace Go.Proofs.YtbhkenphcahifaaGreat
open Go.RowKit Go.Shelf
attribute [local go_sem] Oper.semAt_some
set_option maxRecDepth 100000
set_option maxHeartbeats 4000000
theorem take_snoc {S : List (Nat → Bool)} {m : Nat} (h : m < S.length) : S.take m ++ [S.getD m fun _ => false] = S.take (m + 1) := by
  rw [List.take_succ_eq_append_getElem h]; simp [List.getD, h]
/-- the reference's Sides, in a dragonfly -/
theorem rSides3_ok {w : World} {g o : Nat} {a h G sw : Nat} (ha : 1 ≤ a) (ha2 : a ≤ 16) (hh : 1 ≤ h) (hh2 : h ≤ 4) (ht : Two w g o a h) (hG : a * h + 1 = G) (hsw : a * G = sw) (hsl : sw ≤ 1000) (sc : Nat) (hosts : Int) (hv : vOk 3 [(a : Int), (h : Int)] hosts) :
    Calls Tryz.prog 25 #[.agg #[.int .i64 3, .slice (some ⟨g, o, none⟩) 2 sc, .int .i64 hosts]] w fun e w' => ∃ v, e = .returned (.tuple #[v, .int .i64 0]) ∧ RowsB w' v sw (stdD a G) ∧ Below w.heap.size w w' := by
  have HIN : Ints w (some ⟨g, o, none⟩) [(a : Int), (h : Int)] := ⟨by simp, fun _ => ⟨g, o, rfl, fun j hj => by
    have hj : j = 0 ∨ j = 1 := by simp at hj; omega
    rcases hj with rfl | rfl
    · exact ht.1
    · exact ht.2⟩⟩
  have HCK : Hid (∀ W, Below w.heap.size w W → Calls Tryz.prog 50 #[.agg #[.int .i64 3, .slice (some ⟨g, o, none⟩) 2 sc, .int .i64 hosts]] W fun e w' => e = .returned (.int .i64 0) ∧ Below W.heap.size W w') := fun W hW => by
    have := rCheck_any (HIN.keep hW) sc 3 hosts
    rwa [show errI 3 [(a : Int), (h : Int)] hosts = 0 from if_pos hv] at this
  have HGR : Hid (∀ W, Below w.heap.size w W → Calls Tryz.prog 65 #[.agg #[.int .i64 3, .slice (some ⟨g, o, none⟩) 2 sc, .int .i64 hosts]] W fun e w' => e = .returned (.int .i64 (G : Int)) ∧ Below W.heap.size W w') := fun W hb => by
    have := rGroups_any (a : Int) (h : Int) (by omega) (by omega) (by omega) (by omega) (ht.keep hb) sc 3 hosts
    rwa [show ((a : Int) * (h : Int) + 1) = (G : Int) by rw [← hG]; simp] at this
  have HSW : Hid (∀ W, Below w.heap.size w W → Calls Tryz.prog 51 #[.agg #[.int .i64 3, .slice (some ⟨g, o, none⟩) 2 sc, .int .i64 hosts]] W fun e w' => e = .returned (.int .i64 (sw : Int)) ∧ Below W.heap.size W w') := fun W hb => by
    have := rSw3_any (a : Int) (h : Int) (by omega) (by omega) (by omega) (by omega) (ht.keep hb) sc hosts
    rwa [show ((a : Int) * ((a : Int) * (h : Int) + 1)) = (sw : Int) by rw [← hsw, ← hG]; simp] at this
  have HT := Lib.hid ht
  have HGL : Hid (G ≤ 1000) := by
    show _ ≤ _
    have := Nat.mul_le_mul (show 1 ≤ a from ha) (Nat.le_refl G); omega
  have HSLN : Hid ((stdD a G).length = G) := by show _ = _; simp [stdD]
  have HSAT : Hid (∀ m, m < G → (stdD a G).getD m (fun _ => false) = fun x => x / a == m) := fun m hm => by simp [stdD, List.getD, hm]
  have HSL := Lib.hid hsl
  have HA1 := Lib.hid ha
  have HB := Lib.hid ((Below.refl w.heap.size w).alloc (Nat.le_refl _) (.cells #[.int .i64 3, .slice (some ⟨g, o, none⟩) 2 sc, .int .i64 hosts] 34))
  have Q0 := Lib.hid (heap_alloc_new w (.cells #[.int .i64 3, .slice (some ⟨g, o, none⟩) 2 sc, .int .i64 hosts] 34))
  have HZ : Hid ((w.alloc (.cells #[.int .i64 3, .slice (some ⟨g, o, none⟩) 2 sc, .int .i64 hosts] 34)).heap.size = w.heap.size + 1) := by show _ = _; simp
  have c0 := cellR 0 Q0.out rfl
  have c1 := cellR 1 Q0.out rfl
  have c2 := cellR 2 Q0.out rfl
  clear ht hG hsw hsl hv HIN hh hh2 ha
  generalize stdD a G = S at *
  go_enter Tryz.func25, Tryz.ntmps25
  go_wp2_with fail
  generalize w.alloc (.cells #[.int .i64 3, .slice (some ⟨g, o, none⟩) 2 sc, .int .i64 hosts] 34) = X at *
  refine (HCK.out _ HB.out).mono ?_
  rintro e w1 ⟨rfl, hb1⟩
  replace Q0 := Lib.hid (heapB hb1 Q0.out)
  replace HB := Lib.hid (HB.out.trans (hb1.mono HB.out.size))
  have HR0 : Hid (RB w.heap.size (w.heap.size + 1) sw (.cells #[.int .i64 3, .slice (some ⟨g, o, none⟩) 2 sc, .int .i64 hosts] 34 (0, 0)) w (.slice none 0 0) (S.take 0) w1) := by
    show RB _ _ _ _ _ _ _ _
    rw [List.take_zero]
    exact RB.nil Q0.out HB.out (by have := HZ.out; have := hb1.size; omega) ⟨rfl, Nat.lt_succ_self _⟩
  clear hb1 c0 c1 c2 HCK HZ
  have c0 := cellR 0 Q0.out rfl
  have c1 := cellR 1 Q0.out rfl
  have c2 := cellR 2 Q0.out rfl
  go_wp2_with fail
  clear c0 c1 c2 Q0 HB
  go_loopw [5, 13] (fun ov gv wr => ∃ m : Nat, m ≤ G ∧ gv = .int .i64 (m : Int) ∧ Hid (RB w.heap.size (w.heap.size + 1) sw (.cells #[.int .i64 3, .slice (some ⟨g, o, none⟩) 2 sc, .int .i64 hosts] 34 (0, 0)) w ov (S.take m) wr)) (fun _ gv _ => G - (intOf gv).toNat)
  case atStart => exact ⟨0, Nat.zero_le _, rfl, HR0⟩
  case round =>
    clear HR0
    obtain ⟨m, hm, rfl, HR⟩ := hrel
    have c0 := cellR 0 HR.out.q0 rfl
    have c1 := cellR 1 HR.out.q0 rfl
    have c2 := cellR 2 HR.out.q0 rfl
    go_wp2_with fail
    refine (HGR.out _ HR.out.bl).mono ?_
    rintro e w2 ⟨rfl, hb2⟩
    replace HR := Lib.hid (HR.out.keep hb2)
    clear hb2 c0 c1 c2
    have c0 := cellR 0 HR.out.q0 rfl
    have c1 := cellR 1 HR.out.q0 rfl
    have c2 := cellR 2 HR.out.q0 rfl
    by_cases hlt : m < G
    · have d1 : decide ((m : Int) < (G : Int)) = true := decide_eq_true (by omega)
      go_wp2_with fail
      refine (HSW.out _ HR.out.bl).mono ?_
      rintro e w3 ⟨rfl, hb3⟩
      replace HR := Lib.hid (HR.out.keep hb3)
      clear hb3 c0 c1 c2
      have HMB := Lib.hid (make_bools sw (by have := HSL.out; omega) w3)
      have hmb := HMB.out
      obtain ⟨T, hT⟩ : ∃ T : Nat → Bool, T = fun x => x / a == m := ⟨_, rfl⟩
      have HTT := Lib.hid hT
      have HR3 := Lib.hid (HR.out.keep ((Below.refl _ _).alloc (Nat.le_refl _) (.cells (boolA (List.replicate sw false)) 4)))
      have HA : Hid (RB w.heap.size (w.heap.size + 1) sw (.cells #[.int .i64 3, .slice (some ⟨g, o, none⟩) 2 sc, .int .i64 hosts] 34 (0, 0)) w u5 (S.take m) (w3.alloc (.cells (boolA (List.replicate sw false)) 4)) ∧ Below w3.heap.size w3 (w3.alloc (.cells (boolA (List.replicate sw false)) 4)) ∧ BAt (w3.alloc (.cells (boolA (List.replicate sw false)) 4)) w3.heap.size (rowB T sw 0)) := ⟨HR3.out, (Below.refl _ _).alloc (Nat.le_refl _) _, by rw [rowB_zero]; exact heap_alloc_new w3 _⟩
      clear HMB HR3 hT
      have HRW : Hid (RB w.heap.size (w.heap.size + 1) sw (.cells #[.int .i64 3, .slice (some ⟨g, o, none⟩) 2 sc, .int .i64 hosts] 34 (0, 0)) w u5 (S.take m) w3) := HR
      clear HR
      go_wp2_with fail
      clear hmb
      go_loopw [15] (fun a' wr => ∃ x : Nat, x ≤ sw ∧ a' = .int .i64 (x : Int) ∧ Hid (Below w3.heap.size w3 wr ∧ BAt wr w3.heap.size (rowB T sw x))) (fun a' _ => sw - (intOf a').toNat)
      case atStart => exact ⟨0, Nat.zero_le _, rfl, HA.out.2⟩
      case round =>
        clear HA
        obtain ⟨x, hx, rfl, HC⟩ := hrel
        have HR4 := Lib.hid (HRW.out.keep HC.out.1)
        by_cases hlt2 : x < sw
        · have d2 : decide ((x : Int) < (sw : Int)) = true := decide_eq_true (by omega)
          have c0 := cellR 0 HR4.out.q0 rfl
          have c1 := cellR 1 HR4.out.q0 rfl
          have e0 := (HT.out.keep HR4.out.bl).1
          have HWI := Lib.hid (wrap_small ((x : Int) + 1) (by omega) (by have := HSL.out; omega))
          have HCS : Hid (((x : Int) + 1) = ((x + 1 : Nat) : Int)) := by show _ = _; rw [Int.natCast_add]; rfl
          have HME : Hid (sw - (intOf (.int .i64 ((x : Int) + 1))).toNat < sw - (intOf (.int .i64 (x : Int))).toNat) := by show _ < _; simp [intOf]; omega
          have HMO : Hid (sw - (intOf (.int .i64 (wrap64 ((x : Int) + 1)))).toNat < sw - (intOf (.int .i64 (x : Int))).toNat) := by show _ < _; rw [HWI.out]; exact HME.out
          have HK1 : Hid (x + 1 ≤ sw) := hlt2
          have HST : Hid ((rowB T sw x).set x (T x) = rowB T sw (x + 1)) := rowB_set _ _ _ hlt2
          have ha0 : ((a : Int) = 0) = False := by have := HA1.out; simp; omega
          have ha1 : (a = 0) = False := by have := HA1.out; simp; omega
          obtain ⟨q, hq0⟩ : ∃ q, q = x / a := ⟨_, rfl⟩
          have hqe : ((x : Int) / (a : Int)) = (q : Int) := by rw [hq0]; exact (Int.natCast_ediv x a).symm
          have hqx : q ≤ x := by rw [hq0]; exact Nat.div_le_self x a
          have hq : (wrap64 ((x : Int) / (a : Int)) == (m : Int)) = T x := by
            rw [HTT.out, hqe, wrap_small _ (by omega) (by have := HSL.out; omega)]
            show ((q : Int) == (m : Int)) = (x / a == m)
            rw [← hq0]
            rw [Bool.eq_iff_iff]; simp; omega
          have hq2 : (wrap64 ((x : Int).tdiv (a : Int)) == (m : Int)) = T x := by rw [Int.tdiv_eq_ediv_of_nonneg (by omega)]; exact hq
          have ca := HC.out.2.cell x (by rw [rowB_len _ _ _ (by omega)]; omega)
          have fa := HC.out.2.open_ x
          have la := HC.out.2.lt
          generalize T x = bv at *
          clear hx hlt2 hqe hqx hq0
          have HC9 : Hid (Below w3.heap.size w3 (wr.setCell ⟨w3.heap.size, x, none⟩ (.bool bv)) ∧ BAt (wr.setCell ⟨w3.heap.size, x, none⟩ (.bool bv)) w3.heap.size (rowB T sw (x + 1))) := ⟨HC.out.1.setCell (p := ⟨w3.heap.size, x, none⟩) (Nat.le_refl _) _, by rw [← HST.out]; exact HC.out.2.set x bv⟩
          go_wp2_with fail
          go_roundw
          case rel => exact ⟨x + 1, HK1.out, by first | rw [HWI.out, HCS.out] | rw [HCS.out], HC9⟩
          case measure => first | exact HMO.out | exact HME.out
        · have hin : x = sw := by omega
          subst hin
          have d2 : decide ((x : Int) < (x : Int)) = false := decide_eq_false (by omega)
          have hTb := HC.out.2
          rw [rowB_full] at hTb
          obtain ⟨v', w4, hr, hr4⟩ := HR4.out.app T w3.heap.size hTb (by have := HSLN.out; have := HGL.out; simp; omega)
          have HRR := Lib.hid hr
          have HR5 : Hid (RB w.heap.size (w.heap.size + 1) x (.cells #[.int .i64 3, .slice (some ⟨g, o, none⟩) 2 sc, .int .i64 hosts] 34 (0, 0)) w v' (S.take (m + 1)) w4) := by
            have h1 : S.take m ++ [T] = S.take (m + 1) := by
              have := take_snoc (S := S) (m := m) (by rw [HSLN.out]; exact hlt)
              rw [HSAT.out m hlt] at this
              rw [HTT.out]; exact this
            show RB _ _ _ _ _ _ _ _
            rw [← h1]; exact hr4
          have hgl := HGL.out
          have HWI := Lib.hid (wrap_small ((m : Int) + 1) (by omega) (by omega))
          have HCS : Hid (((m : Int) + 1) = ((m + 1 : Nat) : Int)) := by show _ = _; rw [Int.natCast_add]; rfl
          have HME : Hid (G - (intOf (.int .i64 ((m : Int) + 1))).toNat < G - (intOf (.int .i64 (m : Int))).toNat) := by show _ < _; simp [intOf]; omega
          have HMO : Hid (G - (intOf (.int .i64 (wrap64 ((m : Int) + 1)))).toNat < G - (intOf (.int .i64 (m : Int))).toNat) := by show _ < _; rw [HWI.out]; exact HME.out
          have HK1 : Hid (m + 1 ≤ G) := hlt
          clear HC HR4 hr hr4 hTb hx hlt2 hgl HRW
          go_wp2_with (at_builtin; refine Lib.wpList_append_run _ rfl (.tmp 49) (.tmp 51) 54 54 rfl _ _ rfl rfl _ _ HRR.out ?_)
          go_roundw
          case rel => exact ⟨m + 1, HK1.out, by first | rw [HWI.out, HCS.out] | rw [HCS.out], HR5⟩
          case measure => first | exact HMO.out | exact HME.out
    · have hin : m = G := by omega
      have d1 : decide ((m : Int) < (G : Int)) = false := decide_eq_false (by omega)
      have HF : Hid (RowsB w2 u5 sw S ∧ Below w.heap.size w w2) := by
        have h1 := HR.out
        rw [hin, List.take_of_length_le (by rw [HSLN.out]; omega)] at h1
        obtain ⟨bs, k1, k2, k3⟩ := h1.ex
        exact ⟨rowsB_of k1 k2 k3, h1.bl⟩
      clear HR c0 c1 c2 hin
      go_wp2_with fail
      go_ret2
      exact ⟨_, rfl, HF.out.1, HF.out.2⟩
end Go.Proofs.YtbhkenphcahifaaGreat
namespace Go.Proofs.YtbhkenphcahifaaGreat
open Go.RowKit Go.Shelf
attribute [local go_sem] Oper.semAt_some
set_option maxRecDepth 100000
set_option maxHeartbeats 4000000
/-- the reference's Sides, in a torus -/
theorem rSides1_ok {w : World} {sa : Option Addr} {l : List Int} (h : Ints w sa l) (hl4 : l.length ≤ 4) (hb : ∀ i, i < l.length → 2 ≤ l.getD i 0 ∧ l.getD i 0 ≤ 16) {sw : Nat} (hsw : prodI l = (sw : Int)) (hsl : sw ≤ 1000) (sc : Nat) (hosts : Int) (hv : vOk 1 l hosts) :
    Calls Tryz.prog 25 #[.agg #[.int .i64 1, .slice sa l.length sc, .int .i64 hosts]] w fun e w' => ∃ v, e = .returned (.tuple #[v, .int .i64 0]) ∧ RowsB w' v sw (stdK l) ∧ Below w.heap.size w w' := by
  obtain ⟨N, hN⟩ : ∃ N, N = l.length := ⟨_, rfl⟩
  have HN := Lib.hid hN
  have HL := Lib.hid h
  have HBB := Lib.hid hb
  have HCK : Hid (∀ W, Below w.heap.size w W → Calls Tryz.prog 50 #[.agg #[.int .i64 1, .slice sa l.length sc, .int .i64 hosts]] W fun e w' => e = .returned (.int .i64 0) ∧ Below W.heap.size W w') := fun W hW => by
    have := rCheck_any (h.keep hW) sc 1 hosts
    rwa [show errI 1 l hosts = 0 from if_pos hv] at this
  have HSW : Hid (∀ W, Below w.heap.size w W → Calls Tryz.prog 51 #[.agg #[.int .i64 1, .slice sa l.length sc, .int .i64 hosts]] W fun e w' => e = .returned (.int .i64 (sw : Int)) ∧ Below W.heap.size W w') := fun W hW => by
    have := rSwitches_any (h.keep hW) sc 1 hosts hv
    rwa [show swI 1 l = (sw : Int) by rw [swI, if_pos rfl, hsw]] at this
  have HCO : Hid (∀ W (x : Nat), Below w.heap.size w W → x < sw → Calls Tryz.prog 62 #[.agg #[.int .i64 1, .slice sa l.length sc, .int .i64 hosts], .int .i64 (x : Int)] W fun e w' => ∃ g, e = .returned (.slice (some ⟨g, 0, none⟩) l.length l.length) ∧ W.heap.size ≤ g ∧ RowAt w' g (coordsL l (x : Int)) ∧ Below W.heap.size W w') := fun W x hW hx => rCoords_any (h.keep hW) (fun s hs => by
    obtain ⟨j, hj, rfl⟩ := List.getElem_of_mem hs
    have := hb j hj
    rw [show l.getD j 0 = l[j] by simp [List.getD, hj]] at this
    omega) sc 1 hosts (x : Int) (by omega) (by omega)
  have HSLN : Hid ((stdK l).length = N) := by show _ = _; rw [hN]; simp [stdK]
  have HSAT : Hid (∀ m, m < N → (stdK l).getD m (fun _ => false) = fun (x : Nat) => decide ((x : Int) / strI l m % l.getD m 0 < l.getD m 0 / 2)) := fun m hm => by simp [stdK, List.getD, ← hN, hm]
  have HSL := Lib.hid hsl
  have HSWP := Lib.hid hsw
  rw [← hN] at HCK HSW HCO ⊢
  have HB := Lib.hid ((Below.refl w.heap.size w).alloc (Nat.le_refl _) (.cells #[.int .i64 1, .slice sa N sc, .int .i64 hosts] 34))
  have Q0 := Lib.hid (heap_alloc_new w (.cells #[.int .i64 1, .slice sa N sc, .int .i64 hosts] 34))
  have HZ : Hid ((w.alloc (.cells #[.int .i64 1, .slice sa N sc, .int .i64 hosts] 34)).heap.size = w.heap.size + 1) := by show _ = _; simp
  have c0 := cellR 0 Q0.out rfl
  have c1 := cellR 1 Q0.out rfl
  have c2 := cellR 2 Q0.out rfl
  have hN4 : N ≤ 4 := by omega
  clear h hb hsw hsl hv hN hl4
  generalize stdK l = S at *
  go_enter Tryz.func25, Tryz.ntmps25
  go_wp2_with fail
  generalize w.alloc (.cells #[.int .i64 1, .slice sa N sc, .int .i64 hosts] 34) = X at *
  refine (HCK.out _ HB.out).mono ?_
  rintro e w1 ⟨rfl, hb1⟩
  replace Q0 := Lib.hid (heapB hb1 Q0.out)
  replace HB := Lib.hid (HB.out.trans (hb1.mono HB.out.size))
  have HR0 : Hid (RB w.heap.size (w.heap.size + 1) sw (.cells #[.int .i64 1, .slice sa N sc, .int .i64 hosts] 34 (0, 0)) w (.slice none 0 0) (S.take 0) w1) := by
    show RB _ _ _ _ _ _ _ _
    rw [List.take_zero]
    exact RB.nil Q0.out HB.out (by have := HZ.out; have := hb1.size; omega) ⟨rfl, Nat.lt_succ_self _⟩
  clear hb1 c0 c1 c2 HCK HZ
  have c0 := cellR 0 Q0.out rfl
  have c1 := cellR 1 Q0.out rfl
  have c2 := cellR 2 Q0.out rfl
  go_wp2_with fail
  clear c0 c1 c2 Q0 HB
  go_loopw [5, 6] (fun ov gv wr => ∃ m : Nat, m ≤ N ∧ gv = .int .i64 (m : Int) ∧ Hid (RB w.heap.size (w.heap.size + 1) sw (.cells #[.int .i64 1, .slice sa N sc, .int .i64 hosts] 34 (0, 0)) w ov (S.take m) wr)) (fun _ gv _ => N - (intOf gv).toNat)
  case atStart => exact ⟨0, Nat.zero_le _, rfl, HR0⟩
  case round =>
    clear HR0
    obtain ⟨m, hm, rfl, HR⟩ := hrel
    have c0 := cellR 0 HR.out.q0 rfl
    have c1 := cellR 1 HR.out.q0 rfl
    have c2 := cellR 2 HR.out.q0 rfl
    by_cases hlt : m < N
    · have d1 : decide ((m : Int) < (N : Int)) = true := decide_eq_true (by omega)
      go_wp2_with fail
      refine (HSW.out _ HR.out.bl).mono ?_
      rintro e w3 ⟨rfl, hb3⟩
      replace HR := Lib.hid (HR.out.keep hb3)
      clear hb3 c0 c1 c2
      have HMB := Lib.hid (make_bools sw (by have := HSL.out; omega) w3)
      have hmb := HMB.out
      obtain ⟨T, hT⟩ : ∃ T : Nat → Bool, T = fun (x : Nat) => decide ((x : Int) / strI l m % l.getD m 0 < l.getD m 0 / 2) := ⟨_, rfl⟩
      have HTT := Lib.hid hT
      have HR3 := Lib.hid (HR.out.keep ((Below.refl _ _).alloc (Nat.le_refl _) (.cells (boolA (List.replicate sw false)) 4)))
      have HA : Hid (Below w3.heap.size w3 (w3.alloc (.cells (boolA (List.replicate sw false)) 4)) ∧ BAt (w3.alloc (.cells (boolA (List.replicate sw false)) 4)) w3.heap.size (rowB T sw 0)) := ⟨(Below.refl _ _).alloc (Nat.le_refl _) _, by rw [rowB_zero]; exact heap_alloc_new w3 _⟩
      have hml : m < l.length := by rw [← HN.out]; exact hlt
      obtain ⟨b0, b1⟩ := HBB.out m hml
      obtain ⟨g, off, rfl, hcs⟩ := HL.out.at_ (ne_nil_of_lt hml)
      have HE0 := Lib.hid (hcs m hml)
      rw [show l[m] = l.getD m 0 by simp [List.getD, hml]] at HE0
      clear HMB HR3 hT hcs
      have HRW := HR
      clear HR
      obtain ⟨s, hs⟩ : ∃ s, s = l.getD m 0 := ⟨_, rfl⟩
      rw [← hs] at HE0 b0 b1
      have HSE := Lib.hid hs
      obtain ⟨s2, hs2⟩ : ∃ s2, s2 = s / 2 := ⟨_, rfl⟩
      have HS2 : Hid (∀ W, (binOp .quo 3 (.int .i64 s) (.int .i64 2)).run Tryz.prog W = .ok (.int .i64 s2) W) := fun W => by rw [hs2]; exact i64_quo s 2 (by omega) (by omega) (by omega) W
      have HS2E := Lib.hid hs2
      clear hs hs2
      go_wp2_with fail
      clear hmb
      go_loopw [8] (fun a' wr => ∃ x : Nat, x ≤ sw ∧ a' = .int .i64 (x : Int) ∧ Hid (Below w3.heap.size w3 wr ∧ BAt wr w3.heap.size (rowB T sw x))) (fun a' _ => sw - (intOf a').toNat)
      case atStart => exact ⟨0, Nat.zero_le _, rfl, HA.out⟩
      case round =>
        clear HA
        obtain ⟨x, hx, rfl, HC⟩ := hrel
        have HR4 := Lib.hid (HRW.out.keep HC.out.1)
        by_cases hlt2 : x < sw
        · have d2 : decide ((x : Int) < (sw : Int)) = true := decide_eq_true (by omega)
          have HWI := Lib.hid (wrap_small ((x : Int) + 1) (by omega) (by have := HSL.out; omega))
          have HCS : Hid (((x : Int) + 1) = ((x + 1 : Nat) : Int)) := by show _ = _; rw [Int.natCast_add]; rfl
          have HME : Hid (sw - (intOf (.int .i64 ((x : Int) + 1))).toNat < sw - (intOf (.int .i64 (x : Int))).toNat) := by show _ < _; simp [intOf]; omega
          have HMO : Hid (sw - (intOf (.int .i64 (wrap64 ((x : Int) + 1)))).toNat < sw - (intOf (.int .i64 (x : Int))).toNat) := by show _ < _; rw [HWI.out]; exact HME.out
          have HK1 : Hid (x + 1 ≤ sw) := hlt2
          have HST : Hid ((rowB T sw x).set x (T x) = rowB T sw (x + 1)) := rowB_set _ _ _ hlt2
          have HXS : Hid (x < sw) := hlt2
          obtain ⟨d, hd, hnd⟩ := num_of HBB.out (x := (x : Int)) (by omega) (by rw [HSWP.out]; omega)
          have hdg : (x : Int) / strI l m % l.getD m 0 = d.getD m 0 := by rw [← hnd]; exact num_digit hd hml
          have hco : coordsL l (x : Int) = d := by rw [← hnd]; exact coords_num hd
          have hmd : m < d.length := by rw [hd.1]; exact hml
          obtain ⟨cx, hcx⟩ : ∃ cx, cx = d.getD m 0 := ⟨_, rfl⟩
          have HCX : Hid (∀ W, Below wr.heap.size wr W → Calls Tryz.prog 62 #[.agg #[.int .i64 1, .slice (some ⟨g, off, none⟩) N sc, .int .i64 hosts], .int .i64 (x : Int)] W fun e w' => ∃ g, e = .returned (.slice (some ⟨g, 0, none⟩) N N) ∧ W.heap.size ≤ g ∧ RowAt w' g d ∧ Below W.heap.size W w') := fun W hW => by
            have := HCO.out W x (HR4.out.bl.trans (hW.mono HR4.out.bl.size)) hlt2
            rw [hco] at this; exact this
          have HCM : Hid (∀ (W : World) (gc : Nat), RowAt W gc d → W.cell? ⟨gc, m, none⟩ = some (.int .i64 cx)) := fun W gc hr => by
            rw [hr.cell m hmd, hcx]; simp [List.getD, hmd]
          obtain ⟨bv, hbv⟩ : ∃ bv, bv = T x := ⟨_, rfl⟩
          have HBV := Lib.hid hbv
          have hbe : decide (cx < s2) = bv := by rw [hbv, HTT.out, hcx, HS2E.out, HSE.out]; show _ = decide _; rw [hdg]
          have HLT : Hid (∀ W, (binOp .lss 3 (.int .i64 cx) (.int .i64 s2)).run Tryz.prog W = .ok (.bool bv) W) := fun W => by rw [← hbe]; rfl
          have hmb : ((N : Int) ≤ (m : Int)) = False := by simp; omega
          have hmb2 : (N ≤ m) = False := by simp; omega
          have hxb : ((sw : Int) ≤ (x : Int)) = False := by simp; omega
          have hxb2 : (sw ≤ x) = False := by simp; omega
          clear hd hnd hdg hco hmd hcx hbv hbe
          go_wp2_with fail
          refine (wpIn_wide (n := 0)).1 ?_
          refine region_det (by kernel_rfl) (I := fun listed a' w' => ∃ gc : Nat, Hid (listed.getD 16 false = false → Below wr.heap.size wr w') ∧ Hid (listed.getD 16 false = true → ∃ V, Below wr.heap.size wr V ∧ w' = V.setCell ⟨w3.heap.size, x, none⟩ (Value.bool bv)) ∧ Hid (listed.getD 4 false = true → listed.getD 16 false = false → RowAt w' gc d) ∧ Hid (listed.getD 6 false = true → listed.getD 4 false = true ∧ listed.getD 5 false = true) ∧ Hid (listed.getD 16 false = true → listed.getD 0 false = true ∧ listed.getD 1 false = true ∧ listed.getD 2 false = true ∧ listed.getD 3 false = true ∧ listed.getD 4 false = true ∧ listed.getD 5 false = true ∧ listed.getD 6 false = true ∧ listed.getD 7 false = true ∧ listed.getD 8 false = true ∧ listed.getD 9 false = true ∧ listed.getD 10 false = true ∧ listed.getD 11 false = true ∧ listed.getD 12 false = true ∧ listed.getD 13 false = true ∧ listed.getD 14 false = true ∧ listed.getD 15 false = true) ∧ a' = ⟨#[Value.agg #[Value.int IntKind.i64 1, Value.slice (some (Addr.mk g off none)) N sc, Value.int IntKind.i64 hosts], Value.pointer (some (Addr.mk w.heap.size 0 none)), Value.slice none 0 0, Value.int IntKind.i64 0, Value.int IntKind.i64 0, u5, Value.int IntKind.i64 ↑m, Value.slice (some (Addr.mk w3.heap.size 0 none)) sw sw, Value.int IntKind.i64 ↑x, undef, undef, undef, undef, undef, undef, undef, Value.agg #[Value.int IntKind.i64 1, Value.slice (some (Addr.mk g off none)) N sc, Value.int IntKind.i64 hosts], Value.int IntKind.i64 0, Value.int IntKind.i64 0, Value.bool false, undef, Value.pointer (some (Addr.mk w.heap.size 0 none)), Value.int IntKind.i64 1, undef, undef, undef, undef, undef, undef, undef, undef, undef, undef, undef, undef, undef, undef, undef, undef, undef, undef, undef, undef, undef, undef, undef, undef, undef, undef, undef, undef, undef, undef, Value.bool true, Value.bool true, Value.int IntKind.i64 ↑m, Value.pointer (some (Addr.mk w.heap.size 1 none)), Value.slice (some (Addr.mk g off none)) N sc, Value.int IntKind.i64 ↑N, Value.bool true, u60, u61, Value.agg #[Value.int IntKind.i64 1, Value.slice (some (Addr.mk g off none)) N sc, Value.int IntKind.i64 hosts], Value.int IntKind.i64 ↑sw, Value.slice (some (Addr.mk w3.heap.size 0 none)) sw sw, Value.int IntKind.i64 ↑x, Value.slice (some (Addr.mk w3.heap.size 0 none)) sw sw, Value.int IntKind.i64 ↑sw, Value.bool true, u69, u70, (if listed.getD 0 false = true then Value.slice (some ⟨w3.heap.size, 0, none⟩) sw sw else u71), (if listed.getD 1 false = true then Value.int IntKind.i64 (x) else u72), (if listed.getD 2 false = true then Value.agg #[.int .i64 1, .slice (some ⟨g, off, none⟩) N sc, .int .i64 hosts] else u73), (if listed.getD 3 false = true then Value.int IntKind.i64 (x) else u74), (if listed.getD 4 false = true then Value.slice (some ⟨gc, 0, none⟩) N N else u75), (if listed.getD 5 false = true then Value.int IntKind.i64 (m) else u76), (if listed.getD 6 false = true then Value.pointer (some ⟨gc, m, none⟩) else u77), (if listed.getD 7 false = true then Value.int IntKind.i64 (cx) else u78), (if listed.getD 8 false = true then Value.pointer (some ⟨w.heap.size, 1, none⟩) else u79), (if listed.getD 9 false = true then Value.slice (some ⟨g, off, none⟩) N sc else u80), (if listed.getD 10 false = true then Value.int IntKind.i64 (m) else u81), (if listed.getD 11 false = true then Value.pointer (some ⟨g, off + m, none⟩) else u82), (if listed.getD 12 false = true then Value.int IntKind.i64 (s) else u83), (if listed.getD 13 false = true then Value.int IntKind.i64 (s2) else u84), (if listed.getD 14 false = true then Value.bool bv else u85), (if listed.getD 15 false = true then Value.pointer (some ⟨w3.heap.size, x, none⟩) else u86), u87, u88, u89, u90, undef, undef, undef, undef, undef, undef, undef, undef, undef, undef, undef, undef, undef, undef, undef, undef, undef, undef, undef, undef, undef, undef, undef, undef, undef, undef, undef, undef, undef, undef, undef, undef, undef, undef, undef, undef, undef, undef, undef, undef, undef, undef, undef, undef, undef, undef, undef, undef], []⟩) (hup_check (by kernel_rfl)) ?h0 ?step ?fin
          case h0 => exact ⟨0, (fun _ => (Below.refl _ _).drew), (fun h => by simp at h), (fun h => by simp at h), (fun h => by simp at h), (fun h => by simp at h), rfl⟩
          case step =>
            intro listed a' w' i hs hbi hdep hi ⟨gc, IB, IS, I4, J6, J16, ha⟩
            obtain ⟨ls⟩ := listed
            match ls, hs with
            | [x0, x1, x2, x3, x4, x5, x6, x7, x8, x9, x10, x11, x12, x13, x14, x15, x16], _ =>
            subst ha
            have hi' : i = 0 ∨ i = 1 ∨ i = 2 ∨ i = 3 ∨ i = 4 ∨ i = 5 ∨ i = 6 ∨ i = 7 ∨ i = 8 ∨ i = 9 ∨ i = 10 ∨ i = 11 ∨ i = 12 ∨ i = 13 ∨ i = 14 ∨ i = 15 ∨ i = 16 := by simp at hi; omega
            rcases hi' with rfl | rfl | rfl | rfl | rfl | rfl | rfl | rfl | rfl | rfl | rfl | rfl | rfl | rfl | rfl | rfl | rfl
            · obtain rfl : x0 = false := by simpa using hbi
              obtain rfl : x16 = false := Bool.eq_false_iff.2 fun h => by have := (J16.out h).1; cases this
              refine wpOpIn_plain rfl rfl rfl ?_
              exact ⟨gc, IB, IS, I4, J6, (fun h => ⟨rfl, (J16.out h).2.1, (J16.out h).2.2.1, (J16.out h).2.2.2.1, (J16.out h).2.2.2.2.1, (J16.out h).2.2.2.2.2.1, (J16.out h).2.2.2.2.2.2.1, (J16.out h).2.2.2.2.2.2.2.1, (J16.out h).2.2.2.2.2.2.2.2.1, (J16.out h).2.2.2.2.2.2.2.2.2.1, (J16.out h).2.2.2.2.2.2.2.2.2.2.1, (J16.out h).2.2.2.2.2.2.2.2.2.2.2.1, (J16.out h).2.2.2.2.2.2.2.2.2.2.2.2.1, (J16.out h).2.2.2.2.2.2.2.2.2.2.2.2.2.1, (J16.out h).2.2.2.2.2.2.2.2.2.2.2.2.2.2.1, (J16.out h).2.2.2.2.2.2.2.2.2.2.2.2.2.2.2⟩), rfl⟩
            · obtain rfl : x1 = false := by simpa using hbi
              obtain rfl : x16 = false := Bool.eq_false_iff.2 fun h => by have := (J16.out h).2.1; cases this
              refine wpOpIn_plain rfl rfl rfl ?_
              exact ⟨gc, IB, IS, I4, J6, (fun h => ⟨(J16.out h).1, rfl, (J16.out h).2.2.1, (J16.out h).2.2.2.1, (J16.out h).2.2.2.2.1, (J16.out h).2.2.2.2.2.1, (J16.out h).2.2.2.2.2.2.1, (J16.out h).2.2.2.2.2.2.2.1, (J16.out h).2.2.2.2.2.2.2.2.1, (J16.out h).2.2.2.2.2.2.2.2.2.1, (J16.out h).2.2.2.2.2.2.2.2.2.2.1, (J16.out h).2.2.2.2.2.2.2.2.2.2.2.1, (J16.out h).2.2.2.2.2.2.2.2.2.2.2.2.1, (J16.out h).2.2.2.2.2.2.2.2.2.2.2.2.2.1, (J16.out h).2.2.2.2.2.2.2.2.2.2.2.2.2.2.1, (J16.out h).2.2.2.2.2.2.2.2.2.2.2.2.2.2.2⟩), rfl⟩
            · obtain rfl : x2 = false := by simpa using hbi
              obtain rfl : x16 = false := Bool.eq_false_iff.2 fun h => by have := (J16.out h).2.2.1; cases this
              refine wpOpIn_load_row rfl rfl 34 _ rfl w.heap.size rfl 34 _ _ _ (heapB (IB.out rfl) HR4.out.q0) Tryz.underlying34 rfl info34 ?_
              exact ⟨gc, IB, IS, I4, J6, (fun h => ⟨(J16.out h).1, (J16.out h).2.1, rfl, (J16.out h).2.2.2.1, (J16.out h).2.2.2.2.1, (J16.out h).2.2.2.2.2.1, (J16.out h).2.2.2.2.2.2.1, (J16.out h).2.2.2.2.2.2.2.1, (J16.out h).2.2.2.2.2.2.2.2.1, (J16.out h).2.2.2.2.2.2.2.2.2.1, (J16.out h).2.2.2.2.2.2.2.2.2.2.1, (J16.out h).2.2.2.2.2.2.2.2.2.2.2.1, (J16.out h).2.2.2.2.2.2.2.2.2.2.2.2.1, (J16.out h).2.2.2.2.2.2.2.2.2.2.2.2.2.1, (J16.out h).2.2.2.2.2.2.2.2.2.2.2.2.2.2.1, (J16.out h).2.2.2.2.2.2.2.2.2.2.2.2.2.2.2⟩), rfl⟩
            · obtain rfl : x3 = false := by simpa using hbi
              obtain rfl : x16 = false := Bool.eq_false_iff.2 fun h => by have := (J16.out h).2.2.2.1; cases this
              refine wpOpIn_plain rfl rfl rfl ?_
              exact ⟨gc, IB, IS, I4, J6, (fun h => ⟨(J16.out h).1, (J16.out h).2.1, (J16.out h).2.2.1, rfl, (J16.out h).2.2.2.2.1, (J16.out h).2.2.2.2.2.1, (J16.out h).2.2.2.2.2.2.1, (J16.out h).2.2.2.2.2.2.2.1, (J16.out h).2.2.2.2.2.2.2.2.1, (J16.out h).2.2.2.2.2.2.2.2.2.1, (J16.out h).2.2.2.2.2.2.2.2.2.2.1, (J16.out h).2.2.2.2.2.2.2.2.2.2.2.1, (J16.out h).2.2.2.2.2.2.2.2.2.2.2.2.1, (J16.out h).2.2.2.2.2.2.2.2.2.2.2.2.2.1, (J16.out h).2.2.2.2.2.2.2.2.2.2.2.2.2.2.1, (J16.out h).2.2.2.2.2.2.2.2.2.2.2.2.2.2.2⟩), rfl⟩
            · obtain rfl : x4 = false := by simpa using hbi
              obtain rfl : x2 = true := hdep _ rfl ⟨2, .data⟩ (by simp) rfl
              obtain rfl : x3 = true := hdep _ rfl ⟨3, .data⟩ (by simp) rfl
              obtain rfl : x16 = false := Bool.eq_false_iff.2 fun h => by have := (J16.out h).2.2.2.2.1; cases this
              obtain rfl : x6 = false := Bool.eq_false_iff.2 fun h => by have := (J6.out h).1; cases this
              refine wpOpIn_call (args := #[Value.agg #[.int .i64 1, .slice (some ⟨g, off, none⟩) N sc, .int .i64 hosts], Value.int IntKind.i64 (x)]) rfl rfl (sem_call2 rfl rfl rfl (enters_of Tryz.func62 (by kernel_rfl) rfl)) (HCX.out w' (IB.out rfl)) ?_
              rintro e V ⟨gn, rfl, hge, hrow, hb⟩
              exact ⟨_, rfl, gn, (fun _ => (IB.out rfl).trans (hb.mono (IB.out rfl).size)), (fun h => by cases h), (fun _ _ => hrow), (fun h => ⟨rfl, (J6.out h).2⟩), (fun h => ⟨(J16.out h).1, (J16.out h).2.1, (J16.out h).2.2.1, (J16.out h).2.2.2.1, rfl, (J16.out h).2.2.2.2.2.1, (J16.out h).2.2.2.2.2.2.1, (J16.out h).2.2.2.2.2.2.2.1, (J16.out h).2.2.2.2.2.2.2.2.1, (J16.out h).2.2.2.2.2.2.2.2.2.1, (J16.out h).2.2.2.2.2.2.2.2.2.2.1, (J16.out h).2.2.2.2.2.2.2.2.2.2.2.1, (J16.out h).2.2.2.2.2.2.2.2.2.2.2.2.1, (J16.out h).2.2.2.2.2.2.2.2.2.2.2.2.2.1, (J16.out h).2.2.2.2.2.2.2.2.2.2.2.2.2.2.1, (J16.out h).2.2.2.2.2.2.2.2.2.2.2.2.2.2.2⟩), rfl⟩
            · obtain rfl : x5 = false := by simpa using hbi
              obtain rfl : x16 = false := Bool.eq_false_iff.2 fun h => by have := (J16.out h).2.2.2.2.2.1; cases this
              refine wpOpIn_plain rfl rfl rfl ?_
              exact ⟨gc, IB, IS, I4, (fun h => ⟨(J6.out h).1, rfl⟩), (fun h => ⟨(J16.out h).1, (J16.out h).2.1, (J16.out h).2.2.1, (J16.out h).2.2.2.1, (J16.out h).2.2.2.2.1, rfl, (J16.out h).2.2.2.2.2.2.1, (J16.out h).2.2.2.2.2.2.2.1, (J16.out h).2.2.2.2.2.2.2.2.1, (J16.out h).2.2.2.2.2.2.2.2.2.1, (J16.out h).2.2.2.2.2.2.2.2.2.2.1, (J16.out h).2.2.2.2.2.2.2.2.2.2.2.1, (J16.out h).2.2.2.2.2.2.2.2.2.2.2.2.1, (J16.out h).2.2.2.2.2.2.2.2.2.2.2.2.2.1, (J16.out h).2.2.2.2.2.2.2.2.2.2.2.2.2.2.1, (J16.out h).2.2.2.2.2.2.2.2.2.2.2.2.2.2.2⟩), rfl⟩
            · obtain rfl : x6 = false := by simpa using hbi
              obtain rfl : x4 = true := hdep _ rfl ⟨4, .data⟩ (by simp) rfl
              obtain rfl : x5 = true := hdep _ rfl ⟨5, .data⟩ (by simp) rfl
              obtain rfl : x16 = false := Bool.eq_false_iff.2 fun h => by have := (J16.out h).2.2.2.2.2.2.1; cases this
              refine wpOpIn_plain (v := Value.pointer (some ⟨gc, m, none⟩)) (w' := w') rfl rfl (by simp [Oper.semAt, execOp, go_sem, *]) ?_
              exact ⟨gc, IB, IS, I4, (fun _ => ⟨rfl, rfl⟩), (fun h => ⟨(J16.out h).1, (J16.out h).2.1, (J16.out h).2.2.1, (J16.out h).2.2.2.1, (J16.out h).2.2.2.2.1, (J16.out h).2.2.2.2.2.1, rfl, (J16.out h).2.2.2.2.2.2.2.1, (J16.out h).2.2.2.2.2.2.2.2.1, (J16.out h).2.2.2.2.2.2.2.2.2.1, (J16.out h).2.2.2.2.2.2.2.2.2.2.1, (J16.out h).2.2.2.2.2.2.2.2.2.2.2.1, (J16.out h).2.2.2.2.2.2.2.2.2.2.2.2.1, (J16.out h).2.2.2.2.2.2.2.2.2.2.2.2.2.1, (J16.out h).2.2.2.2.2.2.2.2.2.2.2.2.2.2.1, (J16.out h).2.2.2.2.2.2.2.2.2.2.2.2.2.2.2⟩), rfl⟩
            · obtain rfl : x7 = false := by simpa using hbi
              obtain rfl : x6 = true := hdep _ rfl ⟨6, .data⟩ (by simp) rfl
              obtain rfl : x16 = false := Bool.eq_false_iff.2 fun h => by have := (J16.out h).2.2.2.2.2.2.2.1; cases this
              obtain rfl : x4 = true := (J6.out rfl).1
              have k3 := HCM.out w' gc (I4.out rfl rfl)
              refine wpOpIn_plain (v := Value.int IntKind.i64 (cx)) (w' := w') rfl rfl (by simp [Oper.semAt, execOp, go_sem, *]) ?_
              exact ⟨gc, IB, IS, I4, J6, (fun h => ⟨(J16.out h).1, (J16.out h).2.1, (J16.out h).2.2.1, (J16.out h).2.2.2.1, (J16.out h).2.2.2.2.1, (J16.out h).2.2.2.2.2.1, (J16.out h).2.2.2.2.2.2.1, rfl, (J16.out h).2.2.2.2.2.2.2.2.1, (J16.out h).2.2.2.2.2.2.2.2.2.1, (J16.out h).2.2.2.2.2.2.2.2.2.2.1, (J16.out h).2.2.2.2.2.2.2.2.2.2.2.1, (J16.out h).2.2.2.2.2.2.2.2.2.2.2.2.1, (J16.out h).2.2.2.2.2.2.2.2.2.2.2.2.2.1, (J16.out h).2.2.2.2.2.2.2.2.2.2.2.2.2.2.1, (J16.out h).2.2.2.2.2.2.2.2.2.2.2.2.2.2.2⟩), rfl⟩
            · obtain rfl : x8 = false := by simpa using hbi
              obtain rfl : x16 = false := Bool.eq_false_iff.2 fun h => by have := (J16.out h).2.2.2.2.2.2.2.2.1; cases this
              refine wpOpIn_plain (v := Value.pointer (some ⟨w.heap.size, 1, none⟩)) (w' := w') rfl rfl (by simp [Oper.semAt, execOp, go_sem, *]) ?_
              exact ⟨gc, IB, IS, I4, J6, (fun h => ⟨(J16.out h).1, (J16.out h).2.1, (J16.out h).2.2.1, (J16.out h).2.2.2.1, (J16.out h).2.2.2.2.1, (J16.out h).2.2.2.2.2.1, (J16.out h).2.2.2.2.2.2.1, (J16.out h).2.2.2.2.2.2.2.1, rfl, (J16.out h).2.2.2.2.2.2.2.2.2.1, (J16.out h).2.2.2.2.2.2.2.2.2.2.1, (J16.out h).2.2.2.2.2.2.2.2.2.2.2.1, (J16.out h).2.2.2.2.2.2.2.2.2.2.2.2.1, (J16.out h).2.2.2.2.2.2.2.2.2.2.2.2.2.1, (J16.out h).2.2.2.2.2.2.2.2.2.2.2.2.2.2.1, (J16.out h).2.2.2.2.2.2.2.2.2.2.2.2.2.2.2⟩), rfl⟩
            · obtain rfl : x9 = false := by simpa using hbi
              obtain rfl : x8 = true := hdep _ rfl ⟨8, .data⟩ (by simp) rfl
              obtain rfl : x16 = false := Bool.eq_false_iff.2 fun h => by have := (J16.out h).2.2.2.2.2.2.2.2.2.1; cases this
              have k1 := kcell (IB.out rfl) (cellR 1 HR4.out.q0 rfl)
              refine wpOpIn_plain (v := Value.slice (some ⟨g, off, none⟩) N sc) (w' := w') rfl rfl (by simp [Oper.semAt, execOp, go_sem, *]) ?_
              exact ⟨gc, IB, IS, I4, J6, (fun h => ⟨(J16.out h).1, (J16.out h).2.1, (J16.out h).2.2.1, (J16.out h).2.2.2.1, (J16.out h).2.2.2.2.1, (J16.out h).2.2.2.2.2.1, (J16.out h).2.2.2.2.2.2.1, (J16.out h).2.2.2.2.2.2.2.1, (J16.out h).2.2.2.2.2.2.2.2.1, rfl, (J16.out h).2.2.2.2.2.2.2.2.2.2.1, (J16.out h).2.2.2.2.2.2.2.2.2.2.2.1, (J16.out h).2.2.2.2.2.2.2.2.2.2.2.2.1, (J16.out h).2.2.2.2.2.2.2.2.2.2.2.2.2.1, (J16.out h).2.2.2.2.2.2.2.2.2.2.2.2.2.2.1, (J16.out h).2.2.2.2.2.2.2.2.2.2.2.2.2.2.2⟩), rfl⟩
            · obtain rfl : x10 = false := by simpa using hbi
              obtain rfl : x16 = false := Bool.eq_false_iff.2 fun h => by have := (J16.out h).2.2.2.2.2.2.2.2.2.2.1; cases this
              refine wpOpIn_plain rfl rfl rfl ?_
              exact ⟨gc, IB, IS, I4, J6, (fun h => ⟨(J16.out h).1, (J16.out h).2.1, (J16.out h).2.2.1, (J16.out h).2.2.2.1, (J16.out h).2.2.2.2.1, (J16.out h).2.2.2.2.2.1, (J16.out h).2.2.2.2.2.2.1, (J16.out h).2.2.2.2.2.2.2.1, (J16.out h).2.2.2.2.2.2.2.2.1, (J16.out h).2.2.2.2.2.2.2.2.2.1, rfl, (J16.out h).2.2.2.2.2.2.2.2.2.2.2.1, (J16.out h).2.2.2.2.2.2.2.2.2.2.2.2.1, (J16.out h).2.2.2.2.2.2.2.2.2.2.2.2.2.1, (J16.out h).2.2.2.2.2.2.2.2.2.2.2.2.2.2.1, (J16.out h).2.2.2.2.2.2.2.2.2.2.2.2.2.2.2⟩), rfl⟩
            · obtain rfl : x11 = false := by simpa using hbi
              obtain rfl : x9 = true := hdep _ rfl ⟨9, .data⟩ (by simp) rfl
              obtain rfl : x10 = true := hdep _ rfl ⟨10, .data⟩ (by simp) rfl
              obtain rfl : x16 = false := Bool.eq_false_iff.2 fun h => by have := (J16.out h).2.2.2.2.2.2.2.2.2.2.2.1; cases this
              refine wpOpIn_plain (v := Value.pointer (some ⟨g, off + m, none⟩)) (w' := w') rfl rfl (by simp [Oper.semAt, execOp, go_sem, *]) ?_
              exact ⟨gc, IB, IS, I4, J6, (fun h => ⟨(J16.out h).1, (J16.out h).2.1, (J16.out h).2.2.1, (J16.out h).2.2.2.1, (J16.out h).2.2.2.2.1, (J16.out h).2.2.2.2.2.1, (J16.out h).2.2.2.2.2.2.1, (J16.out h).2.2.2.2.2.2.2.1, (J16.out h).2.2.2.2.2.2.2.2.1, (J16.out h).2.2.2.2.2.2.2.2.2.1, (J16.out h).2.2.2.2.2.2.2.2.2.2.1, rfl, (J16.out h).2.2.2.2.2.2.2.2.2.2.2.2.1, (J16.out h).2.2.2.2.2.2.2.2.2.2.2.2.2.1, (J16.out h).2.2.2.2.2.2.2.2.2.2.2.2.2.2.1, (J16.out h).2.2.2.2.2.2.2.2.2.2.2.2.2.2.2⟩), rfl⟩
            · obtain rfl : x12 = false := by simpa using hbi
              obtain rfl : x11 = true := hdep _ rfl ⟨11, .data⟩ (by simp) rfl
              obtain rfl : x16 = false := Bool.eq_false_iff.2 fun h => by have := (J16.out h).2.2.2.2.2.2.2.2.2.2.2.2.1; cases this
              have k3 := kcell (HR4.out.bl.trans ((IB.out rfl).mono HR4.out.bl.size)) HE0.out
              refine wpOpIn_plain (v := Value.int IntKind.i64 (s)) (w' := w') rfl rfl (by simp [Oper.semAt, execOp, go_sem, *]) ?_
              exact ⟨gc, IB, IS, I4, J6, (fun h => ⟨(J16.out h).1, (J16.out h).2.1, (J16.out h).2.2.1, (J16.out h).2.2.2.1, (J16.out h).2.2.2.2.1, (J16.out h).2.2.2.2.2.1, (J16.out h).2.2.2.2.2.2.1, (J16.out h).2.2.2.2.2.2.2.1, (J16.out h).2.2.2.2.2.2.2.2.1, (J16.out h).2.2.2.2.2.2.2.2.2.1, (J16.out h).2.2.2.2.2.2.2.2.2.2.1, (J16.out h).2.2.2.2.2.2.2.2.2.2.2.1, rfl, (J16.out h).2.2.2.2.2.2.2.2.2.2.2.2.2.1, (J16.out h).2.2.2.2.2.2.2.2.2.2.2.2.2.2.1, (J16.out h).2.2.2.2.2.2.2.2.2.2.2.2.2.2.2⟩), rfl⟩
            · obtain rfl : x13 = false := by simpa using hbi
              obtain rfl : x12 = true := hdep _ rfl ⟨12, .data⟩ (by simp) rfl
              obtain rfl : x16 = false := Bool.eq_false_iff.2 fun h => by have := (J16.out h).2.2.2.2.2.2.2.2.2.2.2.2.2.1; cases this
              refine wpOpIn_plain rfl rfl (sem_bin rfl rfl rfl rfl (HS2.out w')) ?_
              exact ⟨gc, IB, IS, I4, J6, (fun h => ⟨(J16.out h).1, (J16.out h).2.1, (J16.out h).2.2.1, (J16.out h).2.2.2.1, (J16.out h).2.2.2.2.1, (J16.out h).2.2.2.2.2.1, (J16.out h).2.2.2.2.2.2.1, (J16.out h).2.2.2.2.2.2.2.1, (J16.out h).2.2.2.2.2.2.2.2.1, (J16.out h).2.2.2.2.2.2.2.2.2.1, (J16.out h).2.2.2.2.2.2.2.2.2.2.1, (J16.out h).2.2.2.2.2.2.2.2.2.2.2.1, (J16.out h).2.2.2.2.2.2.2.2.2.2.2.2.1, rfl, (J16.out h).2.2.2.2.2.2.2.2.2.2.2.2.2.2.1, (J16.out h).2.2.2.2.2.2.2.2.2.2.2.2.2.2.2⟩), rfl⟩
            · obtain rfl : x14 = false := by simpa using hbi
              obtain rfl : x7 = true := hdep _ rfl ⟨7, .data⟩ (by simp) rfl
              obtain rfl : x13 = true := hdep _ rfl ⟨13, .data⟩ (by simp) rfl
              obtain rfl : x16 = false := Bool.eq_false_iff.2 fun h => by have := (J16.out h).2.2.2.2.2.2.2.2.2.2.2.2.2.2.1; cases this
              refine wpOpIn_plain rfl rfl (sem_bin rfl rfl rfl rfl (HLT.out w')) ?_
              exact ⟨gc, IB, IS, I4, J6, (fun h => ⟨(J16.out h).1, (J16.out h).2.1, (J16.out h).2.2.1, (J16.out h).2.2.2.1, (J16.out h).2.2.2.2.1, (J16.out h).2.2.2.2.2.1, (J16.out h).2.2.2.2.2.2.1, (J16.out h).2.2.2.2.2.2.2.1, (J16.out h).2.2.2.2.2.2.2.2.1, (J16.out h).2.2.2.2.2.2.2.2.2.1, (J16.out h).2.2.2.2.2.2.2.2.2.2.1, (J16.out h).2.2.2.2.2.2.2.2.2.2.2.1, (J16.out h).2.2.2.2.2.2.2.2.2.2.2.2.1, (J16.out h).2.2.2.2.2.2.2.2.2.2.2.2.2.1, rfl, (J16.out h).2.2.2.2.2.2.2.2.2.2.2.2.2.2.2⟩), rfl⟩
            · obtain rfl : x15 = false := by simpa using hbi
              obtain rfl : x0 = true := hdep _ rfl ⟨0, .data⟩ (by simp) rfl
              obtain rfl : x1 = true := hdep _ rfl ⟨1, .data⟩ (by simp) rfl
              obtain rfl : x16 = false := Bool.eq_false_iff.2 fun h => by have := (J16.out h).2.2.2.2.2.2.2.2.2.2.2.2.2.2.2; cases this
              refine wpOpIn_plain (v := Value.pointer (some ⟨w3.heap.size, x, none⟩)) (w' := w') rfl rfl (by simp [Oper.semAt, execOp, go_sem, *]) ?_
              exact ⟨gc, IB, IS, I4, J6, (fun h => ⟨(J16.out h).1, (J16.out h).2.1, (J16.out h).2.2.1, (J16.out h).2.2.2.1, (J16.out h).2.2.2.2.1, (J16.out h).2.2.2.2.2.1, (J16.out h).2.2.2.2.2.2.1, (J16.out h).2.2.2.2.2.2.2.1, (J16.out h).2.2.2.2.2.2.2.2.1, (J16.out h).2.2.2.2.2.2.2.2.2.1, (J16.out h).2.2.2.2.2.2.2.2.2.2.1, (J16.out h).2.2.2.2.2.2.2.2.2.2.2.1, (J16.out h).2.2.2.2.2.2.2.2.2.2.2.2.1, (J16.out h).2.2.2.2.2.2.2.2.2.2.2.2.2.1, (J16.out h).2.2.2.2.2.2.2.2.2.2.2.2.2.2.1, rfl⟩), rfl⟩
            · obtain rfl : x16 = false := by simpa using hbi
              obtain rfl : x15 = true := hdep _ rfl ⟨15, .data⟩ (by simp) rfl
              obtain rfl : x14 = true := hdep _ rfl ⟨14, .data⟩ (by simp) rfl
              obtain rfl : x0 = true := hdep _ rfl ⟨0, .phase⟩ (by simp) rfl
              obtain rfl : x1 = true := hdep _ rfl ⟨1, .phase⟩ (by simp) rfl
              obtain rfl : x2 = true := hdep _ rfl ⟨2, .phase⟩ (by simp) rfl
              obtain rfl : x3 = true := hdep _ rfl ⟨3, .phase⟩ (by simp) rfl
              obtain rfl : x4 = true := hdep _ rfl ⟨4, .phase⟩ (by simp) rfl
              obtain rfl : x5 = true := hdep _ rfl ⟨5, .phase⟩ (by simp) rfl
              obtain rfl : x6 = true := hdep _ rfl ⟨6, .phase⟩ (by simp) rfl
              obtain rfl : x7 = true := hdep _ rfl ⟨7, .phase⟩ (by simp) rfl
              obtain rfl : x8 = true := hdep _ rfl ⟨8, .phase⟩ (by simp) rfl
              obtain rfl : x9 = true := hdep _ rfl ⟨9, .phase⟩ (by simp) rfl
              obtain rfl : x10 = true := hdep _ rfl ⟨10, .phase⟩ (by simp) rfl
              obtain rfl : x11 = true := hdep _ rfl ⟨11, .phase⟩ (by simp) rfl
              obtain rfl : x12 = true := hdep _ rfl ⟨12, .phase⟩ (by simp) rfl
              obtain rfl : x13 = true := hdep _ rfl ⟨13, .phase⟩ (by simp) rfl
              have k5 : w'.heap[w3.heap.size]? = _ := heapB (IB.out rfl) HC.out.2
              have k6 := BAt.cell (show BAt w' w3.heap.size _ from k5) x (by rw [rowB_len _ _ _ (Nat.le_of_lt HXS.out)]; exact HXS.out)
              have k7 := BAt.open_ (show BAt w' w3.heap.size _ from k5) x
              refine wpOpIn_skip (w' := (w'.setCell ⟨w3.heap.size, x, none⟩ (Value.bool bv))) rfl rfl (by simp [Oper.semAt, execOp, go_sem, k6, k7]) ?_
              exact ⟨gc, (fun h => by cases h), (fun _ => ⟨w', IB.out rfl, rfl⟩), (fun _ h => by cases h), J6, (fun _ => ⟨rfl, rfl, rfl, rfl, rfl, rfl, rfl, rfl, rfl, rfl, rfl, rfl, rfl, rfl, rfl, rfl⟩), rfl⟩
          case fin =>
          intro listed a' Z hs hall ⟨gc, IB, IS, I4, J6, J16, ha⟩
          obtain ⟨ls⟩ := listed
          match ls, hs with
          | [x0, x1, x2, x3, x4, x5, x6, x7, x8, x9, x10, x11, x12, x13, x14, x15, x16], _ =>
          obtain rfl : x0 = true := hall 0 (by simp)
          obtain rfl : x1 = true := hall 1 (by simp)
          obtain rfl : x2 = true := hall 2 (by simp)
          obtain rfl : x3 = true := hall 3 (by simp)
          obtain rfl : x4 = true := hall 4 (by simp)
          obtain rfl : x5 = true := hall 5 (by simp)
          obtain rfl : x6 = true := hall 6 (by simp)
          obtain rfl : x7 = true := hall 7 (by simp)
          obtain rfl : x8 = true := hall 8 (by simp)
          obtain rfl : x9 = true := hall 9 (by simp)
          obtain rfl : x10 = true := hall 10 (by simp)
          obtain rfl : x11 = true := hall 11 (by simp)
          obtain rfl : x12 = true := hall 12 (by simp)
          obtain rfl : x13 = true := hall 13 (by simp)
          obtain rfl : x14 = true := hall 14 (by simp)
          obtain rfl : x15 = true := hall 15 (by simp)
          obtain rfl : x16 = true := hall 16 (by simp)
          subst ha
          obtain ⟨V, hV1, hV2⟩ := IS.out rfl
          have HC9 : Hid (Below w3.heap.size w3 Z ∧ BAt Z w3.heap.size (rowB T sw (x + 1))) := by
            rw [hV2, ← HST.out, ← HBV.out]
            exact ⟨(HC.out.1.trans (hV1.mono HC.out.1.size)).setCell (p := ⟨w3.heap.size, x, none⟩) (Nat.le_refl _) _, BAt.set (show BAt V w3.heap.size _ from heapB hV1 HC.out.2) x bv⟩
          clear IB IS I4 J6 J16 hs hall hV1 hV2 HC HR4
          dsimp only [Exit.then, Exit.inBlock]
          go_wp2_with fail
          go_roundw
          case rel => exact ⟨x + 1, HK1.out, by first | rw [HWI.out, HCS.out] | rw [HCS.out], HC9⟩
          case measure => first | exact HMO.out | exact HME.out
        · have hin : x = sw := by omega
          subst hin
          have d2 : decide ((x : Int) < (x : Int)) = false := decide_eq_false (by omega)
          have hTb := HC.out.2
          rw [rowB_full] at hTb
          obtain ⟨v', w4, hr, hr4⟩ := HR4.out.app T w3.heap.size hTb (by have := HSLN.out; simp; omega)
          have HRR := Lib.hid hr
          have HR5 : Hid (RB w.heap.size (w.heap.size + 1) x (.cells #[.int .i64 1, .slice (some ⟨g, off, none⟩) N sc, .int .i64 hosts] 34 (0, 0)) w v' (S.take (m + 1)) w4) := by
            have h1 : S.take m ++ [T] = S.take (m + 1) := by
              have := take_snoc (S := S) (m := m) (by rw [HSLN.out]; exact hlt)
              rw [HSAT.out m hlt] at this
              rw [HTT.out]; exact this
            show RB _ _ _ _ _ _ _ _
            rw [← h1]; exact hr4
          have HWI := Lib.hid (wrap_small ((m : Int) + 1) (by omega) (by omega))
          have HCS : Hid (((m : Int) + 1) = ((m + 1 : Nat) : Int)) := by show _ = _; rw [Int.natCast_add]; rfl
          have HME : Hid (N - (intOf (.int .i64 ((m : Int) + 1))).toNat < N - (intOf (.int .i64 (m : Int))).toNat) := by show _ < _; simp [intOf]; omega
          have HMO : Hid (N - (intOf (.int .i64 (wrap64 ((m : Int) + 1)))).toNat < N - (intOf (.int .i64 (m : Int))).toNat) := by show _ < _; rw [HWI.out]; exact HME.out
          have HK1 : Hid (m + 1 ≤ N) := hlt
          clear HC HR4 hr hr4 hTb hx hlt2 HRW
          go_wp2_with (at_builtin; refine Lib.wpList_append_run _ rfl (.tmp 87) (.tmp 89) 54 54 rfl _ _ rfl rfl _ _ HRR.out ?_)
          go_roundw
          case rel => exact ⟨m + 1, HK1.out, by first | rw [HWI.out, HCS.out] | rw [HCS.out], HR5⟩
          case measure => first | exact HMO.out | exact HME.out
    · have hin : m = N := by omega
      have d1 : decide ((m : Int) < (N : Int)) = false := decide_eq_false (by omega)
      have HF : Hid (RowsB wr u5 sw S ∧ Below w.heap.size w wr) := by
        have h1 := HR.out
        rw [hin, List.take_of_length_le (by rw [HSLN.out]; omega)] at h1
        obtain ⟨bs, k1, k2, k3⟩ := h1.ex
        exact ⟨rowsB_of k1 k2 k3, h1.bl⟩
      clear HR hin
      go_wp2_with fail
      go_ret2
      exact ⟨_, rfl, HF.out.1, HF.out.2⟩
end Go.Proofs.YtbhkenphcahifaaGreat
namespace Go.Proofs.YtbhkenphcahifaaGreat
open Go.RowKit Go.Shelf
attribute [local go_sem] Oper.semAt_some
set_option maxRecDepth 100000
set_option maxHeartbeats 4000000
/-- is a switch of a tree in a standard side -/
theorem rSub_any {w : World} {g o : Nat} (k lv : Nat) (hk : 1 ≤ k) (hk2 : k ≤ 16) (hlv : 1 ≤ lv) (hlv2 : lv ≤ 5) (ht : Two w g o k lv) (sc : Nat) (hosts : Int) (x level v : Nat) (hx : x ≤ 1000) (hl1 : 1 ≤ level) (hl2 : level ≤ 5) :
    Calls Tryz.prog 64 #[.agg #[.int .i64 2, .slice (some ⟨g, o, none⟩) 2 sc, .int .i64 hosts], .int .i64 (x : Int), .int .i64 (level : Int), .int .i64 (v : Int)] w fun e w' => e = .returned (.bool (decide (x / k ^ (lv - 1) < level) && (x % k ^ (lv - 1) / k ^ (level - 1) == v))) ∧ Below w.heap.size w w' := by
  have HB := Lib.hid ((Below.refl w.heap.size w).alloc (Nat.le_refl _) (.cells #[.int .i64 2, .slice (some ⟨g, o, none⟩) 2 sc, .int .i64 hosts] 34))
  have Q0 := Lib.hid (heap_alloc_new w (.cells #[.int .i64 2, .slice (some ⟨g, o, none⟩) 2 sc, .int .i64 hosts] 34))
  have HT := Lib.hid ht
  obtain ⟨ww, hww⟩ : ∃ ww, ww = k ^ (lv - 1) := ⟨_, rfl⟩
  have hw1 : 1 ≤ ww := by rw [hww]; first | exact Nat.pow_pos (by omega) | exact Nat.pos_pow_of_pos _ (by omega)
  have hwI : wordsI [(k : Int), (lv : Int)] = (ww : Int) := by rw [hww]; rfl
  have HWD : Hid (∀ W, Below w.heap.size w W → Calls Tryz.prog 95 #[.agg #[.int .i64 2, .slice (some ⟨g, o, none⟩) 2 sc, .int .i64 hosts]] W fun e w' => e = .returned (.int .i64 (ww : Int)) ∧ Below W.heap.size W w') := fun W hb => by
    have := rWords_any k lv hk2 hlv hlv2 (ht.keep hb) sc 2 hosts
    rwa [hwI] at this
  rw [← hww]
  obtain ⟨p, hp⟩ : ∃ p, p = k ^ (level - 1) := ⟨_, rfl⟩
  have hp1 : 1 ≤ p := by rw [hp]; first | exact Nat.pow_pos (by omega) | exact Nat.pos_pow_of_pos _ (by omega)
  have hpb : p ≤ 16 ^ 4 := by
    rw [hp]
    exact Nat.le_trans (Nat.pow_le_pow_left hk2 _) (Nat.pow_le_pow_right (by decide) (by omega))
  obtain ⟨lm, hlm⟩ : ∃ lm : Nat, lm = level - 1 := ⟨_, rfl⟩
  have HPW : Hid (∀ W, Calls Tryz.prog 63 #[.int .i64 (k : Int), .int .i64 (lm : Int)] W fun e w' => e = .returned (.int .i64 (p : Int)) ∧ W = w') := fun W => by
    have := rpower_any k lm hk2 (by omega) W
    rwa [hlm, ← hp, ← hlm] at this
  rw [← hp]
  obtain ⟨q, hq⟩ : ∃ q, q = x / ww := ⟨_, rfl⟩
  obtain ⟨r, hr⟩ : ∃ r, r = x % ww := ⟨_, rfl⟩
  obtain ⟨t, ht2⟩ : ∃ t, t = r / p := ⟨_, rfl⟩
  have HQ : Hid (∀ W, (binOp .quo 3 (.int .i64 (x : Int)) (.int .i64 (ww : Int))).run Tryz.prog W = .ok (.int .i64 (q : Int)) W) := fun W => by
    rw [hq, Int.natCast_ediv]; exact i64_quo (x : Int) (ww : Int) (by omega) (by omega) (by omega) W
  have HRM : Hid (∀ W, (binOp .rem 3 (.int .i64 (x : Int)) (.int .i64 (ww : Int))).run Tryz.prog W = .ok (.int .i64 (r : Int)) W) := fun W => by
    rw [hr, Int.natCast_emod]; exact i64_rem (x : Int) (ww : Int) (by omega) (by omega) W
  have hr9 : r ≤ 1000 := by rw [hr]; exact Nat.le_trans (Nat.mod_le _ _) hx
  have HTQ : Hid (∀ W, (binOp .quo 3 (.int .i64 (r : Int)) (.int .i64 (p : Int))).run Tryz.prog W = .ok (.int .i64 (t : Int)) W) := fun W => by
    rw [ht2, Int.natCast_ediv]; exact i64_quo (r : Int) (p : Int) (by omega) (by omega) (by omega) W
  have HSB : Hid (∀ W, (binOp .sub 3 (.int .i64 (level : Int)) (.int .i64 1)).run Tryz.prog W = .ok (.int .i64 (lm : Int)) W) := fun W => by
    have := i64_sub (level : Int) 1 (by omega) (by omega) W
    rwa [show (level : Int) - 1 = (lm : Int) by omega] at this
  rw [← hq, ← hr, ← ht2]
  clear ht hww hw1 hwI hp hp1 hpb hlm hq hr ht2 hr9 hx hl1 hl2
  go_enter Tryz.func64, Tryz.ntmps64
  go_wp2_with fail
  generalize w.alloc (.cells #[.int .i64 2, .slice (some ⟨g, o, none⟩) 2 sc, .int .i64 hosts] 34) = X at *
  by_cases hg : q < level
  · have hd0 : decide (q < level) = true := decide_eq_true hg
    have hd1 : decide ((q : Int) < (level : Int)) = true := decide_eq_true (by omega)
    refine (wpIn_wide (n := 0)).1 ?_
    refine region_det (by kernel_rfl) (I := fun listed a' w' => Hid (Below X.heap.size X w') ∧ a' = ⟨#[Value.agg #[Value.int IntKind.i64 2, Value.slice (some (Addr.mk g o none)) 2 sc, Value.int IntKind.i64 hosts], Value.int IntKind.i64 ↑x, Value.int IntKind.i64 ↑level, Value.int IntKind.i64 ↑v, Value.pointer (some (Addr.mk w.heap.size 0 none)), undef, undef, undef, (if listed.getD 22 false = true then Value.bool ((t : Int) == (v : Int)) else Value.bool false), (if listed.getD 0 false = true then Value.int IntKind.i64 (x : Int) else undef), (if listed.getD 1 false = true then Value.agg #[.int .i64 2, .slice (some ⟨g, o, none⟩) 2 sc, .int .i64 hosts] else undef), (if listed.getD 2 false = true then Value.int IntKind.i64 (ww : Int) else undef), (if listed.getD 3 false = true then Value.int IntKind.i64 (q : Int) else undef), (if listed.getD 4 false = true then Value.int IntKind.i64 (level : Int) else undef), (if listed.getD 5 false = true then Value.bool true else undef), (if listed.getD 6 false = true then Value.bool true else undef), (if listed.getD 7 false = true then Value.int IntKind.i64 (x : Int) else undef), (if listed.getD 8 false = true then Value.agg #[.int .i64 2, .slice (some ⟨g, o, none⟩) 2 sc, .int .i64 hosts] else undef), (if listed.getD 9 false = true then Value.int IntKind.i64 (ww : Int) else undef), (if listed.getD 10 false = true then Value.int IntKind.i64 (r : Int) else undef), (if listed.getD 11 false = true then Value.pointer (some ⟨w.heap.size, 1, none⟩) else undef), (if listed.getD 12 false = true then Value.slice (some ⟨g, o, none⟩) 2 sc else undef), (if listed.getD 13 false = true then Value.pointer (some ⟨g, o, none⟩) else undef), (if listed.getD 14 false = true then Value.int IntKind.i64 (k : Int) else undef), (if listed.getD 15 false = true then Value.int IntKind.i64 (level : Int) else undef), (if listed.getD 16 false = true then Value.int IntKind.i64 (lm : Int) else undef), (if listed.getD 17 false = true then Value.int IntKind.i64 (p : Int) else undef), (if listed.getD 18 false = true then Value.int IntKind.i64 (t : Int) else undef), (if listed.getD 19 false = true then Value.int IntKind.i64 (v : Int) else undef), (if listed.getD 20 false = true then Value.bool ((t : Int) == (v : Int)) else undef), (if listed.getD 21 false = true then Value.bool ((t : Int) == (v : Int)) else undef)], []⟩) (hup_check (by kernel_rfl)) ?h0 ?step ?fin
    case h0 => exact ⟨(Below.refl _ _).drew, rfl⟩
    case step =>
      intro listed a' w' i hs hbi hdep hi ⟨IB, ha⟩
      obtain ⟨ls⟩ := listed
      match ls, hs with
      | [x0, x1, x2, x3, x4, x5, x6, x7, x8, x9, x10, x11, x12, x13, x14, x15, x16, x17, x18, x19, x20, x21, x22], _ =>
      subst ha
      have hi' : i = 0 ∨ i = 1 ∨ i = 2 ∨ i = 3 ∨ i = 4 ∨ i = 5 ∨ i = 6 ∨ i = 7 ∨ i = 8 ∨ i = 9 ∨ i = 10 ∨ i = 11 ∨ i = 12 ∨ i = 13 ∨ i = 14 ∨ i = 15 ∨ i = 16 ∨ i = 17 ∨ i = 18 ∨ i = 19 ∨ i = 20 ∨ i = 21 ∨ i = 22 := by simp at hi; omega
      rcases hi' with rfl | rfl | rfl | rfl | rfl | rfl | rfl | rfl | rfl | rfl | rfl | rfl | rfl | rfl | rfl | rfl | rfl | rfl | rfl | rfl | rfl | rfl | rfl
      · obtain rfl : x0 = false := by simpa using hbi
        refine wpOpIn_plain rfl rfl rfl ?_
        exact ⟨IB, rfl⟩
      · obtain rfl : x1 = false := by simpa using hbi
        refine wpOpIn_load_row rfl rfl 34 _ rfl w.heap.size rfl 34 _ _ _ (heapB IB.out Q0.out) Tryz.underlying34 rfl info34 ?_
        exact ⟨IB, rfl⟩
      · obtain rfl : x2 = false := by simpa using hbi
        obtain rfl : x1 = true := hdep _ rfl ⟨1, .data⟩ (by simp) rfl
        refine wpOpIn_call (args := #[Value.agg #[.int .i64 2, .slice (some ⟨g, o, none⟩) 2 sc, .int .i64 hosts]]) rfl rfl (sem_call1 rfl rfl (enters_of Tryz.func95 (by kernel_rfl) rfl)) (HWD.out w' (HB.out.trans (IB.out.mono HB.out.size))) ?_
        rintro e V9 ⟨rfl, hb⟩
        exact ⟨_, rfl, (IB.out.trans (hb.mono IB.out.size)), rfl⟩
      · obtain rfl : x3 = false := by simpa using hbi
        obtain rfl : x0 = true := hdep _ rfl ⟨0, .data⟩ (by simp) rfl
        obtain rfl : x2 = true := hdep _ rfl ⟨2, .data⟩ (by simp) rfl
        refine wpOpIn_plain (v := Value.int IntKind.i64 (q : Int)) (w' := w') rfl rfl (sem_bin (vx := Value.int IntKind.i64 (x : Int)) (vy := Value.int IntKind.i64 (ww : Int)) rfl rfl rfl rfl (HQ.out w')) ?_
        exact ⟨IB, rfl⟩
      · obtain rfl : x4 = false := by simpa using hbi
        refine wpOpIn_plain rfl rfl rfl ?_
        exact ⟨IB, rfl⟩
      · obtain rfl : x5 = false := by simpa using hbi
        obtain rfl : x3 = true := hdep _ rfl ⟨3, .data⟩ (by simp) rfl
        obtain rfl : x4 = true := hdep _ rfl ⟨4, .data⟩ (by simp) rfl
        refine wpOpIn_plain (v := Value.bool true) (w' := w') rfl rfl (by simp [Oper.semAt, execOp, go_sem, *]) ?_
        exact ⟨IB, rfl⟩
      · obtain rfl : x6 = false := by simpa using hbi
        obtain rfl : x5 = true := hdep _ rfl ⟨5, .data⟩ (by simp) rfl
        refine wpOpIn_plain rfl rfl rfl ?_
        exact ⟨IB, rfl⟩
      · obtain rfl : x7 = false := by simpa using hbi
        obtain rfl : x6 = true := hdep _ rfl ⟨6, .guard⟩ (by simp) rfl
        refine wpOpIn_guard (v := Value.int IntKind.i64 (x : Int)) (w' := w') rfl rfl rfl (by simp [Oper.semAt, execOp, go_sem]) ?_
        exact ⟨IB, rfl⟩
      · obtain rfl : x8 = false := by simpa using hbi
        obtain rfl : x6 = true := hdep _ rfl ⟨6, .guard⟩ (by simp) rfl
        refine wpOpIn_rowg rfl rfl rfl 34 _ rfl w.heap.size rfl 34 _ _ _ (heapB IB.out Q0.out) Tryz.underlying34 rfl info34 ?_
        exact ⟨IB, rfl⟩
      · obtain rfl : x9 = false := by simpa using hbi
        obtain rfl : x8 = true := hdep _ rfl ⟨8, .data⟩ (by simp) rfl
        obtain rfl : x6 = true := hdep _ rfl ⟨6, .guard⟩ (by simp) rfl
        refine wpOpIn_callg (args := #[Value.agg #[.int .i64 2, .slice (some ⟨g, o, none⟩) 2 sc, .int .i64 hosts]]) rfl rfl rfl (sem_call1 rfl rfl (enters_of Tryz.func95 (by kernel_rfl) rfl)) (HWD.out w' (HB.out.trans (IB.out.mono HB.out.size))) ?_
        rintro e V9 ⟨rfl, hb⟩
        exact ⟨_, rfl, (IB.out.trans (hb.mono IB.out.size)), rfl⟩
      · obtain rfl : x10 = false := by simpa using hbi
        obtain rfl : x7 = true := hdep _ rfl ⟨7, .data⟩ (by simp) rfl
        obtain rfl : x9 = true := hdep _ rfl ⟨9, .data⟩ (by simp) rfl
        obtain rfl : x6 = true := hdep _ rfl ⟨6, .guard⟩ (by simp) rfl
        refine wpOpIn_guard (v := Value.int IntKind.i64 (r : Int)) (w' := w') rfl rfl rfl (sem_bin (vx := Value.int IntKind.i64 (x : Int)) (vy := Value.int IntKind.i64 (ww : Int)) rfl rfl rfl rfl (HRM.out w')) ?_
        exact ⟨IB, rfl⟩
      · obtain rfl : x11 = false := by simpa using hbi
        obtain rfl : x6 = true := hdep _ rfl ⟨6, .guard⟩ (by simp) rfl
        refine wpOpIn_guard (v := Value.pointer (some ⟨w.heap.size, 1, none⟩)) (w' := w') rfl rfl rfl (by simp [Oper.semAt, execOp, go_sem]) ?_
        exact ⟨IB, rfl⟩
      · obtain rfl : x12 = false := by simpa using hbi
        obtain rfl : x11 = true := hdep _ rfl ⟨11, .data⟩ (by simp) rfl
        obtain rfl : x6 = true := hdep _ rfl ⟨6, .guard⟩ (by simp) rfl
        have k1 := kcell IB.out (cellR 1 Q0.out rfl)
        refine wpOpIn_guard (v := Value.slice (some ⟨g, o, none⟩) 2 sc) (w' := w') rfl rfl rfl (by simp [Oper.semAt, execOp, go_sem, *]) ?_
        exact ⟨IB, rfl⟩
      · obtain rfl : x13 = false := by simpa using hbi
        obtain rfl : x12 = true := hdep _ rfl ⟨12, .data⟩ (by simp) rfl
        obtain rfl : x6 = true := hdep _ rfl ⟨6, .guard⟩ (by simp) rfl
        refine wpOpIn_guard (v := Value.pointer (some ⟨g, o, none⟩)) (w' := w') rfl rfl rfl (by simp [Oper.semAt, execOp, go_sem]) ?_
        exact ⟨IB, rfl⟩
      · obtain rfl : x14 = false := by simpa using hbi
        obtain rfl : x13 = true := hdep _ rfl ⟨13, .data⟩ (by simp) rfl
        obtain rfl : x6 = true := hdep _ rfl ⟨6, .guard⟩ (by simp) rfl
        have k2 := (HT.out.keep (HB.out.trans (IB.out.mono HB.out.size))).1
        refine wpOpIn_guard (v := Value.int IntKind.i64 (k : Int)) (w' := w') rfl rfl rfl (by simp [Oper.semAt, execOp, go_sem, *]) ?_
        exact ⟨IB, rfl⟩
      · obtain rfl : x15 = false := by simpa using hbi
        obtain rfl : x6 = true := hdep _ rfl ⟨6, .guard⟩ (by simp) rfl
        refine wpOpIn_guard (v := Value.int IntKind.i64 (level : Int)) (w' := w') rfl rfl rfl (by simp [Oper.semAt, execOp, go_sem]) ?_
        exact ⟨IB, rfl⟩
      · obtain rfl : x16 = false := by simpa using hbi
        obtain rfl : x15 = true := hdep _ rfl ⟨15, .data⟩ (by simp) rfl
        obtain rfl : x6 = true := hdep _ rfl ⟨6, .guard⟩ (by simp) rfl
        refine wpOpIn_guard (v := Value.int IntKind.i64 (lm : Int)) (w' := w') rfl rfl rfl (sem_bin (vx := Value.int IntKind.i64 (level : Int)) (vy := Value.int IntKind.i64 (1 : Int)) rfl rfl rfl rfl (HSB.out w')) ?_
        exact ⟨IB, rfl⟩
      · obtain rfl : x17 = false := by simpa using hbi
        obtain rfl : x14 = true := hdep _ rfl ⟨14, .data⟩ (by simp) rfl
        obtain rfl : x16 = true := hdep _ rfl ⟨16, .data⟩ (by simp) rfl
        obtain rfl : x6 = true := hdep _ rfl ⟨6, .guard⟩ (by simp) rfl
        refine wpOpIn_callg (args := #[Value.int IntKind.i64 (k : Int), Value.int IntKind.i64 (lm : Int)]) rfl rfl rfl (sem_call2 rfl rfl rfl (enters_of Tryz.func63 (by kernel_rfl) rfl)) (HPW.out w') ?_
        rintro e V9 ⟨rfl, rfl⟩
        exact ⟨_, rfl, IB, rfl⟩
      · obtain rfl : x18 = false := by simpa using hbi
        obtain rfl : x10 = true := hdep _ rfl ⟨10, .data⟩ (by simp) rfl
        obtain rfl : x17 = true := hdep _ rfl ⟨17, .data⟩ (by simp) rfl
        obtain rfl : x6 = true := hdep _ rfl ⟨6, .guard⟩ (by simp) rfl
        refine wpOpIn_guard (v := Value.int IntKind.i64 (t : Int)) (w' := w') rfl rfl rfl (sem_bin (vx := Value.int IntKind.i64 (r : Int)) (vy := Value.int IntKind.i64 (p : Int)) rfl rfl rfl rfl (HTQ.out w')) ?_
        exact ⟨IB, rfl⟩
      · obtain rfl : x19 = false := by simpa using hbi
        obtain rfl : x6 = true := hdep _ rfl ⟨6, .guard⟩ (by simp) rfl
        refine wpOpIn_guard (v := Value.int IntKind.i64 (v : Int)) (w' := w') rfl rfl rfl (by simp [Oper.semAt, execOp, go_sem]) ?_
        exact ⟨IB, rfl⟩
      · obtain rfl : x20 = false := by simpa using hbi
        obtain rfl : x18 = true := hdep _ rfl ⟨18, .data⟩ (by simp) rfl
        obtain rfl : x19 = true := hdep _ rfl ⟨19, .data⟩ (by simp) rfl
        obtain rfl : x6 = true := hdep _ rfl ⟨6, .guard⟩ (by simp) rfl
        refine wpOpIn_guard (v := Value.bool ((t : Int) == (v : Int))) (w' := w') rfl rfl rfl (sem_bin (vx := Value.int IntKind.i64 (t : Int)) (vy := Value.int IntKind.i64 (v : Int)) rfl rfl rfl rfl rfl) ?_
        exact ⟨IB, rfl⟩
      · obtain rfl : x21 = false := by simpa using hbi
        obtain rfl : x6 = true := hdep _ rfl ⟨6, .data⟩ (by simp) rfl
        obtain rfl : x20 = true := hdep _ rfl ⟨20, .data⟩ (by simp) rfl
        refine wpOpIn_plain (v := Value.bool ((t : Int) == (v : Int))) (w' := w') rfl rfl (by simp [Oper.semAt, execOp, go_sem]) ?_
        exact ⟨IB, rfl⟩
      · obtain rfl : x22 = false := by simpa using hbi
        obtain rfl : x21 = true := hdep _ rfl ⟨21, .data⟩ (by simp) rfl
        refine wpOpIn_plain rfl rfl rfl ?_
        exact ⟨IB, rfl⟩
    case fin =>
    intro listed a' w7 hs hall ⟨IB, ha⟩
    obtain ⟨ls⟩ := listed
    match ls, hs with
    | [x0, x1, x2, x3, x4, x5, x6, x7, x8, x9, x10, x11, x12, x13, x14, x15, x16, x17, x18, x19, x20, x21, x22], _ =>
    obtain rfl : x0 = true := hall 0 (by simp)
    obtain rfl : x1 = true := hall 1 (by simp)
    obtain rfl : x2 = true := hall 2 (by simp)
    obtain rfl : x3 = true := hall 3 (by simp)
    obtain rfl : x4 = true := hall 4 (by simp)
    obtain rfl : x5 = true := hall 5 (by simp)
    obtain rfl : x6 = true := hall 6 (by simp)
    obtain rfl : x7 = true := hall 7 (by simp)
    obtain rfl : x8 = true := hall 8 (by simp)
    obtain rfl : x9 = true := hall 9 (by simp)
    obtain rfl : x10 = true := hall 10 (by simp)
    obtain rfl : x11 = true := hall 11 (by simp)
    obtain rfl : x12 = true := hall 12 (by simp)
    obtain rfl : x13 = true := hall 13 (by simp)
    obtain rfl : x14 = true := hall 14 (by simp)
    obtain rfl : x15 = true := hall 15 (by simp)
    obtain rfl : x16 = true := hall 16 (by simp)
    obtain rfl : x17 = true := hall 17 (by simp)
    obtain rfl : x18 = true := hall 18 (by simp)
    obtain rfl : x19 = true := hall 19 (by simp)
    obtain rfl : x20 = true := hall 20 (by simp)
    obtain rfl : x21 = true := hall 21 (by simp)
    obtain rfl : x22 = true := hall 22 (by simp)
    subst ha
    clear hs hall
    dsimp only [Exit.then, Exit.inBlock]
    go_wp2_with fail
    go_ret
    exact ⟨by show Ending.returned (Value.bool _) = _; congr 2; (try rw [hd0, Bool.true_and]); rw [Bool.eq_iff_iff]; simp; omega, HB.out.trans (IB.out.mono HB.out.size)⟩
  · have hd0 : decide (q < level) = false := decide_eq_false hg
    have hd1 : decide ((q : Int) < (level : Int)) = false := decide_eq_false (by omega)
    refine (wpIn_wide (n := 0)).1 ?_
    refine region_det (by kernel_rfl) (I := fun listed a' w' => Hid (Below X.heap.size X w') ∧ a' = ⟨#[Value.agg #[Value.int IntKind.i64 2, Value.slice (some (Addr.mk g o none)) 2 sc, Value.int IntKind.i64 hosts], Value.int IntKind.i64 ↑x, Value.int IntKind.i64 ↑level, Value.int IntKind.i64 ↑v, Value.pointer (some (Addr.mk w.heap.size 0 none)), undef, undef, undef, (if listed.getD 22 false = true then Value.bool false else Value.bool false), (if listed.getD 0 false = true then Value.int IntKind.i64 (x : Int) else undef), (if listed.getD 1 false = true then Value.agg #[.int .i64 2, .slice (some ⟨g, o, none⟩) 2 sc, .int .i64 hosts] else undef), (if listed.getD 2 false = true then Value.int IntKind.i64 (ww : Int) else undef), (if listed.getD 3 false = true then Value.int IntKind.i64 (q : Int) else undef), (if listed.getD 4 false = true then Value.int IntKind.i64 (level : Int) else undef), (if listed.getD 5 false = true then Value.bool false else undef), (if listed.getD 6 false = true then Value.bool false else undef), (if listed.getD 7 false = true then undef else undef), (if listed.getD 8 false = true then undef else undef), (if listed.getD 9 false = true then undef else undef), (if listed.getD 10 false = true then undef else undef), (if listed.getD 11 false = true then undef else undef), (if listed.getD 12 false = true then undef else undef), (if listed.getD 13 false = true then undef else undef), (if listed.getD 14 false = true then undef else undef), (if listed.getD 15 false = true then undef else undef), (if listed.getD 16 false = true then undef else undef), (if listed.getD 17 false = true then undef else undef), (if listed.getD 18 false = true then undef else undef), (if listed.getD 19 false = true then undef else undef), (if listed.getD 20 false = true then undef else undef), (if listed.getD 21 false = true then Value.bool false else undef)], []⟩) (hup_check (by kernel_rfl)) ?h0 ?step ?fin
    case h0 => exact ⟨(Below.refl _ _).drew, rfl⟩
    case step =>
      intro listed a' w' i hs hbi hdep hi ⟨IB, ha⟩
      obtain ⟨ls⟩ := listed
      match ls, hs with
      | [x0, x1, x2, x3, x4, x5, x6, x7, x8, x9, x10, x11, x12, x13, x14, x15, x16, x17, x18, x19, x20, x21, x22], _ =>
      subst ha
      have hi' : i = 0 ∨ i = 1 ∨ i = 2 ∨ i = 3 ∨ i = 4 ∨ i = 5 ∨ i = 6 ∨ i = 7 ∨ i = 8 ∨ i = 9 ∨ i = 10 ∨ i = 11 ∨ i = 12 ∨ i = 13 ∨ i = 14 ∨ i = 15 ∨ i = 16 ∨ i = 17 ∨ i = 18 ∨ i = 19 ∨ i = 20 ∨ i = 21 ∨ i = 22 := by simp at hi; omega
      rcases hi' with rfl | rfl | rfl | rfl | rfl | rfl | rfl | rfl | rfl | rfl | rfl | rfl | rfl | rfl | rfl | rfl | rfl | rfl | rfl | rfl | rfl | rfl | rfl
      · obtain rfl : x0 = false := by simpa using hbi
        refine wpOpIn_plain rfl rfl rfl ?_
        exact ⟨IB, rfl⟩
      · obtain rfl : x1 = false := by simpa using hbi
        refine wpOpIn_load_row rfl rfl 34 _ rfl w.heap.size rfl 34 _ _ _ (heapB IB.out Q0.out) Tryz.underlying34 rfl info34 ?_
        exact ⟨IB, rfl⟩
      · obtain rfl : x2 = false := by simpa using hbi
        obtain rfl : x1 = true := hdep _ rfl ⟨1, .data⟩ (by simp) rfl
        refine wpOpIn_call (args := #[Value.agg #[.int .i64 2, .slice (some ⟨g, o, none⟩) 2 sc, .int .i64 hosts]]) rfl rfl (sem_call1 rfl rfl (enters_of Tryz.func95 (by kernel_rfl) rfl)) (HWD.out w' (HB.out.trans (IB.out.mono HB.out.size))) ?_
        rintro e V9 ⟨rfl, hb⟩
        exact ⟨_, rfl, (IB.out.trans (hb.mono IB.out.size)), rfl⟩
      · obtain rfl : x3 = false := by simpa using hbi
        obtain rfl : x0 = true := hdep _ rfl ⟨0, .data⟩ (by simp) rfl
        obtain rfl : x2 = true := hdep _ rfl ⟨2, .data⟩ (by simp) rfl
        refine wpOpIn_plain (v := Value.int IntKind.i64 (q : Int)) (w' := w') rfl rfl (sem_bin (vx := Value.int IntKind.i64 (x : Int)) (vy := Value.int IntKind.i64 (ww : Int)) rfl rfl rfl rfl (HQ.out w')) ?_
        exact ⟨IB, rfl⟩
      · obtain rfl : x4 = false := by simpa using hbi
        refine wpOpIn_plain rfl rfl rfl ?_
        exact ⟨IB, rfl⟩
      · obtain rfl : x5 = false := by simpa using hbi
        obtain rfl : x3 = true := hdep _ rfl ⟨3, .data⟩ (by simp) rfl
        obtain rfl : x4 = true := hdep _ rfl ⟨4, .data⟩ (by simp) rfl
        refine wpOpIn_plain (v := Value.bool false) (w' := w') rfl rfl (by simp [Oper.semAt, execOp, go_sem, *]) ?_
        exact ⟨IB, rfl⟩
      · obtain rfl : x6 = false := by simpa using hbi
        obtain rfl : x5 = true := hdep _ rfl ⟨5, .data⟩ (by simp) rfl
        refine wpOpIn_plain rfl rfl rfl ?_
        exact ⟨IB, rfl⟩
      · obtain rfl : x7 = false := by simpa using hbi
        obtain rfl : x6 = true := hdep _ rfl ⟨6, .guard⟩ (by simp) rfl
        refine wpOpIn_off rfl rfl rfl ?_
        exact ⟨IB, rfl⟩
      · obtain rfl : x8 = false := by simpa using hbi
        obtain rfl : x6 = true := hdep _ rfl ⟨6, .guard⟩ (by simp) rfl
        refine wpOpIn_off rfl rfl rfl ?_
        exact ⟨IB, rfl⟩
      · obtain rfl : x9 = false := by simpa using hbi
        obtain rfl : x6 = true := hdep _ rfl ⟨6, .guard⟩ (by simp) rfl
        refine wpOpIn_off rfl rfl rfl ?_
        exact ⟨IB, rfl⟩
      · obtain rfl : x10 = false := by simpa using hbi
        obtain rfl : x6 = true := hdep _ rfl ⟨6, .guard⟩ (by simp) rfl
        refine wpOpIn_off rfl rfl rfl ?_
        exact ⟨IB, rfl⟩
      · obtain rfl : x11 = false := by simpa using hbi
        obtain rfl : x6 = true := hdep _ rfl ⟨6, .guard⟩ (by simp) rfl
        refine wpOpIn_off rfl rfl rfl ?_
        exact ⟨IB, rfl⟩
      · obtain rfl : x12 = false := by simpa using hbi
        obtain rfl : x6 = true := hdep _ rfl ⟨6, .guard⟩ (by simp) rfl
        refine wpOpIn_off rfl rfl rfl ?_
        exact ⟨IB, rfl⟩
      · obtain rfl : x13 = false := by simpa using hbi
        obtain rfl : x6 = true := hdep _ rfl ⟨6, .guard⟩ (by simp) rfl
        refine wpOpIn_off rfl rfl rfl ?_
        exact ⟨IB, rfl⟩
      · obtain rfl : x14 = false := by simpa using hbi
        obtain rfl : x6 = true := hdep _ rfl ⟨6, .guard⟩ (by simp) rfl
        refine wpOpIn_off rfl rfl rfl ?_
        exact ⟨IB, rfl⟩
      · obtain rfl : x15 = false := by simpa using hbi
        obtain rfl : x6 = true := hdep _ rfl ⟨6, .guard⟩ (by simp) rfl
        refine wpOpIn_off rfl rfl rfl ?_
        exact ⟨IB, rfl⟩
      · obtain rfl : x16 = false := by simpa using hbi
        obtain rfl : x6 = true := hdep _ rfl ⟨6, .guard⟩ (by simp) rfl
        refine wpOpIn_off rfl rfl rfl ?_
        exact ⟨IB, rfl⟩
      · obtain rfl : x17 = false := by simpa using hbi
        obtain rfl : x6 = true := hdep _ rfl ⟨6, .guard⟩ (by simp) rfl
        refine wpOpIn_off rfl rfl rfl ?_
        exact ⟨IB, rfl⟩
      · obtain rfl : x18 = false := by simpa using hbi
        obtain rfl : x6 = true := hdep _ rfl ⟨6, .guard⟩ (by simp) rfl
        refine wpOpIn_off rfl rfl rfl ?_
        exact ⟨IB, rfl⟩
      · obtain rfl : x19 = false := by simpa using hbi
        obtain rfl : x6 = true := hdep _ rfl ⟨6, .guard⟩ (by simp) rfl
        refine wpOpIn_off rfl rfl rfl ?_
        exact ⟨IB, rfl⟩
      · obtain rfl : x20 = false := by simpa using hbi
        obtain rfl : x6 = true := hdep _ rfl ⟨6, .guard⟩ (by simp) rfl
        refine wpOpIn_off rfl rfl rfl ?_
        exact ⟨IB, rfl⟩
      · obtain rfl : x21 = false := by simpa using hbi
        obtain rfl : x6 = true := hdep _ rfl ⟨6, .data⟩ (by simp) rfl
        obtain rfl : x20 = true := hdep _ rfl ⟨20, .data⟩ (by simp) rfl
        refine wpOpIn_plain (v := Value.bool false) (w' := w') rfl rfl (by simp [Oper.semAt, execOp, go_sem]) ?_
        exact ⟨IB, rfl⟩
      · obtain rfl : x22 = false := by simpa using hbi
        obtain rfl : x21 = true := hdep _ rfl ⟨21, .data⟩ (by simp) rfl
        refine wpOpIn_plain rfl rfl rfl ?_
        exact ⟨IB, rfl⟩
    case fin =>
    intro listed a' w7 hs hall ⟨IB, ha⟩
    obtain ⟨ls⟩ := listed
    match ls, hs with
    | [x0, x1, x2, x3, x4, x5, x6, x7, x8, x9, x10, x11, x12, x13, x14, x15, x16, x17, x18, x19, x20, x21, x22], _ =>
    obtain rfl : x0 = true := hall 0 (by simp)
    obtain rfl : x1 = true := hall 1 (by simp)
    obtain rfl : x2 = true := hall 2 (by simp)
    obtain rfl : x3 = true := hall 3 (by simp)
    obtain rfl : x4 = true := hall 4 (by simp)
    obtain rfl : x5 = true := hall 5 (by simp)
    obtain rfl : x6 = true := hall 6 (by simp)
    obtain rfl : x7 = true := hall 7 (by simp)
    obtain rfl : x8 = true := hall 8 (by simp)
    obtain rfl : x9 = true := hall 9 (by simp)
    obtain rfl : x10 = true := hall 10 (by simp)
    obtain rfl : x11 = true := hall 11 (by simp)
    obtain rfl : x12 = true := hall 12 (by simp)
    obtain rfl : x13 = true := hall 13 (by simp)
    obtain rfl : x14 = true := hall 14 (by simp)
    obtain rfl : x15 = true := hall 15 (by simp)
    obtain rfl : x16 = true := hall 16 (by simp)
    obtain rfl : x17 = true := hall 17 (by simp)
    obtain rfl : x18 = true := hall 18 (by simp)
    obtain rfl : x19 = true := hall 19 (by simp)
    obtain rfl : x20 = true := hall 20 (by simp)
    obtain rfl : x21 = true := hall 21 (by simp)
    obtain rfl : x22 = true := hall 22 (by simp)
    subst ha
    clear hs hall
    dsimp only [Exit.then, Exit.inBlock]
    go_wp2_with fail
    go_ret
    exact ⟨by first | rfl | (rw [hd0]; rfl), HB.out.trans (IB.out.mono HB.out.size)⟩
end Go.Proofs.YtbhkenphcahifaaGreat
namespace Go.Proofs.YtbhkenphcahifaaGreat
open Go.RowKit Go.Shelf
attribute [local go_sem] Oper.semAt_some
set_option maxRecDepth 100000
set_option maxHeartbeats 4000000
/-- the standard sides of a tree, as far as the level j and u of its sides -/
def lvS (k lv j u : Nat) : List (Nat → Bool) := stdTn k lv j ++ (List.range u).map fun v => lvlT k lv j v
theorem lvS_zero (k lv j : Nat) : lvS k lv j 0 = stdTn k lv j := by simp [lvS]
theorem lvS_succ (k lv j u : Nat) : lvS k lv j (u + 1) = lvS k lv j u ++ [lvlT k lv j u] := by simp [lvS, List.range_succ]
theorem lvS_full (k lv j : Nat) : lvS k lv j (k ^ (j + 1)) = stdTn k lv (j + 1) := by rw [lvS, stdTn]
theorem stdTn_le (k lv : Nat) : ∀ {i j}, i ≤ j → (stdTn k lv i).length ≤ (stdTn k lv j).length := by
  intro i j h
  induction j with
  | zero => obtain rfl : i = 0 := by omega
            exact Nat.le_refl _
  | succ j ih =>
    by_cases hi : i = j + 1
    · subst hi; exact Nat.le_refl _
    · exact Nat.le_trans (ih (by omega)) (by rw [stdTn, List.length_append]; omega)
/-- the reference's Sides, in a tree -/
theorem rSides2_ok {w : World} {g o : Nat} {k lv sw : Nat} (hk : 2 ≤ k) (hk2 : k ≤ 16) (hlv : 1 ≤ lv) (hlv2 : lv ≤ 4) (ht : Two w g o k lv) (hsw : lv * k ^ (lv - 1) = sw) (hsl : sw ≤ 1000) (hSl : (stdT k lv).length ≤ 2000) (sc : Nat) (hosts : Int) (hv : vOk 2 [(k : Int), (lv : Int)] hosts) :
    Calls Tryz.prog 25 #[.agg #[.int .i64 2, .slice (some ⟨g, o, none⟩) 2 sc, .int .i64 hosts]] w fun e w' => ∃ v, e = .returned (.tuple #[v, .int .i64 0]) ∧ RowsB w' v sw (stdT k lv) ∧ Below w.heap.size w w' := by
  have HIN : Ints w (some ⟨g, o, none⟩) [(k : Int), (lv : Int)] := ⟨by simp, fun _ => ⟨g, o, rfl, fun j hj => by
    have hj : j = 0 ∨ j = 1 := by simp at hj; omega
    rcases hj with rfl | rfl
    · exact ht.1
    · exact ht.2⟩⟩
  have HCK : Hid (∀ W, Below w.heap.size w W → Calls Tryz.prog 50 #[.agg #[.int .i64 2, .slice (some ⟨g, o, none⟩) 2 sc, .int .i64 hosts]] W fun e w' => e = .returned (.int .i64 0) ∧ Below W.heap.size W w') := fun W hW => by
    have := rCheck_any (HIN.keep hW) sc 2 hosts
    rwa [show errI 2 [(k : Int), (lv : Int)] hosts = 0 from if_pos hv] at this
  have HSW : Hid (∀ W, Below w.heap.size w W → Calls Tryz.prog 51 #[.agg #[.int .i64 2, .slice (some ⟨g, o, none⟩) 2 sc, .int .i64 hosts]] W fun e w' => e = .returned (.int .i64 (sw : Int)) ∧ Below W.heap.size W w') := fun W hb => by
    have := rSw2_any k lv hk2 hlv (by omega) (ht.keep hb) sc hosts
    rwa [show ((lv : Int) * wordsI [(k : Int), (lv : Int)]) = (sw : Int) by rw [← hsw, Int.natCast_mul]; rfl] at this
  have HSB : Hid (∀ W, Below w.heap.size w W → ∀ x level v : Nat, x < sw → 1 ≤ level → level < lv → Calls Tryz.prog 64 #[.agg #[.int .i64 2, .slice (some ⟨g, o, none⟩) 2 sc, .int .i64 hosts], .int .i64 (x : Int), .int .i64 (level : Int), .int .i64 (v : Int)] W fun e w' => e = .returned (.bool (decide (x / k ^ (lv - 1) < level) && (x % k ^ (lv - 1) / k ^ (level - 1) == v))) ∧ Below W.heap.size W w') := fun W hb x level v h1 h2 h3 => rSub_any k lv (by omega) hk2 hlv (by omega) (ht.keep hb) sc hosts x level v (by omega) h2 (by omega)
  have HPW : Hid (∀ e : Nat, e ≤ 5 → Hid (∀ W, Calls Tryz.prog 63 #[.int .i64 (k : Int), .int .i64 (e : Int)] W fun r w' => r = .returned (.int .i64 ((k ^ e : Nat) : Int)) ∧ W = w')) := fun e he W => rpower_any k e hk2 he W
  have HT := Lib.hid ht
  have HSL := Lib.hid hsl
  have HLB : Hid (∀ j u, j < lv - 1 → u ≤ k ^ (j + 1) → (lvS k lv j u).length ≤ 2000) := fun j u hj hu => by
    have h1 := stdTn_le k lv (show j + 1 ≤ lv - 1 by omega)
    have h2 : (stdTn k lv (j + 1)).length = (stdTn k lv j).length + k ^ (j + 1) := by simp [stdTn]
    have h3 : (stdTn k lv (lv - 1)).length ≤ 2000 := hSl
    simp [lvS]; omega
  have HPB : Hid (∀ j, j ≤ 5 → k ^ j ≤ 16 ^ 5) := fun j hj => Nat.le_trans (Nat.pow_le_pow_left hk2 _) (Nat.pow_le_pow_right (by decide) hj)
  have HB := Lib.hid ((Below.refl w.heap.size w).alloc (Nat.le_refl _) (.cells #[.int .i64 2, .slice (some ⟨g, o, none⟩) 2 sc, .int .i64 hosts] 34))
  have Q0 := Lib.hid (heap_alloc_new w (.cells #[.int .i64 2, .slice (some ⟨g, o, none⟩) 2 sc, .int .i64 hosts] 34))
  have HZ : Hid ((w.alloc (.cells #[.int .i64 2, .slice (some ⟨g, o, none⟩) 2 sc, .int .i64 hosts] 34)).heap.size = w.heap.size + 1) := by show _ = _; simp
  have c0 := cellR 0 Q0.out rfl
  have c1 := cellR 1 Q0.out rfl
  have c2 := cellR 2 Q0.out rfl
  have k1 := (HT.out.keep HB.out).2
  have hw1 : wrap64 ((lv : Int) - 1) = (lv : Int) - 1 := wrap_small _ (by omega) (by omega)
  clear ht hsw hsl hv HIN hSl
  go_enter Tryz.func25, Tryz.ntmps25
  go_wp2_with fail
  generalize w.alloc (.cells #[.int .i64 2, .slice (some ⟨g, o, none⟩) 2 sc, .int .i64 hosts] 34) = X at *
  refine (HCK.out _ HB.out).mono ?_
  rintro e w1 ⟨rfl, hb1⟩
  replace Q0 := Lib.hid (heapB hb1 Q0.out)
  replace HB := Lib.hid (HB.out.trans (hb1.mono HB.out.size))
  have HR0 : Hid (RB w.heap.size (w.heap.size + 1) sw (.cells #[.int .i64 2, .slice (some ⟨g, o, none⟩) 2 sc, .int .i64 hosts] 34 (0, 0)) w (.slice none 0 0) (stdTn k lv (lv - 1 - (lv - 1))) w1) := by
    show RB _ _ _ _ _ _ _ _
    rw [Nat.sub_self]
    exact RB.nil Q0.out HB.out (by have := HZ.out; have := hb1.size; omega) ⟨rfl, Nat.lt_succ_self _⟩
  clear hb1 c0 c1 c2 k1 HCK HZ
  have c0 := cellR 0 Q0.out rfl
  have c1 := cellR 1 Q0.out rfl
  have c2 := cellR 2 Q0.out rfl
  have k1 := (HT.out.keep HB.out).2
  go_wp2_with fail
  clear c0 c1 c2 k1 Q0 HB hw1
  go_loopw [5, 9] (fun ov gv wr => ∃ lev : Nat, lev ≤ lv - 1 ∧ gv = .int .i64 (lev : Int) ∧ Hid (RB w.heap.size (w.heap.size + 1) sw (.cells #[.int .i64 2, .slice (some ⟨g, o, none⟩) 2 sc, .int .i64 hosts] 34 (0, 0)) w ov (stdTn k lv (lv - 1 - lev)) wr)) (fun _ gv _ => (intOf gv).toNat)
  case atStart => exact ⟨lv - 1, Nat.le_refl _, by first | rfl | (congr 1; omega), HR0⟩
  case round =>
    clear HR0
    obtain ⟨lev, hm, rfl, HR⟩ := hrel
    by_cases hlt : 1 ≤ lev
    · have d1 : decide ((lev : Int) ≥ 1) = true := decide_eq_true (by omega)
      have d1b : decide (1 ≤ (lev : Int)) = true := decide_eq_true (by omega)
      obtain ⟨j, hj⟩ : ∃ j, j = lv - 1 - lev := ⟨_, rfl⟩
      have HWS := Lib.hid (wrap_small ((lv : Int) - (lev : Int)) (by omega) (by omega))
      rw [← hj, ← lvS_zero] at HR
      have HJ : Hid (j < lv - 1 ∧ lv - 1 - j = lev ∧ lv - 1 - (lev - 1) = j + 1) := ⟨by omega, by omega, by omega⟩
      have W3 := HPW.out (j + 1) (by omega)
      have hpb := HPB.out (j + 1) (by omega)
      obtain ⟨PW, hpw⟩ : ∃ PW, PW = k ^ (j + 1) := ⟨_, rfl⟩
      have HPE := Lib.hid hpw
      rw [← hpw, show ((j + 1 : Nat) : Int) = (lv : Int) - (lev : Int) by omega] at W3
      rw [← hpw] at hpb
      have HS3 := same_of (fun W => W3.out W)
      have HPB2 := Lib.hid hpb
      clear hj hpw W3 hpb
      obtain ⟨wo, rfl⟩ : ∃ wo, wo = wr := ⟨_, rfl⟩
      go_wp2_with fail
      go_loopw [5, 10] (fun ov uv wr => ∃ u : Nat, u ≤ PW ∧ uv = .int .i64 (u : Int) ∧ Hid (RB w.heap.size (w.heap.size + 1) sw (.cells #[.int .i64 2, .slice (some ⟨g, o, none⟩) 2 sc, .int .i64 hosts] 34 (0, 0)) w ov (lvS k lv j u) wr)) (fun _ uv _ => PW - (intOf uv).toNat)
      case atStart => exact ⟨0, Nat.zero_le _, rfl, HR⟩
      case round =>
        clear HR
        obtain ⟨u, hu, rfl, HR⟩ := hrel
        have c0 := cellR 0 HR.out.q0 rfl
        have c1 := cellR 1 HR.out.q0 rfl
        have c2 := cellR 2 HR.out.q0 rfl
        obtain ⟨e0, e1⟩ := HT.out.keep HR.out.bl
        have hws := HWS.out
        go_wp2_with fail
        go_quiet (first | (go_at_call 63; refine Calls.quiet_of_same (HS3.out _)))
        clear hws
        replace HR : Hid (RB w.heap.size (w.heap.size + 1) sw (.cells #[.int .i64 2, .slice (some ⟨g, o, none⟩) 2 sc, .int .i64 hosts] 34 (0, 0)) w u5 (lvS k lv j u) (wr.drewN nq)) := HR.out.keep (below_drewN (Below.refl _ _) _)
        clear c0 c1 c2 e0 e1
        generalize wr.drewN nq = W1 at *
        have hpb := HPB2.out
        by_cases hul : u < PW
        · have d3 : decide ((u : Int) < (PW : Int)) = true := decide_eq_true (by omega)
          have c0 := cellR 0 HR.out.q0 rfl
          have c1 := cellR 1 HR.out.q0 rfl
          have c2 := cellR 2 HR.out.q0 rfl
          have HWIu := Lib.hid (wrap_small ((u : Int) + 1) (by omega) (by omega))
          have HCSu : Hid (((u : Int) + 1) = ((u + 1 : Nat) : Int)) := by show _ = _; rw [Int.natCast_add]; rfl
          have HMEu : Hid (PW - (intOf (.int .i64 ((u : Int) + 1))).toNat < PW - (intOf (.int .i64 (u : Int))).toNat) := by show _ < _; simp [intOf]; omega
          have HMOu : Hid (PW - (intOf (.int .i64 (wrap64 ((u : Int) + 1)))).toNat < PW - (intOf (.int .i64 (u : Int))).toNat) := by show _ < _; rw [HWIu.out]; exact HMEu.out
          have HKu : Hid (u + 1 ≤ PW) := by show _ ≤ _; omega
          clear hpb
          go_wp2_with fail
          refine (HSW.out _ HR.out.bl).mono ?_
          rintro e w3 ⟨rfl, hb3⟩
          replace HR := Lib.hid (HR.out.keep hb3)
          clear hb3 c0 c1 c2
          have HMB := Lib.hid (make_bools sw (by have := HSL.out; omega) w3)
          have hmb := HMB.out
          obtain ⟨T, hT⟩ : ∃ T : Nat → Bool, T = lvlT k lv j u := ⟨_, rfl⟩
          have HTT := Lib.hid hT
          have HA : Hid (Below w3.heap.size w3 (w3.alloc (.cells (boolA (List.replicate sw false)) 4)) ∧ BAt (w3.alloc (.cells (boolA (List.replicate sw false)) 4)) w3.heap.size (rowB T sw 0)) := ⟨(Below.refl _ _).alloc (Nat.le_refl _) _, by rw [rowB_zero]; exact heap_alloc_new w3 _⟩
          have HRW := HR
          clear HMB hT HR
          go_wp2_with fail
          clear hmb
          go_loopw [12] (fun a' wr => ∃ x : Nat, x ≤ sw ∧ a' = .int .i64 (x : Int) ∧ Hid (Below w3.heap.size w3 wr ∧ BAt wr w3.heap.size (rowB T sw x))) (fun a' _ => sw - (intOf a').toNat)
          case atStart => exact ⟨0, Nat.zero_le _, rfl, HA.out⟩
          case round =>
            clear HA
            obtain ⟨x, hx, rfl, HC⟩ := hrel
            have HR4 := Lib.hid (HRW.out.keep HC.out.1)
            have hsl := HSL.out
            by_cases hlt2 : x < sw
            · have d2 : decide ((x : Int) < (sw : Int)) = true := decide_eq_true (by omega)
              have c0 := cellR 0 HR4.out.q0 rfl
              have c1 := cellR 1 HR4.out.q0 rfl
              have c2 := cellR 2 HR4.out.q0 rfl
              have HWIx := Lib.hid (wrap_small ((x : Int) + 1) (by omega) (by omega))
              have HCSx : Hid (((x : Int) + 1) = ((x + 1 : Nat) : Int)) := by show _ = _; rw [Int.natCast_add]; rfl
              have HMEx : Hid (sw - (intOf (.int .i64 ((x : Int) + 1))).toNat < sw - (intOf (.int .i64 (x : Int))).toNat) := by show _ < _; simp [intOf]; omega
              have HMOx : Hid (sw - (intOf (.int .i64 (wrap64 ((x : Int) + 1)))).toNat < sw - (intOf (.int .i64 (x : Int))).toNat) := by show _ < _; rw [HWIx.out]; exact HMEx.out
              have HKx : Hid (x + 1 ≤ sw) := by show _ ≤ _; omega
              have HST : Hid ((rowB T sw x).set x (T x) = rowB T sw (x + 1)) := rowB_set _ _ _ hlt2
              have HCL : Hid (Calls Tryz.prog 64 #[.agg #[.int .i64 2, .slice (some ⟨g, o, none⟩) 2 sc, .int .i64 hosts], .int .i64 (x : Int), .int .i64 (lev : Int), .int .i64 (u : Int)] wr fun e w' => e = .returned (.bool (T x)) ∧ Below wr.heap.size wr w') := by
                have h1 := HSB.out wr HR4.out.bl x lev u hlt2 hlt (by have := HJ.out; omega)
                have h2 : T x = (decide (x / k ^ (lv - 1) < lev) && (x % k ^ (lv - 1) / k ^ (lev - 1) == u)) := by
                  rw [HTT.out, lvlT, HJ.out.2.1]
                rw [h2]; exact h1
              have HXS : Hid (x < sw) := hlt2
              clear hx hlt2 hsl
              go_wp2_with fail
              refine HCL.out.mono ?_
              rintro e w9 ⟨rfl, hb9⟩
              have hB9 : BAt w9 w3.heap.size (rowB T sw x) := heapB hb9 HC.out.2
              have HC9 : Hid (Below w3.heap.size w3 (w9.setCell ⟨w3.heap.size, x, none⟩ (.bool (T x))) ∧ BAt (w9.setCell ⟨w3.heap.size, x, none⟩ (.bool (T x))) w3.heap.size (rowB T sw (x + 1))) := ⟨(HC.out.1.trans (hb9.mono HC.out.1.size)).setCell (p := ⟨w3.heap.size, x, none⟩) (Nat.le_refl _) _, by rw [← HST.out]; exact hB9.set x (T x)⟩
              have ca := hB9.cell x (by rw [rowB_len _ _ _ (Nat.le_of_lt HXS.out)]; exact HXS.out)
              have fa := hB9.open_ x
              have la := hB9.lt
              have hxb : ((sw : Int) ≤ (x : Int)) = False := by have := HXS.out; simp; omega
              have hxb2 : (sw ≤ x) = False := by have := HXS.out; simp; omega
              have hxb3 : (x < sw) = True := by simp; exact HXS.out
              generalize T x = bv at *
              clear hB9 hb9 HC HCL c0 c1 c2 HR4
              go_wp2_with fail
              go_roundw
              case rel => exact ⟨x + 1, HKx.out, by first | rw [HWIx.out, HCSx.out] | rw [HCSx.out], HC9⟩
              case measure => first | exact HMOx.out | exact HMEx.out
            · have hin : x = sw := by omega
              subst hin
              have d2 : decide ((x : Int) < (x : Int)) = false := decide_eq_false (by omega)
              have hTb := HC.out.2
              rw [rowB_full] at hTb
              obtain ⟨v', w4, hr, hr4⟩ := HR4.out.app T w3.heap.size hTb (by have := HLB.out j u HJ.out.1 (by rw [← HPE.out]; omega); omega)
              have HRR := Lib.hid hr
              have HR5 : Hid (RB w.heap.size (w.heap.size + 1) x (.cells #[.int .i64 2, .slice (some ⟨g, o, none⟩) 2 sc, .int .i64 hosts] 34 (0, 0)) w v' (lvS k lv j (u + 1)) w4) := by
                show RB _ _ _ _ _ _ _ _
                rw [lvS_succ, ← HTT.out]; exact hr4
              clear HC HR4 hr hr4 hTb hx hlt2 hsl HRW
              go_wp2_with (at_builtin; refine Lib.wpList_append_run _ rfl (.tmp 134) (.tmp 136) 54 54 rfl _ _ rfl rfl _ _ HRR.out ?_)
              go_roundw
              case rel => exact ⟨u + 1, HKu.out, by first | rw [HWIu.out, HCSu.out] | rw [HCSu.out], HR5⟩
              case measure => first | exact HMOu.out | exact HMEu.out
        · have hin : u = PW := by omega
          have d3 : decide ((u : Int) < (PW : Int)) = false := decide_eq_false (by omega)
          have HN2 : Hid (RB w.heap.size (w.heap.size + 1) sw (.cells #[.int .i64 2, .slice (some ⟨g, o, none⟩) 2 sc, .int .i64 hosts] 34 (0, 0)) w u5 (stdTn k lv (lv - 1 - (lev - 1))) W1) := by
            have h1 := HR.out
            rw [hin, HPE.out, lvS_full, ← HJ.out.2.2] at h1
            exact h1
          have hwl : wrap64 ((lev : Int) - 1) = (lev : Int) - 1 := wrap_small _ (by omega) (by omega)
          clear HR hin hpb
          go_wp2_with fail
          go_roundw
          case rel => exact ⟨lev - 1, by omega, by congr 1; omega, HN2⟩
          case measure => simp [intOf]; omega
    · have hin : lev = 0 := by omega
      subst hin
      have HF : Hid (RowsB wr u5 sw (stdT k lv) ∧ Below w.heap.size w wr) := by
        have h1 := HR.out
        rw [Nat.sub_zero] at h1
        obtain ⟨bs, k1, k2, k3⟩ := h1.ex
        exact ⟨rowsB_of k1 k2 k3, h1.bl⟩
      clear HR hm hlt
      go_wp2_with fail
      go_ret2
      exact ⟨_, rfl, HF.out.1, HF.out.2⟩
end Go.Proofs.YtbhkenphcahifaaGreat
namespace Go.Proofs.YtbhkenphcahifaaGreat
open Go.RowKit Go.Shelf
set_option maxRecDepth 100000
set_option maxHeartbeats 4000000
/-- the directions as they stand in memory -/
def dirL (l c : List Int) : List Int := (List.range l.length).map fun i => dirB c i
theorem dirL_len (l c : List Int) : (dirL l c).length = l.length := by simp [dirL]
theorem dirL_at (l c : List Int) {i : Nat} (hi : i < l.length) : (dirL l c).getD i 0 = dirB c i := by simp [dirL, List.getD, hi]
/-- some of them turned -/
def turnF (d : List Int) (L : List Nat) : List Int := L.foldl (fun d i => d.set i (wrap64 (-(d.getD i 0)))) d
theorem turnF_snoc (d : List Int) (L : List Nat) (i : Nat) : turnF d (L ++ [i]) = (turnF d L).set i (wrap64 (-((turnF d L).getD i 0))) := by simp [turnF]
theorem turnF_len (L : List Nat) : ∀ d : List Int, (turnF d L).length = d.length := by
  induction L with
  | nil => intro d; rfl
  | cons x L ih => intro d; show (turnF _ L).length = _; rw [ih]; simp
/-- can a dimension be changed, the directions being such -/
def goesB (l c d : List Int) (i : Nat) : Bool := decide (0 ≤ wrap64 (c.getD i 0 + d.getD i 0) ∧ wrap64 (c.getD i 0 + d.getD i 0) ≤ wrap64 (l.getD i 0 - 1))
/-- none of them could -/
def Pas (l c d : List Int) (L : List Nat) : Prop := ∀ p x q, L = p ++ x :: q → goesB l c (turnF d p) x = false
theorem Pas.nil (l c d : List Int) : Pas l c d [] := fun p x q h => by cases p <;> cases h
theorem Pas.snoc {l c d : List Int} {L : List Nat} {i : Nat} (h : Pas l c d L) (hi : goesB l c (turnF d L) i = false) : Pas l c d (L ++ [i]) := by
  intro p x q he
  rcases List.eq_nil_or_concat q with rfl | ⟨q', y, rfl⟩
  · have h1 := List.append_inj' he rfl
    obtain ⟨rfl, h2⟩ := h1
    cases h2
    exact hi
  · rw [List.concat_eq_append] at he
    have h2 : L ++ [i] = (p ++ x :: q') ++ [y] := by rw [he]; simp
    exact h p x q' (List.append_inj' h2 rfl).1
theorem wrap_neg {x : Int} (h : x = 1 ∨ x = -1) : wrap64 (-x) = -x := wrap_small _ (by omega) (by omega)
theorem dirB_or (c : List Int) (i : Nat) : dirB c i = 1 ∨ dirB c i = -1 := by unfold dirB; split <;> simp
/-- turned from the last one on -/
theorem turn_take {l c : List Int} : ∀ m, m ≤ l.length → ∀ j, j < l.length → (turnF (dirL l c) ((List.range l.length).reverse.take m)).getD j 0 = if l.length - m ≤ j then - dirB c j else dirB c j := by
  intro m
  induction m with
  | zero => intro _ j hj; rw [List.take_zero, if_neg (by omega)]; exact dirL_at l c hj
  | succ m ih =>
    intro hm j hj
    have hlen : m < (List.range l.length).reverse.length := by simp; omega
    rw [List.take_succ_eq_append_getElem hlen, turnF_snoc]
    have hx : (List.range l.length).reverse[m] = l.length - 1 - m := by simp
    rw [hx]
    have h0 := ih (by omega) (l.length - 1 - m) (by omega)
    rw [if_neg (by omega)] at h0
    rw [h0, wrap_neg (dirB_or c _)]
    by_cases hjm : l.length - 1 - m = j
    · subst hjm
      rw [getD_set_same _ _ _ _ (by rw [turnF_len, dirL_len]; omega), if_pos (by omega)]
    · rw [getD_set_other _ _ _ _ _ hjm, ih (by omega) j hj]
      by_cases h2 : l.length - m ≤ j
      · rw [if_pos h2, if_pos (by omega)]
      · rw [if_neg h2, if_neg (by omega)]
theorem goes_iff {l c d : List Int} (hb : ∀ i, i < l.length → 2 ≤ l.getD i 0 ∧ l.getD i 0 ≤ 16) (hc : InT l c) {i : Nat} (hi : i < l.length) (hd : d.getD i 0 = dirB c i) : (goesB l c d i = true ↔ dgI l c i < l.getD i 0 - 1) ∧ wrap64 (c.getD i 0 + d.getD i 0) = c.getD i 0 + dirB c i := by
  obtain ⟨b1, b2⟩ := hb i hi
  obtain ⟨c1, c2⟩ := hc.2 i hi
  have h1 : wrap64 (c.getD i 0 + dirB c i) = c.getD i 0 + dirB c i := wrap_small _ (by rcases dirB_or c i with h | h <;> rw [h] <;> omega) (by rcases dirB_or c i with h | h <;> rw [h] <;> omega)
  have h2 : wrap64 (l.getD i 0 - 1) = l.getD i 0 - 1 := wrap_small _ (by omega) (by omega)
  refine ⟨?_, by rw [hd, h1]⟩
  unfold goesB
  rw [hd, h1, h2, ← dir_within hc hi]
  simp
/-- what was passed stands at its end -/
theorem pas_end {l c : List Int} (hb : ∀ i, i < l.length → 2 ≤ l.getD i 0 ∧ l.getD i 0 ≤ 16) (hc : InT l c) {m : Nat} (hm : m ≤ l.length) (hp : Pas l c (dirL l c) ((List.range l.length).reverse.take m)) : ∀ j, l.length - m ≤ j → j < l.length → dgI l c j = l.getD j 0 - 1 := by
  intro j h1 h2
  have hs : (List.range l.length).reverse.take m = (List.range l.length).reverse.take (l.length - 1 - j) ++ j :: ((List.range l.length).reverse.take m).drop (l.length - j) := by
    have hlen : l.length - 1 - j < ((List.range l.length).reverse.take m).length := by simp; omega
    have h5 : ((List.range l.length).reverse.take m)[l.length - 1 - j] = j := by simp; omega
    have h3 := List.take_append_drop (l.length - 1 - j) ((List.range l.length).reverse.take m)
    rw [List.drop_eq_getElem_cons hlen, h5, List.take_take, Nat.min_eq_left (by omega), show l.length - 1 - j + 1 = l.length - j by omega] at h3
    exact h3.symm
  have h4 := hp _ _ _ hs
  have h5 := turn_take (l := l) (c := c) (l.length - 1 - j) (by omega) j h2
  rw [if_neg (by omega)] at h5
  have h6 := (goes_iff hb hc h2 h5).1
  have h7 := dg_in hc h2
  rw [h4] at h6
  have : ¬ dgI l c j < l.getD j 0 - 1 := fun h => by cases h6.2 h
  omega
/-- where it goes on -/
theorem goes_next {l c : List Int} (hb : ∀ i, i < l.length → 2 ≤ l.getD i 0 ∧ l.getD i 0 ≤ 16) (hc : InT l c) {L : List Nat} {x : Nat} (hx : x < l.length) (hpre : L ++ [x] <+: (List.range l.length).reverse) (hp : Pas l c (dirL l c) L) (hg : goesB l c (turnF (dirL l c) L) x = true) :
    ldS l c l.length = x ∧ c.set x (wrap64 (c.getD x 0 + (turnF (dirL l c) L).getD x 0)) = nextC c x ∧ turnF (dirL l c) L = dirL l (nextC c x) := by
  obtain ⟨r, hr⟩ := hpre
  have hlen := congrArg List.length hr
  simp at hlen
  have hL : L = (List.range l.length).reverse.take L.length := by
    rw [← hr, List.append_assoc, List.take_append_of_le_length (Nat.le_refl _), List.take_length]
  have hxe : x = l.length - 1 - L.length := by
    have h1 : (L ++ [x] ++ r)[L.length]? = some x := by simp
    rw [hr] at h1
    have h2 : L.length < (List.range l.length).reverse.length := by simp; omega
    rw [List.getElem?_eq_getElem h2] at h1
    have h3 := Option.some.inj h1
    rw [← h3]
    simp
  have hm : L.length ≤ l.length := by omega
  rw [hL] at hp hg ⊢
  have he := pas_end hb hc hm hp
  have ht := turn_take (l := l) (c := c) L.length hm
  have htx := ht x hx
  rw [if_neg (by omega)] at htx
  obtain ⟨g1, g2⟩ := goes_iff hb hc hx htx
  have hdg := g1.1 hg
  refine ⟨ld_eq _ hx hdg (fun j h1 h2 => he j (by omega) h2), by rw [g2]; rfl, ?_⟩
  refine List.ext_getElem (by rw [turnF_len, dirL_len, dirL_len]) fun j h1 h2 => ?_
  rw [turnF_len, dirL_len] at h1
  have k1 := ht j h1
  have k2 := dirL_at l (nextC c x) h1
  rw [dir_next (by rw [hc.1]; exact hx)] at k2
  have k3 : (turnF (dirL l c) ((List.range l.length).reverse.take L.length)).getD j 0 = (dirL l (nextC c x)).getD j 0 := by
    rw [k1, k2]
    by_cases h : x < j
    · rw [if_pos (by omega), if_pos h]
    · rw [if_neg (by omega), if_neg h]
  simpa [List.getD, turnF_len, dirL_len, h1] using k3
/-- at the last place alone nothing goes -/
theorem pas_last {l c : List Int} (hb : ∀ i, i < l.length → 2 ≤ l.getD i 0 ∧ l.getD i 0 ≤ 16) (hc : InT l c) (hp : Pas l c (dirL l c) (List.range l.length).reverse) : rkS l c l.length + 1 = prodI l := by
  have h := pas_end hb hc (m := l.length) (Nat.le_refl _) (by rw [List.take_of_length_le (by simp)]; exact hp)
  exact rk_last ⟨fun j h1 h2 => h j (by omega) h2, fun h0 => h 0 (by omega) h0⟩
end Go.Proofs.YtbhkenphcahifaaGreat
namespace Go.Proofs.YtbhkenphcahifaaGreat
open Go.RowKit Go.Shelf
set_option maxRecDepth 100000
set_option maxHeartbeats 4000000
/-- the blocks of a snake: what it says in a box, its coordinates, its directions, the variables that hold them -/
structure SnB where
  o0 : Obj
  b0 : Nat
  ga : Nat
  gr : Nat
  b3 : Nat
  b4 : Nat
  z : Nat
  N : Nat
structure SnB.Ok (B : SnB) : Prop where
  l0 : B.b0 < B.ga ∧ B.b0 < B.gr ∧ B.b0 < B.b3 ∧ B.b0 < B.b4
  lz : B.ga < B.z ∧ B.gr < B.z ∧ B.b3 < B.z ∧ B.b4 < B.z
  nn : B.ga ≠ B.gr ∧ B.ga ≠ B.b3 ∧ B.ga ≠ B.b4 ∧ B.gr ≠ B.b3 ∧ B.gr ≠ B.b4
/-- coordinates and directions in memory -/
structure SnM (B : SnB) (w : World) (c d : List Int) (W : World) : Prop where
  ra : RowAt W B.ga c
  rd : RowAt W B.gr d
  k3 : W.heap[B.b3]? = some (.cells #[.slice (some ⟨B.ga, 0, none⟩) B.N B.N] 22 (0, 0))
  k4 : W.heap[B.b4]? = some (.cells #[.slice (some ⟨B.gr, 0, none⟩) B.N B.N] 22 (0, 0))
  q0 : W.heap[B.b0]? = some B.o0
  bl : Below B.b0 w W
  sz : B.z ≤ W.heap.size
theorem SnM.keep {B : SnB} {w W W' : World} {c d : List Int} (h : SnM B w c d W) (hB : B.Ok) (hb : Below B.z W W') : SnM B w c d W' := by
  obtain ⟨⟨a1, a2, a3, a4⟩, ⟨b1, b2, b3, b4⟩, _⟩ := hB
  exact ⟨(hb.block _ b1).trans h.ra, (hb.block _ b2).trans h.rd, (hb.block _ b3).trans h.k3, (hb.block _ b4).trans h.k4, (hb.block _ (by omega)).trans h.q0, h.bl.trans (hb.mono (by omega)), Nat.le_trans h.sz hb.size⟩
/-- with the snake so far, and the marks -/
structure SnS (B : SnB) (w : World) (l : List Int) (Ds : List Nat) (v : Value) (k : Nat) (W : World) : Prop where
  m : SnM B w (snC l k) (dirL l (snC l k)) W
  nv : NewInts B.z W v (snL l (k + 1))
  ms : Marks B.z Ds W
theorem Marks.below {B z : Nat} {Ds : List Nat} {w w' : World} (h : Marks B Ds w) (hb : Below w.heap.size w w') : Marks B Ds w' := h.keep fun D hD => hb.block _ (h.lt hD)
theorem SnS.keep {B : SnB} {w : World} {l : List Int} {Ds : List Nat} {v : Value} {k : Nat} {W W' : World} (h : SnS B w l Ds v k W) (hB : B.Ok) (hb : Below W.heap.size W W') : SnS B w l Ds v k W' :=
  ⟨h.m.keep hB (hb.mono h.m.sz), h.nv.keep2 hb, h.ms.below (z := 0) hb⟩
/-- all but two blocks is as it was -/
structure But2 (S ga gr : Nat) (w w' : World) : Prop where
  os : w'.os = w.os
  tape : w'.tape = w.tape
  output : w'.output = w.output
  size : S ≤ w'.heap.size
  block : ∀ k, k < S → k ≠ ga → k ≠ gr → w'.heap[k]? = w.heap[k]?
theorem But2.refl {S ga gr : Nat} {w : World} (h : S ≤ w.heap.size) : But2 S ga gr w w := ⟨rfl, rfl, rfl, h, fun _ _ _ _ => rfl⟩
theorem But2.own {β : Type} {S ga gr : Nat} {w : World} : OwnFrom S (fun (_ : β) W => But2 S ga gr w W) := fun s X Y row h hg hr =>
  ⟨hg.os.trans h.os, hg.tape.trans h.tape, hg.output.trans h.output, Nat.le_trans h.size hg.size, fun k hk h1 h2 => (hg.block k (Nat.lt_of_lt_of_le hk h.size) (fun e => by have := (hr k e.symm).1; omega)).trans (h.block k hk h1 h2)⟩
theorem But2.set {S ga gr : Nat} {w W : World} (h : But2 S ga gr w W) {b : Nat} (hb : b = ga ∨ b = gr) (i : Nat) (v : Value) : But2 S ga gr w (W.setCell ⟨b, i, none⟩ v) :=
  ⟨h.os, h.tape, h.output, by have := h.size; simpa [World.setCell] using this, fun k hk h1 h2 => (heap_setCell_other _ _ _ _ (by rcases hb with rfl | rfl <;> assumption)).trans (h.block k hk h1 h2)⟩
theorem But2.drew {S ga gr : Nat} {w W : World} (h : But2 S ga gr w W) : But2 S ga gr w W.drew := ⟨h.os, h.tape, h.output, h.size, h.block⟩
theorem But2.below {S ga gr n0 : Nat} {w w0 W : World} (h : But2 S ga gr w W) (hb : Below n0 w0 w) (h0 : w.heap.size = S) (h1 : n0 ≤ ga) (h2 : n0 ≤ gr) (hn : n0 ≤ w0.heap.size) : Below n0 w0 W := by
  refine hb.trans ⟨h.os, h.tape, h.output, by rw [h0]; exact h.size, fun k hk => h.block k ?_ (by omega) (by omega)⟩
  have := hb.size; omega
/-- what a round of the inner loop leaves -/
theorem SnM.turned {B : SnB} {w W1 W : World} {c d c' d' : List Int} (h : SnM B w c d W1) (hB : B.Ok) (hn : B.b0 ≤ w.heap.size) (hb : But2 W1.heap.size B.ga B.gr W1 W) (h1 : RowAt W B.ga c') (h2 : RowAt W B.gr d') : SnM B w c' d' W := by
  obtain ⟨⟨a1, a2, a3, a4⟩, ⟨b1, b2, b3, b4⟩, n1, n2, n3, n4, n5⟩ := hB
  have hs := h.sz
  exact ⟨h1, h2, (hb.block _ (by omega) (Ne.symm n2) (Ne.symm n4)).trans h.k3, (hb.block _ (by omega) (Ne.symm n3) (Ne.symm n5)).trans h.k4, (hb.block _ (by omega) (by omega) (by omega)).trans h.q0, hb.below h.bl rfl (by omega) (by omega) hn, Nat.le_trans hs hb.size⟩
theorem ownsRow_but2 {z S ga gr e k n : Nat} {v : Value} {xs : List Value} {w w' : World} (h : w.ownsRow z e k v n xs) (hb : But2 S ga gr w w') (hS : w.heap.size = S) (h1 : ga < z) (h2 : gr < z) : w'.ownsRow z e k v n xs := by
  obtain ⟨a, b⟩ := h
  refine ⟨a, ?_⟩
  rcases b with b | ⟨g, cap, cur, rfl, hg, hr, rest⟩
  · exact .inl b
  · exact .inr ⟨g, cap, cur, rfl, hg, (hb.block g (by have := (Array.getElem?_eq_some_iff.1 hr).1; omega) (by omega) (by omega)).trans hr, rest⟩
theorem NewInts.but2 {z S ga gr : Nat} {v : Value} {L : List Int} {w w' : World} (h : NewInts z w v L) (hb : But2 S ga gr w w') (hS : w.heap.size = S) (h1 : ga < z) (h2 : gr < z) : NewInts z w' v L := ⟨ownsRow_but2 h.own hb hS h1 h2, h.len⟩
theorem Marks.but2 {z S ga gr : Nat} {Ds : List Nat} {w w' : World} (h : Marks z Ds w) (hb : But2 S ga gr w w') (hS : w.heap.size = S) (h1 : ga < z) (h2 : gr < z) : Marks z Ds w' :=
  h.keep fun D hD => hb.block D (by have := h.lt hD; omega) (by have := (h.open_ D hD).1; omega) (by have := (h.open_ D hD).1; omega)
/-- one more switch -/
theorem SnM.app {B : SnB} {w W : World} {c d : List Int} {v : Value} {L : List Int} {Ds : List Nat} (hm : SnM B w c d W) (hB : B.Ok) (hn : NewInts B.z W v L) (hms : Marks B.z Ds W) (x : Int) (hl : L.length ≤ 1000000) :
    ∃ v' w2, (Builtin.append_ #[22, 22] 22 #[v, .slice (some ⟨W.heap.size, 0, none⟩) 1 1]).run Tryz.prog (W.alloc (.cells #[.int .i64 x] 3)) = .ok v' w2 ∧ SnM B w c d w2 ∧ NewInts B.z w2 v' (L ++ [x]) ∧ Marks B.z Ds w2 := by
  obtain ⟨g, cap, w2, hr, hn2, hg, hat, hz⟩ := app_one hn x hl hm.sz
  have hb : Below B.z W w2 := ((Below.refl B.z W).alloc hm.sz _).trans ⟨hg.os, hg.tape, hg.output, hg.size, fun k hk => hg.block k (by have := hm.sz; simp; omega) (fun e => by have := (hn.own.lt k e.symm).1; omega)⟩
  refine ⟨_, w2, hr, hm.keep hB hb, hn2, hms.keep fun D hD => ?_⟩
  have hlt := hms.lt hD
  refine (hg.block D (by simp; omega) (fun e => ?_)).trans (Below.heap_alloc _ _ _ hlt)
  have ho := (hms.open_ D hD).2
  rcases hn.own.2 with ⟨rfl, _⟩ | ⟨q, cap2, cur, rfl, _, hq, _⟩
  · simp [Value.ownBlock] at e
  · have : D = q := by simpa [Value.ownBlock] using e
    rw [this, hq] at ho
    cases ho
/-- what the function hands out, its marks shut -/
theorem SnS.out {B : SnB} {w : World} {l : List Int} {Ds : List Nat} {v : Value} {k : Nat} {W W' : World} (h : SnS B w l Ds v k W) (hB : B.Ok) (hz : w.heap.size ≤ B.z) (hb0 : B.b0 = w.heap.size) (hs : Shut Ds W W') : NewInts w.heap.size W' v (snL l (k + 1)) ∧ Below w.heap.size w W' := by
  refine ⟨⟨?_, h.nv.len⟩, ?_⟩
  · obtain ⟨a, b⟩ := h.nv.own
    refine ⟨a, ?_⟩
    rcases b with b | ⟨g, cap, cur, rfl, hg, hr, rest⟩
    · exact .inl b
    · refine .inr ⟨g, cap, cur, rfl, by omega, (hs.block g (fun hD => ?_)).trans hr, rest⟩
      have ho := (h.ms.open_ g hD).2
      rw [hr] at ho
      cases ho
  · have hb := h.m.bl
    rw [hb0] at hb
    refine ⟨hs.os.trans hb.os, hs.tape.trans hb.tape, hs.output.trans hb.output, by rw [hs.size]; exact hb.size, fun j hj => (hs.block j (fun hD => ?_)).trans (hb.block j hj)⟩
    have := (h.ms.open_ j hD).1
    omega
end Go.Proofs.YtbhkenphcahifaaGreat
