import Derived.Test.YtbhkenphcahifaaGreatQSC
import Derived.Test.YtbhkenphcahifaaGreatProg
import Derived.WalkKit
import Derived.WalkSpells
import Derived.LoopTactic
import Derived.Lib.Hide
import Derived.BigQuiet
import Derived.Deep.QuietTactic
import Derived.Shelf.Abstract
import Derived.Lib.AppendZeros
import Derived.Laws.AppendOwnNone
import Derived.RangeFuncNested
import Derived.RangeFuncBound
import Derived.RangeFuncCalls
import Derived.RangeFuncLeaves
import Derived.RangeFuncOne
import Derived.Shelf.RegionOpen
import Derived.OwnWalkIn
import Derived.TacticsInMore
import Derived.LoopNIn
import Derived.LoopIn
import Derived.Test.YtbhkenphcahifaaGreatRows
import Derived.ProofKit
import Derived.OpenShut
import Derived.Carry
import Derived.SizedLaws
import Derived.OrdersIn
import Derived.Laws.Rows
import Derived.Laws.Tables
import Derived.Deep.AppendLies
import Derived.Laws.StructEq
import Derived.ChangeKeysEq
import Derived.Shelf.Small.Bits
import Derived.Shelf.Small.Wraps
import Derived.Shelf.Strconv.Itoa0
import Derived.Shelf.Sort.Plain
import Derived.Shelf.Bits.Mul64
import Derived.Ground.Names2Prog
import Derived.Shelf.Slices.CompactI
import Derived.Shelf.Slices.SearchI
import Derived.Shelf.Slices.Cells
import Derived.Shelf.Slices.In.SortNone
import Derived.Lib.OwnBridge
import Derived.Sort.OwnSortedInts
import Derived.BigRegion
import Init
import Derived.Deep.Grids
namespace Go.Proofs.YtbhkenphcahifaaGreat
open Go.RowKit Go.Shelf
attribute [local go_sem] Oper.semAt_some
set_option maxRecDepth 100000
set_option maxHeartbeats 4000000
/-- the neighbors of a switch in a dragonfly: those of its group, those behind its ports -/
def dgA (a gr pl : Int) : Nat → List Int
  | 0 => []
  | m + 1 => dgA a gr pl m ++ (if (m : Int) ≠ pl then [gr * a + (m : Int)] else [])
def dgB (a h g gr pl : Int) (m : Nat) : List Int := (List.range m).map fun (p : Nat) => (gr + (pl * h + (p : Int)) + 1) % g * a + (g - 2 - (pl * h + (p : Int))) / h
theorem dgB_succ (a h g gr pl : Int) (m : Nat) : dgB a h g gr pl (m + 1) = dgB a h g gr pl m ++ [(gr + (pl * h + (m : Int)) + 1) % g * a + (g - 2 - (pl * h + (m : Int))) / h] := by unfold dgB; rw [List.range_succ, List.map_append]; rfl
theorem dgA_len (a gr pl : Int) : ∀ m, (dgA a gr pl m).length ≤ m
  | 0 => Nat.le_refl _
  | m + 1 => by rw [dgA, List.length_append]; have := dgA_len a gr pl m; split <;> simp <;> omega
theorem dgB_len (a h g gr pl : Int) (m : Nat) : (dgB a h g gr pl m).length = m := by simp [dgB]
def nbD (a h : Nat) (x : Int) : List Int := sortL (dgA a (x / a) (x % a) a ++ dgB a h ((a : Int) * h + 1) (x / a) (x % a) h)
theorem appOne {w : World} {lo : Nat} {v : Value} {R : List Int} (h : NewInts lo w v R) (s : Int) (hl : R.length ≤ 1000000) (hs : lo ≤ w.heap.size) :
    ∃ v' w2, (Builtin.append_ #[22, 22] 22 #[v, .slice (some ⟨w.heap.size, 0, none⟩) 1 1]).run Tryz.prog (w.alloc (.cells #[.int .i64 s] 3)) = .ok v' w2 ∧ NewInts lo w2 v' (R ++ [s]) ∧ Below lo w w2 := by
  obtain ⟨g, cap, w2, hr, hn, hg, hat, hz⟩ := app_one h s hl hs
  exact ⟨_, w2, hr, hn, ((Below.refl lo w).alloc hs _).trans ⟨hg.os, hg.tape, hg.output, hg.size, fun k hk => hg.block k (by simp; omega) (fun e => by have := (h.own.lt k e.symm).1; omega)⟩⟩
theorem dragNear (a h : Nat) (x : Int) (ha : 1 ≤ a) (ha2 : a ≤ 16) (hh : 1 ≤ h) (hh2 : h ≤ 4) (hx : 0 ≤ x) (hx2 : x < (a : Int) * ((a : Int) * h + 1)) (w : World) :
    VMake 195 #[.agg #[.int .i64 (a : Int), .int .i64 (h : Int), .int .i64 ((a : Int) * h + 1)], .int .i64 x] (nbD a h x) w.heap.size w := by
  have hah : (1 : Int) ≤ (a : Int) * h ∧ (a : Int) * h ≤ 64 := by
    have h1 : (1 : Int) * 1 ≤ (a : Int) * h := Int.mul_le_mul (by omega) (by omega) (by omega) (by omega)
    have h2 : (a : Int) * h ≤ 16 * 4 := Int.mul_le_mul (by omega) (by omega) (by omega) (by omega)
    omega
  have hNB : nbD a h x = sortL (dgA a (x / a) (x % a) a ++ dgB a h ((a : Int) * h + 1) (x / a) (x % a) h) := rfl
  obtain ⟨g, hg⟩ : ∃ g : Int, g = (a : Int) * h + 1 := ⟨_, rfl⟩
  rw [← hg] at hx2 hNB
  have hgr0 : 0 ≤ x / a := Int.ediv_nonneg hx (by omega)
  have hgr1 : x / a < g := Int.ediv_lt_of_lt_mul (by omega) (by rw [Int.mul_comm]; exact hx2)
  have hpl0 : 0 ≤ x % a := Int.emod_nonneg x (by omega)
  have hpl1 : x % a < a := Int.emod_lt_of_pos x (by omega)
  have E1 : wrap64 (x.tdiv a) = x / a := by rw [Int.tdiv_eq_ediv_of_nonneg hx]; exact wrap_small _ (by omega) (by omega)
  have E2 : x.tmod a = x % a := Int.tmod_eq_emod_of_nonneg hx
  have hane : (a : Int) ≠ 0 := by omega
  generalize x / a = gr at *
  obtain ⟨pl, hpl⟩ : ∃ pl, pl = x % a := ⟨_, rfl⟩
  rw [← hpl] at hNB hpl0 hpl1 E2
  have hplh : 0 ≤ pl * h ∧ pl * h + h ≤ g - 1 := by
    refine ⟨Int.mul_nonneg hpl0 (by omega), ?_⟩
    have h1 : (pl + 1) * (h : Int) ≤ (a : Int) * h := Int.mul_le_mul_of_nonneg_right (by omega) (by omega)
    rw [Int.add_mul] at h1
    omega
  have hgra : 0 ≤ gr * a ∧ gr * a ≤ 1040 := by
    refine ⟨Int.mul_nonneg hgr0 (by omega), ?_⟩
    have h1 : gr * (a : Int) ≤ 64 * 16 := Int.mul_le_mul (by omega) (by omega) (by omega) (by omega)
    omega
  have hcap : wrap64 ((a : Int) + (h : Int)) = ((a + h : Nat) : Int) := by rw [wrap_small _ (by omega) (by omega), Int.natCast_add]
  have HCP := Lib.hid hcap
  clear hcap
  have HGH := Lib.hid hah
  have HB9 := Lib.hid (And.intro hgr0 (And.intro hgr1 (And.intro hpl0 (And.intro hpl1 (And.intro hplh (And.intro hgra hg))))))
  have HBD := Lib.hid (And.intro ha (And.intro ha2 (And.intro hh hh2)))
  have HNB : Hid (∀ u w2, w.heap.size ≤ w2.heap.size → NewInts w.heap.size w2 u (nbD a h x) → VMake 148 #[u] (nbD a h x) w.heap.size w2) := by
    intro u w2 hs hu
    have hlen : (nbD a h x).length = (dgA a gr pl a ++ dgB a h g gr pl h).length := by rw [hNB, sort_len]
    rw [List.length_append, dgB_len] at hlen
    have h1 := dgA_len a gr pl a
    refine values_new hu hs (by omega) ?_
    intro e; rw [e] at hlen; simp at hlen; omega
  have HN2 := Lib.hid hNB
  generalize nbD a h x = DL at *
  have hmk := make_cap (a + h) (by omega)
  have hcap := HCP.out
  rw [← hcap] at hmk
  clear hcap
  have hz : (w.alloc (.cells #[.int .i64 (a : Int), .int .i64 (h : Int), .int .i64 g] 146)).heap.size = w.heap.size + 1 := by simp
  have q0 := heap_alloc_new w (.cells #[.int .i64 (a : Int), .int .i64 (h : Int), .int .i64 g] 146)
  have c0 := cellR 0 q0 rfl
  have c1 := cellR 1 q0 rfl
  have hb0 : Below w.heap.size w (w.alloc (.cells #[.int .i64 (a : Int), .int .i64 (h : Int), .int .i64 g] 146)) := (Below.refl w.heap.size w).alloc (Nat.le_refl _) _
  have Q0 := Lib.hid q0
  have HB0 := Lib.hid hb0
  have HZ0 := Lib.hid hz
  rw [← hg]
  clear q0 hb0 hz hg hgr0 hgr1 hpl0 hplh hgra hah hNB hx hx2 hpl hpl1 ha ha2 hh hh2
  unfold VMake
  go_enter Tryz.func195, Tryz.ntmps195
  go_wp2_with fail
  go_quiet (fail)
  rw [E1]
  have Q1 : Hid (((w.alloc (.cells #[.int .i64 (a : Int), .int .i64 (h : Int), .int .i64 g] 146)).drewN nq).heap[w.heap.size]? = some (.cells #[.int .i64 (a : Int), .int .i64 (h : Int), .int .i64 g] 146 (0, 0))) := Q0.out
  have HZ1 : Hid (((w.alloc (.cells #[.int .i64 (a : Int), .int .i64 (h : Int), .int .i64 g] 146)).drewN nq).heap.size = w.heap.size + 1) := HZ0.out
  have HB1 : Hid (Below w.heap.size w ((w.alloc (.cells #[.int .i64 (a : Int), .int .i64 (h : Int), .int .i64 g] 146)).drewN nq)) := below_drewN HB0.out _
  clear Q0 HZ0 HB0 c0 c1 E1 E2
  generalize (w.alloc (.cells #[.int .i64 (a : Int), .int .i64 (h : Int), .int .i64 g] 146)).drewN nq = X at *
  have c0 := cellR 0 Q1.out rfl
  have c1 := cellR 1 Q1.out rfl
  have hal : Below X.heap.size X (X.alloc (.cells (rowA (List.replicate (a + h) 0)) 3)) := (Below.refl _ _).alloc (Nat.le_refl _) _
  have k0 := kcell hal c0
  have k1 := kcell hal c1
  have HN0 : Hid (NewInts (w.heap.size + 1) (X.alloc (.cells (rowA (List.replicate (a + h) 0)) 3)) (.slice (some ⟨X.heap.size, 0, none⟩) 0 (a + h)) [] ∧ Below w.heap.size w (X.alloc (.cells (rowA (List.replicate (a + h) 0)) 3)) ∧ (X.alloc (.cells (rowA (List.replicate (a + h) 0)) 3)).heap[w.heap.size]? = some (.cells #[.int .i64 (a : Int), .int .i64 (h : Int), .int .i64 g] 146 (0, 0)) ∧ w.heap.size < (X.alloc (.cells (rowA (List.replicate (a + h) 0)) 3)).heap.size) :=
    ⟨new_cap (a + h) (w.heap.size + 1) (by have := HBD.out; omega) X (by rw [HZ1.out]; omega), HB1.out.trans (hal.mono (by rw [HZ1.out]; omega)), heapB hal Q1.out, by simp; rw [HZ1.out]; omega⟩
  clear hal
  go_wp2_with fail
  clear c0 c1 k0 k1 hmk Q1 HB1
  generalize hY : X.alloc (.cells (rowA (List.replicate (a + h) 0)) 3) = Y at *
  clear hY
  obtain ⟨v0, hv0⟩ : ∃ v0, v0 = Value.slice (some ⟨X.heap.size, 0, none⟩) 0 (a + h) := ⟨_, rfl⟩
  rw [← hv0] at HN0
  have HV0 := Lib.hid hv0
  clear hv0
  go_loopw [7, 26] (fun v iv wr => ∃ (i : Nat), i ≤ a ∧ iv = .int .i64 (i : Int) ∧ Hid (NewInts (w.heap.size + 1) wr v (dgA a gr pl i) ∧ Below w.heap.size w wr ∧ wr.heap[w.heap.size]? = some (.cells #[.int .i64 (a : Int), .int .i64 (h : Int), .int .i64 g] 146 (0, 0)) ∧ w.heap.size < wr.heap.size)) (fun _ iv _ => a - (intOf iv).toNat)
  case atStart => exact ⟨0, Nat.zero_le _, rfl, by rw [← HV0.out]; exact HN0⟩
  case round =>
    clear HN0 HV0
    obtain ⟨i, hi, rfl, HI⟩ := hrel
    have c0 := cellR 0 HI.out.2.2.1 rfl
    have c1 := cellR 1 HI.out.2.2.1 rfl
    by_cases hlt : i < a
    · have d1 : decide ((i : Int) < (a : Int)) = true := decide_eq_true (by omega)
      have h9 := HB9.out
      have HWI := Lib.hid (wrap_small ((i : Int) + 1) (by omega) (by have := HBD.out; omega))
      have HCS : Hid (((i : Int) + 1) = ((i + 1 : Nat) : Int)) := by show _ = _; rw [Int.natCast_add]; rfl
      have HME : Hid (a - (intOf (.int .i64 ((i : Int) + 1))).toNat < a - (intOf (.int .i64 (i : Int))).toNat) := by show _ < _; simp [intOf]; omega
      have HMO : Hid (a - (intOf (.int .i64 (wrap64 ((i : Int) + 1)))).toNat < a - (intOf (.int .i64 (i : Int))).toNat) := by show _ < _; rw [HWI.out]; exact HME.out
      have HK1 : Hid (i + 1 ≤ a) := hlt
      by_cases hip : (i : Int) = pl
      · have d2 : ((i : Int) != pl) = false := by simp [hip]
        have HNX : Hid (dgA a gr pl (i + 1) = dgA a gr pl i) := by show _ = _; rw [dgA, if_neg (by simp [hip]), List.append_nil]
        have HI2 : Hid (NewInts (w.heap.size + 1) wr u7 (dgA a gr pl (i + 1)) ∧ Below w.heap.size w wr ∧ wr.heap[w.heap.size]? = some (.cells #[.int .i64 (a : Int), .int .i64 (h : Int), .int .i64 g] 146 (0, 0)) ∧ w.heap.size < wr.heap.size) := by rw [HNX.out]; exact HI
        clear hip h9 HNX
        go_wp2_with fail
        go_roundw
        case rel => exact ⟨i + 1, HK1.out, by first | rw [HWI.out, HCS.out] | rw [HCS.out], HI2⟩
        case measure => first | exact HMO.out | exact HME.out
      · have d2 : ((i : Int) != pl) = true := by simp [hip]
        have hga := h9.2.2.2.2.2.1
        have HW1 := Lib.hid (wrap_small (gr * a) (by omega) (by omega))
        have HW2 := Lib.hid (wrap_small (gr * a + (i : Int)) (by omega) (by have := HBD.out; omega))
        obtain ⟨v', w2, hr, hn2, hb2⟩ := appOne HI.out.1 (gr * a + (i : Int)) (by have := dgA_len a gr pl i; have := HBD.out; omega) HI.out.2.2.2
        have HI2 : Hid (NewInts (w.heap.size + 1) w2 v' (dgA a gr pl (i + 1)) ∧ Below w.heap.size w w2 ∧ w2.heap[w.heap.size]? = some (.cells #[.int .i64 (a : Int), .int .i64 (h : Int), .int .i64 g] 146 (0, 0)) ∧ w.heap.size < w2.heap.size) := by
          refine ⟨?_, HI.out.2.1.trans (hb2.mono (by omega)), (hb2.block _ (by omega)).trans HI.out.2.2.1, Nat.lt_of_lt_of_le HI.out.2.2.2 hb2.size⟩
          rw [dgA, if_pos hip]; exact hn2
        have HR := Lib.hid hr
        clear hip h9 hga hr hn2 hb2
        have hw1 := HW1.out
        have hw2 := HW2.out
        go_wp2_with (at_builtin; refine Lib.wpList_append_run _ rfl (.tmp 32) (.tmp 39) 22 22 rfl _ _ rfl rfl _ _ HR.out ?_)
        go_roundw
        case rel => exact ⟨i + 1, HK1.out, by first | rw [HWI.out, HCS.out] | rw [HCS.out], HI2⟩
        case measure => first | exact HMO.out | exact HME.out
    · have hin : i = a := by omega
      subst hin
      have HI0 := HI
      clear HI hlt hi
      go_wp2_with fail
      clear c0 c1
      go_loopw [7, 44] (fun v iv wr => ∃ (j : Nat), j ≤ h ∧ iv = .int .i64 (j : Int) ∧ Hid (NewInts (w.heap.size + 1) wr v (dgA i gr pl i ++ dgB i h g gr pl j) ∧ Below w.heap.size w wr ∧ wr.heap[w.heap.size]? = some (.cells #[.int .i64 (i : Int), .int .i64 (h : Int), .int .i64 g] 146 (0, 0)) ∧ w.heap.size < wr.heap.size)) (fun _ iv _ => h - (intOf iv).toNat)
      case atStart => exact ⟨0, Nat.zero_le _, rfl, by rw [show dgB i h g gr pl 0 = [] from rfl, List.append_nil]; exact HI0⟩
      case round =>
        clear HI0
        obtain ⟨j, hj, rfl, HI⟩ := hrel
        have c0 := cellR 0 HI.out.2.2.1 rfl
        have c1 := cellR 1 HI.out.2.2.1 rfl
        have c2 := cellR 2 HI.out.2.2.1 rfl
        by_cases hlt : j < h
        · have d1 : decide ((j : Int) < (h : Int)) = true := decide_eq_true (by omega)
          have h9 := HB9.out
          have hb9 := HBD.out
          have hg9 := HGH.out
          have HWI := Lib.hid (wrap_small ((j : Int) + 1) (by omega) (by omega))
          have HCS : Hid (((j : Int) + 1) = ((j + 1 : Nat) : Int)) := by show _ = _; rw [Int.natCast_add]; rfl
          have HME : Hid (h - (intOf (.int .i64 ((j : Int) + 1))).toNat < h - (intOf (.int .i64 (j : Int))).toNat) := by show _ < _; simp [intOf]; omega
          have HMO : Hid (h - (intOf (.int .i64 (wrap64 ((j : Int) + 1)))).toNat < h - (intOf (.int .i64 (j : Int))).toNat) := by show _ < _; rw [HWI.out]; exact HME.out
          have HK1 : Hid (j + 1 ≤ h) := hlt
          have HW1 := Lib.hid (wrap_small (pl * (h : Int)) (by omega) (by omega))
          have HW2 := Lib.hid (wrap_small (pl * (h : Int) + (j : Int)) (by omega) (by omega))
          have HBH := Lib.hid (fun W => behind_any (i : Int) (h : Int) g gr (pl * (h : Int) + (j : Int)) (by omega) (by omega) (by omega) (by omega) (by omega) (by omega) h9.1 (by omega) (by omega) (by omega) W)
          obtain ⟨y, hy⟩ : ∃ y, y = (gr + (pl * (h : Int) + (j : Int)) + 1) % g * (i : Int) + (g - 2 - (pl * (h : Int) + (j : Int))) / (h : Int) := ⟨_, rfl⟩
          rw [← hy] at HBH
          have HY := Lib.hid hy
          clear h9 hb9 hg9 hy
          have hw1 := HW1.out
          have hw2 := HW2.out
          go_wp2_with fail
          clear c0 c1 c2
          refine (HBH.out _).mono ?_
          rintro e w1 ⟨rfl, hb1⟩
          have HI1 : Hid (NewInts (w.heap.size + 1) w1 u7 (dgA i gr pl i ++ dgB i h g gr pl j) ∧ Below w.heap.size w w1 ∧ w1.heap[w.heap.size]? = some (.cells #[.int .i64 (i : Int), .int .i64 (h : Int), .int .i64 g] 146 (0, 0)) ∧ w.heap.size < w1.heap.size) :=
            ⟨HI.out.1.keep2 hb1, HI.out.2.1.trans (hb1.mono HI.out.2.1.size), heapB hb1 HI.out.2.2.1, Nat.lt_of_lt_of_le HI.out.2.2.2 hb1.size⟩
          obtain ⟨v', w2, hr, hn2, hb2⟩ := appOne HI1.out.1 y (by have := dgA_len i gr pl i; have := HBD.out; rw [List.length_append, dgB_len]; omega) HI1.out.2.2.2
          have HI2 : Hid (NewInts (w.heap.size + 1) w2 v' (dgA i gr pl i ++ dgB i h g gr pl (j + 1)) ∧ Below w.heap.size w w2 ∧ w2.heap[w.heap.size]? = some (.cells #[.int .i64 (i : Int), .int .i64 (h : Int), .int .i64 g] 146 (0, 0)) ∧ w.heap.size < w2.heap.size) := by
            refine ⟨?_, HI1.out.2.1.trans (hb2.mono (by omega)), (hb2.block _ (by omega)).trans HI1.out.2.2.1, Nat.lt_of_lt_of_le HI1.out.2.2.2 hb2.size⟩
            rw [dgB_succ, ← HY.out, ← List.append_assoc]; exact hn2
          have HR := Lib.hid hr
          clear hr hn2 hb2 hb1 HI HI1 HBH
          go_wp2_with (at_builtin; refine Lib.wpList_append_run _ rfl (.tmp 47) (.tmp 57) 22 22 rfl _ _ rfl rfl _ _ HR.out ?_)
          go_roundw
          case rel => exact ⟨j + 1, HK1.out, by first | rw [HWI.out, HCS.out] | rw [HCS.out], HI2⟩
          case measure => first | exact HMO.out | exact HME.out
        · have hjh : j = h := by omega
          subst hjh
          have HSO := Lib.hid (sort_new HI.out.1 HI.out.2.2.2)
          have HI3 := HI
          clear HI c0 c1 c2
          go_wp2_with fail
          refine HSO.out.mono ?_
          rintro e w3 ⟨rfl, h3, hb3⟩
          have HB3 : Hid (Below w.heap.size w w3) := HI3.out.2.1.trans (hb3.mono (by omega))
          have HV : Hid (VMake 148 #[u7] DL w.heap.size w3) := HNB.out u7 w3 HB3.out.size (by rw [HN2.out]; exact ⟨own_lower7 h3.own (by omega), h3.len⟩)
          clear HSO h3 hb3 HNB HI3
          unfold VMake at HV
          go_wp2_with fail
          refine HV.out.mono ?_
          rintro e w5 ⟨gf, lb, rfl, h5, hb5⟩
          have HR5 : Hid (VIter gf lb DL w.heap.size w5 ∧ Below w.heap.size w w5) := ⟨h5, HB3.out.trans hb5⟩
          clear HV h5 hb5 HB3
          go_wp2_with fail
          go_ret
          exact ⟨gf, lb, rfl, HR5.out.1, HR5.out.2⟩
end Go.Proofs.YtbhkenphcahifaaGreat
namespace Go.Proofs.YtbhkenphcahifaaGreat
open Go.RowKit Go.Shelf
attribute [local go_sem] Oper.semAt_some
set_option maxRecDepth 100000
set_option maxHeartbeats 4000000
theorem m_near2 (a b c : Int) (w : World) : (method 330 142 (.agg #[.int .i64 a, .int .i64 b, .int .i64 c]) "armada/net.neighbors").run Tryz.prog w = .ok (181, .agg #[.int .i64 a, .int .i64 b, .int .i64 c]) w := by kernel_rfl
theorem m_near3 (a b c : Int) (w : World) : (method 330 146 (.agg #[.int .i64 a, .int .i64 b, .int .i64 c]) "armada/net.neighbors").run Tryz.prog w = .ok (195, .agg #[.int .i64 a, .int .i64 b, .int .i64 c]) w := by kernel_rfl
theorem treeNearMake (k lv : Nat) (x : Int) (hk : 1 ≤ k) (hk2 : k ≤ 16) (hlv : 1 ≤ lv) (hlv2 : lv ≤ 5) (hww2 : k ^ (lv - 1) ≤ 1000) (hx : 0 ≤ x) (hx2 : x < (lv : Int) * ((k ^ (lv - 1) : Nat) : Int)) (w : World) :
    VMake 181 #[.agg #[.int .i64 (k : Int), .int .i64 (lv : Int), .int .i64 ((k ^ (lv - 1) : Nat) : Int)], .int .i64 x] (nbT k lv x) w.heap.size w := by
  obtain ⟨hb, q0, q1, hz⟩ := twoN w (.cells #[.int .i64 (k : Int), .int .i64 (lv : Int), .int .i64 ((k ^ (lv - 1) : Nat) : Int)] 142) (.cells #[.int .i64 x] 3)
  have HB := Lib.hid hb
  have HI : Hid (VIter 187 #[.pointer (some ⟨w.heap.size + 1, 0, none⟩), .pointer (some ⟨w.heap.size, 0, none⟩)] (nbT k lv x) w.heap.size ((w.alloc (.cells #[.int .i64 (k : Int), .int .i64 (lv : Int), .int .i64 ((k ^ (lv - 1) : Nat) : Int)] 142)).alloc (.cells #[.int .i64 x] 3))) := by
    refine ⟨enters_of Tryz.func187 (by kernel_rfl) rfl, [w.heap.size, w.heap.size + 1], ?_, fun n => treeNear w.heap.size (w.heap.size + 1) k lv x hk hk2 hlv hlv2 hww2 hx hx2 q0 q1 n⟩
    intro b hm
    simp only [List.mem_cons, List.not_mem_nil, or_false] at hm
    rcases hm with rfl | rfl
    · exact ⟨Nat.le_refl _, _, q0, rfl⟩
    · exact ⟨by omega, _, q1, rfl⟩
  clear hb q0 q1 hww2 hx2 hz
  generalize ((k ^ (lv - 1) : Nat) : Int) = ww at *
  unfold VMake
  go_enter Tryz.func181, Tryz.ntmps181
  go_wp2_with fail
  go_ret
  exact ⟨187, _, rfl, HI.out, HB.out⟩
theorem near_make2 {l : List Int} {hosts x : Int} (hv : vOk 2 l hosts) (hx0 : 0 ≤ x) (hx1 : x < swI 2 l) (W : World) :
    VMake 181 #[.agg #[.int .i64 (l.getD 0 0), .int .i64 (l.getD 1 0), .int .i64 (wordsI l)], .int .i64 x] (nbT (l.getD 0 0).toNat (l.getD 1 0).toNat x) W.heap.size W := by
  have hr : rOk l hosts := by
    rcases hv with ⟨h0, h1⟩ | ⟨h0, h1⟩ | ⟨h0, h1⟩
    · cases h0
    · exact h1
    · cases h0
  have hwb := words_bound hr
  obtain ⟨_, h1, h2, _⟩ := hr
  have hs : swI 2 l = l.getD 1 0 * wordsI l := rfl
  rw [hs] at hx1
  have hw : wordsI l = (((l.getD 0 0).toNat ^ ((l.getD 1 0).toNat - 1) : Nat) : Int) := rfl
  rw [hw] at hx1 hwb ⊢
  clear hv hs hw
  generalize l.getD 0 0 = A at *
  generalize l.getD 1 0 = C at *
  obtain ⟨k, rfl⟩ := Int.eq_ofNat_of_zero_le (show 0 ≤ A by omega)
  obtain ⟨lv, rfl⟩ := Int.eq_ofNat_of_zero_le (show 0 ≤ C by omega)
  simp only [Int.toNat_natCast] at hx1 hwb ⊢
  exact treeNearMake k lv x (by omega) (by omega) (by omega) (by omega) (by omega) hx0 hx1 W
theorem near_make3 {l : List Int} {hosts x : Int} (hv : vOk 3 l hosts) (hx0 : 0 ≤ x) (hx1 : x < swI 3 l) (W : World) :
    VMake 195 #[.agg #[.int .i64 (l.getD 0 0), .int .i64 (l.getD 1 0), .int .i64 (l.getD 0 0 * l.getD 1 0 + 1)], .int .i64 x] (nbD (l.getD 0 0).toNat (l.getD 1 0).toNat x) W.heap.size W := by
  have hr : dOk l hosts := by
    rcases hv with ⟨h0, h1⟩ | ⟨h0, h1⟩ | ⟨h0, h1⟩
    · cases h0
    · cases h0
    · exact h1
  obtain ⟨_, _, h1, h2, h3⟩ := hr
  have hs : swI 3 l = l.getD 0 0 * (l.getD 0 0 * l.getD 1 0 + 1) := rfl
  rw [hs] at hx1
  clear hv hs
  generalize l.getD 0 0 = A at *
  generalize l.getD 1 0 = C at *
  obtain ⟨a, rfl⟩ := Int.eq_ofNat_of_zero_le (show 0 ≤ A by omega)
  obtain ⟨h, rfl⟩ := Int.eq_ofNat_of_zero_le (show 0 ≤ C by omega)
  simp only [Int.toNat_natCast] at hx1 ⊢
  exact dragNear a h x (by omega) (by omega) (by omega) (by omega) hx0 hx1 W
end Go.Proofs.YtbhkenphcahifaaGreat
namespace Go.Proofs.YtbhkenphcahifaaGreat
open Go.RowKit Go.Shelf
attribute [local go_sem] Oper.semAt_some
set_option maxRecDepth 100000
set_option maxHeartbeats 4000000
/-- an iterator that itself ranges over functions: it leaves records and marks behind, from the block s on; which blocks are its own (Fr), told against what lies between two rounds (J) -/
structure PrivG (s : Nat) (J : World → Prop) (Fr : Nat → World → Prop) : Prop where
  cells : ∀ W b, J W → Fr b W → ∃ o, W.heap[b]? = some o ∧ o.isCells = true
  new : ∀ W W2 b, J W → Below W.heap.size W W2 → W.heap.size ≤ b → (∃ o, W2.heap[b]? = some o ∧ o.isCells = true) → Fr b W2
  grow : ∀ W W2 b, J W → Fr b W → Below W.heap.size W W2 → Fr b W2
  jgrow : ∀ W W2, J W → Below W.heap.size W W2 → J W2
  jput : ∀ W b o o', J W → s ≤ b → W.heap[b]? = some o → o.isCells = false → J (W.putObj b o')
  fput : ∀ W b c o o', J W → Fr c W → s ≤ b → W.heap[b]? = some o → o.isCells = false → Fr c (W.putObj b o')
/-- what a round keeps for such an iterator -/
def Kx (lo : Nat) (Fr : Nat → World → Prop) (W W' : World) : Prop := Below lo W W' ∧ ∀ b, Fr b W → W'.heap[b]? = W.heap[b]? ∧ Fr b W'
theorem Kx.trans {lo : Nat} {Fr : Nat → World → Prop} {A B C : World} (h : Kx lo Fr A B) (k : Kx lo Fr B C) : Kx lo Fr A C :=
  ⟨h.1.trans k.1, fun b hb => ⟨((k.2 b (h.2 b hb).2).1).trans (h.2 b hb).1, (k.2 b (h.2 b hb).2).2⟩⟩
def SeqX {α : Type} (n : Nat) (gf : Nat) (lb : Array Value) (encs : α → Array Value) (Nd : List Nat) (lo : Nat) (L : List α) (w : World) : Prop :=
  ∀ (l : Nat) (J : List α → World → Prop) (Fr : Nat → World → Prop) (W : World), Below w.heap.size w W → (∀ b ∈ Nd, Fr b W) → (∀ pre, PrivG W.heap.size (J pre) Fr) →
    (∀ pre x W1, J pre W1 → pre ++ [x] <+: L → YieldAt Fence.wide (n - 1) Tryz.prog l (encs x) W1 fun e W' => e = .returned (.bool true) ∧ J (pre ++ [x]) W' ∧ Kx lo Fr W1 W' ∧ KeepsFrom W.heap.size W1 W') →
    J [] W → CallsIn Fence.wide n Tryz.prog gf (#[.func (.yield l) #[] #[]] ++ lb) W fun e W' => (∃ v, e = .returned v) ∧ J L W'
/-- what abides new blocks and stores into records from B on abides what a loop does -/
theorem own_of {α : Type} {B : Nat} {I : α → World → Prop} (hg : ∀ s X Y, I s X → Below X.heap.size X Y → I s Y) (hp : ∀ s X b o o', I s X → B ≤ b → X.heap[b]? = some o → o.isCells = false → I s (X.putObj b o')) : OwnFrom B I := by
  intro s X Y row hJ hgr hr
  cases row with
  | none => exact hg s X Y hJ (below_of_grown hgr)
  | some r =>
    obtain ⟨hB, o, ho, hc⟩ := hr r rfl
    obtain ⟨o', hb, _⟩ := grown_split hgr (Array.getElem?_eq_some_iff.1 ho).1
    exact hg s _ Y (hp s X r o o' hJ hB ho hc) hb
/-- a range over such an iterator, by a body that never leaves -/
theorem range_x {α : Type} {n : Nat} {g : Operand} {ps : Array Tmp} {assign body : Code} {Q : Exit → Act → World → Prop} {a : Act} {w : World} (h1 : 1 ≤ n) {gf : Nat} {lb : Array Value}
    (hg : a.eval g = .func (.func gf) #[] lb) (eg : ∀ args w, (callFunc gf args).run Tryz.prog w = .ok (.enter gf args) w) {encs : α → Array Value} {Nd : List Nat} {lo : Nat} {Fr : Nat → World → Prop} {L : List α}
    (hseq : SeqX (n - 1) gf lb encs Nd lo L w) (hnd : ∀ b ∈ Nd, Fr b w) (hlo : lo ≤ w.heap.size)
    (hps : ∀ x, (encs x).size = ps.size) (I : List α → World → Prop) (hG : ∀ pre, PrivG w.heap.size (I pre) Fr) (h0 : I [] w) (Ax : α → Act → World → Prop) (hAx : ∀ x a', OwnFrom w.heap.size (fun (_ : Unit) W => Ax x a' W))
    (hassign : ∀ (l : Nat) (pre : List α) (x : α) (W : World) (K : Act → World → Prop), I pre W → pre ++ [x] <+: L → (∀ a' W', KeepsFrom w.heap.size W W' → Kx lo Fr W W' → I pre W' → Ax x a' W' → K a' W') → assign.wpIn (Fence.wide.inRound l) (n - 1 - 1) Tryz.prog (Exit.then K (fun _ _ _ => False)) { tmps := (ps.zip (encs x)).foldl (fun t (p, v) => t.setIfInBounds p v) a.tmps, defers := [] } W)
    (hbody : ∀ (l : Nat) (pre : List α) (x : α) (a' : Act) (W : World), I pre W → Ax x a' W → pre ++ [x] <+: L → body.wpIn (Fence.wide.inRound l) (n - 1 - 1) Tryz.prog (ownPostG w.heap.size (Kx lo Fr) I (fun _ _ _ => False) (pre ++ [x]) W) a' W)
    (hdone : ∀ (D : Nat) (W : World), w.heap.size ≤ D → I L W → W.heap[D]? = some (.deferred (some [])) → Q .normal { a with defers := { target := .collected D, args := #[] } :: a.defers } W) :
    (Code.rangeFunc g ps assign body).wpIn Fence.wide n Tryz.prog Q a w := by
  have hI : OwnFrom w.heap.size I := own_of (fun s X Y h hb => (hG s).jgrow X Y h hb) (fun s X b o o' h hB ho hc => (hG s).jput X b o o' h hB ho hc)
  have hput : ∀ (pre : List α) (V : World) (l : Nat) (o o' : Obj), I pre V → w.heap.size ≤ l → V.heap[l]? = some o → o.isCells = false → Kx lo Fr V (V.putObj l o') := fun pre V l o o' hi hl ho hc =>
    ⟨⟨rfl, rfl, rfl, by simp [World.putObj], fun k hk => World.putObj_heap_other (by omega)⟩, fun b hb => ⟨World.putObj_heap_other (fun e => by subst e; obtain ⟨oc, h1, h2⟩ := (hG pre).cells V _ hi hb; rw [ho] at h1; cases h1; rw [hc] at h2; cases h2), (hG pre).fput V l b o o' hi hb hl ho hc⟩⟩
  refine wpIn_rangeFunc ?_
  intro fn hfn
  rw [show Fence.wide.round = none from rfl]
  let rc : LoopState → Option Code → Loop := fun st pe => { state := st, pending := pe, fn, tmps := a.tmps, params := ps, assign, body, defers := w.heap.size }
  obtain ⟨W1, hW1⟩ : ∃ W1, (w.alloc (.deferred (some []))).alloc (.loop (rc .ready none)) = W1 := ⟨_, rfl⟩
  have hb1 : Below w.heap.size w W1 := by
    rw [← hW1]; exact ((Below.refl _ w).alloc (Nat.le_refl _) _).alloc (by simp) _
  have hl1 : W1.heap[w.heap.size + 1]? = some (.loop (rc .ready none)) := by
    rw [← hW1]; have := World.alloc_heap_new (w.alloc (.deferred (some []))) (.loop (rc .ready none)); rwa [World.size_alloc] at this
  have hk1 : W1.heap[w.heap.size]? = some (.deferred (some [])) := by
    rw [← hW1]; exact (Below.heap_alloc _ _ _ (by simp)).trans (World.alloc_heap_new w _)
  have hi1 : I [] W1 := by rw [← hW1]; exact hI.alloc _ (hI.alloc _ h0)
  refine ⟨w.heap.size + 1, [{ target := .collected w.heap.size, args := #[] }], W1, { target := .fn (.func gf) lb, args := #[.func (.yield (w.heap.size + 1)) #[] #[]] }, W1, gf,
    #[.func (.yield (w.heap.size + 1)) #[] #[]] ++ lb, W1, ?_, ?_, ?_, ?_, fun _ => h1, ?_⟩
  · rw [← hW1]; exact run_enterLoop_outer _ _ _ _ _
  · simp only [resolve, hg]
    simp [go_sem]
  · intro f' hf'; trivial
  · simp [invoke, go_sem, eg]
  · have hz1 : W1.heap.size = w.heap.size + 2 := by rw [← hW1]; simp
    refine (hseq (w.heap.size + 1) (fun pre W => I pre W ∧ W.heap[w.heap.size + 1]? = some (.loop (rc .ready none)) ∧ W.heap[w.heap.size]? = some (.deferred (some []))) Fr W1 hb1 (fun b hb => (hG []).grow w W1 b h0 (hnd b hb) hb1) ?_ ?_ ⟨hi1, hl1, hk1⟩).mono ?_
    · intro pre
      have p := hG pre
      refine ⟨fun W b hj => p.cells W b hj.1, fun W W2 b hj => p.new W W2 b hj.1, fun W W2 b hj => p.grow W W2 b hj.1, fun W W2 hj hb => ⟨p.jgrow W W2 hj.1 hb, ?_, ?_⟩, fun W b o o' hj hb ho hc => ⟨p.jput W b o o' hj.1 (by omega) ho hc, ?_, ?_⟩, fun W b c o o' hj hf hb ho hc => p.fput W b c o o' hj.1 hf (by omega) ho hc⟩
      · rw [hb.block _ (Array.getElem?_eq_some_iff.1 hj.2.1).1]; exact hj.2.1
      · rw [hb.block _ (Array.getElem?_eq_some_iff.1 hj.2.2).1]; exact hj.2.2
      · exact (World.putObj_heap_other (by omega)).trans hj.2.1
      · exact (World.putObj_heap_other (by omega)).trans hj.2.2
    · rintro pre x W ⟨hi, hl, hk⟩ hlen
      refine ⟨fn, _, assign, body, run_yield (P := Tryz.prog) (args := encs x) hl (hps x), roundIn_of_wpIn hfn (hassign _ pre x W _ hi hlen (fun a' V hkv hkpv hiv hax => ?_))⟩
      have hlv := hkv.same _ _ (by omega) hl rfl
      have hkv2 := hkv.same _ _ (Nat.le_refl _) hk rfl
      have hlt : w.heap.size + 1 < V.heap.size := (Array.getElem?_eq_some_iff.1 hlv).1
      refine ⟨_, run_beginRound hlv rfl, ?_⟩
      have hl2 := World.putObj_heap_same (w := V) (o := .loop { rc .ready none with state := .busy }) hlt
      have hk2 : (V.putObj (w.heap.size + 1) (.loop { rc .ready none with state := .busy })).heap[w.heap.size]? = some (.deferred (some [])) := (World.putObj_heap_other (by omega)).trans hkv2
      have hiv2 := hI.putObj (.loop { rc .ready none with state := .busy }) hiv (by omega) hlv rfl
      refine wpIn_mono (hbody (w.heap.size + 1) pre x a' _ hiv2 ((hAx x a').putObj (s := ()) _ hax (by omega) hlv rfl) hlen) ?_
      rintro e a3 W3 hp
      cases e with
      | normal =>
        obtain ⟨hk3, hkp3, hi3⟩ := hp
        have hl3 := hk3.same _ _ (by omega) hl2 rfl
        have hk4 := hk3.same _ _ (Nat.le_refl _) hk2 rfl
        have hkf : ∀ (U : World) (o' : Obj), w.heap.size + 1 < U.heap.size → KeepsFrom W1.heap.size U (U.putObj (w.heap.size + 1) o') := fun U o' hv => ⟨by simp [World.putObj], fun k o hk ho _ => (World.putObj_heap_other (by omega)).trans ho⟩
        have hk5 : KeepsFrom W1.heap.size (V.putObj (w.heap.size + 1) (.loop { rc .ready none with state := .busy })) W3 := ⟨hk3.size, fun k o hk ho hc => hk3.same k o (by omega) ho hc⟩
        have hk6 : KeepsFrom W1.heap.size W V := ⟨hkv.size, fun k o hk ho hc => hkv.same k o (by omega) ho hc⟩
        exact ⟨_, _, run_endRound (P := Tryz.prog) none hl3, rfl, ⟨hI.putObj _ hi3 (by omega) hl3 rfl, World.putObj_heap_same (Array.getElem?_eq_some_iff.1 hl3).1, (World.putObj_heap_other (by omega)).trans hk4⟩, Kx.trans hkpv (Kx.trans (Kx.trans (hput pre V _ _ _ hiv (by omega) hlv rfl) hkp3) (hput _ W3 _ _ _ hi3 (by omega) hl3 rfl)), hk6.trans (((hkf V _ hlt).trans hk5).trans (hkf W3 _ (Array.getElem?_eq_some_iff.1 hl3).1))⟩
      | ret => exact hp.2.elim
      | exit id => exact hp.2.elim
      | goto t => exact hp.2.elim
      | panic ch => exact hp.elim
      | outgrown => exact hp.elim
    · rintro e W2 ⟨⟨v, rfl⟩, hi, hl, hk⟩
      exact ⟨none, _, run_endLoop (P := Tryz.prog) hl (by simp), hdone _ _ (Nat.le_refl _) (hI.putObj _ hi (by omega) hl rfl) ((World.putObj_heap_other (by omega)).trans hk)⟩
/-- a function leaves through its marks: what abides stores into records holds behind them -/
theorem leaves_marksP {F : Fence} {n : Nat} {P : Program} {fn : Func} {tmps : Array Value} {R : Ending → World → Prop} {B : Nat} (Φ : World → Prop) (hp : ∀ X b o o', Φ X → B ≤ b → X.heap[b]? = some o → o.isCells = false → Φ (X.putObj b o')) : ∀ (Ds : List Nat) (w : World), Marks B Ds w → Φ w → (∀ w', Φ w' → LeavesIn F n P fn tmps R [] .returning w') → LeavesInM F n P fn tmps R (Ds.map mk) .returning w
  | [], w, _, hw, h => h w hw
  | D :: Ds, w, hm, hw, h => by
    have hD := hm.open_ D (by simp)
    have hn := List.nodup_cons.1 hm.nodup
    refine ⟨by simp, .inl ⟨D, _, rfl, run_takeDeferred hD.2, ?_⟩⟩
    refine leaves_marksP Φ hp Ds _ ⟨fun E hE => ⟨(hm.open_ E (by simp [hE])).1, ?_⟩, hn.2⟩ (hp w D _ _ hw hD.1 hD.2 rfl) h
    have hne : E ≠ D := by rintro rfl; exact hn.1 hE
    exact (World.putObj_heap_other hne).trans (hm.open_ E (by simp [hE])).2
/-- what is captured, the iterator's own -/
def CapG (Fr : Nat → World → Prop) (cs : List (Nat × Obj)) (W : World) : Prop := ∀ p ∈ cs, Fr p.1 W ∧ W.heap[p.1]? = some p.2
theorem CapG.below {s : Nat} {J : World → Prop} {Fr : Nat → World → Prop} {cs : List (Nat × Obj)} {W W' : World} (h : CapG Fr cs W) (g : PrivG s J Fr) (hJ : J W) (hb : Below W.heap.size W W') : CapG Fr cs W' := fun p hp => ⟨g.grow W W' _ hJ (h p hp).1 hb, heapB hb (h p hp).2⟩
theorem CapG.put {s : Nat} {J : World → Prop} {Fr : Nat → World → Prop} {cs : List (Nat × Obj)} {W : World} (h : CapG Fr cs W) (g : PrivG s J Fr) (hJ : J W) {b : Nat} {o : Obj} (o' : Obj) (hb : s ≤ b) (ho : W.heap[b]? = some o) (hc : o.isCells = false) : CapG Fr cs (W.putObj b o') := fun p hp => by
  refine ⟨g.fput W b _ o o' hJ (h p hp).1 hb ho hc, (World.putObj_heap_other (fun e => ?_)).trans (h p hp).2⟩
  obtain ⟨oc, h1, h2⟩ := g.cells W _ hJ (h p hp).1
  rw [e, ho] at h1; cases h1; rw [hc] at h2; cases h2
theorem CapG.kx {lo : Nat} {Fr : Nat → World → Prop} {cs : List (Nat × Obj)} {W W' : World} (h : CapG Fr cs W) (k : Kx lo Fr W W') : CapG Fr cs W' := fun p hp => ⟨(k.2 _ (h p hp).1).2, ((k.2 _ (h p hp).1).1).trans (h p hp).2⟩
theorem CapG.has {Fr : Nat → World → Prop} {cs : List (Nat × Obj)} {W : World} (h : CapG Fr cs W) : Has cs W := fun p hp => (h p hp).2
theorem Has.m2 {p q s : Nat × Obj} {r : List (Nat × Obj)} {W : World} (h : Has (p :: q :: s :: r) W) : W.heap[s.1]? = some s.2 := h s (by simp)
theorem Marks.put {B : Nat} {Ds : List Nat} {W : World} (h : Marks B Ds W) {b : Nat} (o' : Obj) (hb : ∀ D ∈ Ds, D < b) : Marks B Ds (W.putObj b o') := h.keep fun D hD => World.putObj_heap_other (by have := hb D hD; omega)
theorem Marks.from {B s : Nat} {Ds : List Nat} {W W' : World} (h : Marks B Ds W) (k : KeepsFrom s W W') (hs : s ≤ B) : Marks B Ds W' := ⟨fun D hD => ⟨(h.open_ D hD).1, k.same D _ (by have := (h.open_ D hD).1; omega) (h.open_ D hD).2 rfl⟩, h.nodup⟩
/-- a yield inside another loop's round -/
theorem YieldAt.inRound {m l : Nat} {P : Program} {args : Array Value} {W : World} {R : Ending → World → Prop} (l' : Nat) (h : YieldAt Fence.wide m P l args W R) : YieldAt (Fence.wide.inRound l') m P l args W R := h
end Go.Proofs.YtbhkenphcahifaaGreat
namespace Go.Proofs.YtbhkenphcahifaaGreat
open Go.RowKit Go.Shelf
attribute [local go_sem] Oper.semAt_some
set_option maxRecDepth 100000
set_option maxHeartbeats 4000000
/-- the links of a switch to those behind it; all links -/
def selL (x : Int) (l : List Int) : List (Int × Int) := (l.filter fun y => decide (x < y)).map fun y => (x, y)
def lkL (NB : Int → List Int) : Nat → List (Int × Int)
  | 0 => []
  | x + 1 => lkL NB x ++ selL (x : Int) (NB (x : Int))
theorem selL_snoc (x : Int) (l : List Int) (y : Int) : selL x (l ++ [y]) = selL x l ++ (if x < y then [(x, y)] else []) := by
  unfold selL
  by_cases h : x < y
  · simp [List.filter_append, h]
  · simp [List.filter_append, h]
theorem lkL_mono0 (NB : Int → List Int) {a b : Nat} (h : a ≤ b) : ∃ r, lkL NB b = lkL NB a ++ r := by
  induction b with
  | zero => obtain rfl : a = 0 := by omega
            exact ⟨[], by simp⟩
  | succ b ih =>
    by_cases hab : a = b + 1
    · subst hab; exact ⟨[], by simp⟩
    · obtain ⟨r, hr⟩ := ih (by omega)
      exact ⟨r ++ selL (b : Int) (NB (b : Int)), by rw [lkL, hr, List.append_assoc]⟩
theorem selL_mono (x : Int) {a b : List Int} (h : a <+: b) : selL x a <+: selL x b := by
  obtain ⟨r, rfl⟩ := h
  unfold selL
  rw [List.filter_append, List.map_append]
  exact List.prefix_append _ _
theorem lkL_pre (NB : Int → List Int) {x sw : Nat} (hx : x < sw) {l : List Int} (h : l <+: NB (x : Int)) : lkL NB x ++ selL (x : Int) l <+: lkL NB sw := by
  have h1 : lkL NB x ++ selL (x : Int) l <+: lkL NB (x + 1) := by
    obtain ⟨r, hr⟩ := selL_mono (x : Int) h
    exact ⟨r, by rw [lkL, ← hr, List.append_assoc]⟩
  obtain ⟨r, hr⟩ := lkL_mono0 NB (show x + 1 ≤ sw from hx)
  exact h1.trans ⟨r, hr.symm⟩
theorem Marks.grown {B : Nat} {Ds : List Nat} {w w' : World} (h : Marks B Ds w) (hb : Below w.heap.size w w') : Marks B Ds w' := h.keep fun D hD => hb.block _ (h.lt hD)
theorem YieldAt.any {m m' l : Nat} {P : Program} {args : Array Value} {W : World} {R : Ending → World → Prop} (h : YieldAt Fence.wide m P l args W R) : YieldAt Fence.wide m' P l args W R := by
  obtain ⟨fn, tm, as_, bd, hy, hR⟩ := h
  exact ⟨fn, tm, as_, bd, hy, hR.1, fun c cs _ => hR.2 c cs (room_wide _)⟩
abbrev encL : Int × Int → Array Value := fun p => #[.agg #[.int .i64 p.1, .int .i64 p.2]]
theorem linksIter (Bn : Nat) (rcv : Value) (ty fs fn sw : Nat) (ho : Int) (NB : Int → List Int) (lo : Nat) {w : World} (hlo : lo ≤ w.heap.size) (hsw : sw ≤ 1000)
    (hms : ∀ W, (method 330 ty rcv "armada/net.size").run Tryz.prog W = .ok (fs, rcv) W) (hmn : ∀ W, (method 330 ty rcv "armada/net.neighbors").run Tryz.prog W = .ok (fn, rcv) W)
    (hes : ∀ args W, (callFunc fs args).run Tryz.prog W = .ok (.enter fs args) W) (hen : ∀ args W, (callFunc fn args).run Tryz.prog W = .ok (.enter fn args) W)
    (hsz : ∀ W, Below lo w W → Calls Tryz.prog fs #[rcv] W fun e w' => e = .returned (.tuple #[.int .i64 (sw : Int), .int .i64 ho]) ∧ Below W.heap.size W w')
    (hnb : ∀ (x : Nat), x < sw → ∀ W, Below lo w W → VMake fn #[rcv, .int .i64 (x : Int)] (NB (x : Int)) W.heap.size W)
    (q0 : w.heap[Bn]? = some (.cells #[.iface ty rcv] 96 (0, 0))) (n : Nat) :
    SeqX n 93 #[.pointer (some ⟨Bn, 0, none⟩)] encL [Bn] lo (lkL NB sw) w := by
  intro ll J Fr W hW hnd hG hY h0
  have HSZ := Lib.hid hsz
  have HNB := Lib.hid hnb
  have HLO := Lib.hid hlo
  have HG := Lib.hid hG
  have HY := Lib.hid hY
  have q1 : (W.alloc (.cells #[.func (.yield ll) #[] #[]] 150)).heap[W.heap.size]? = some (.cells #[.func (.yield ll) #[] #[]] 150 (0, 0)) := heap_alloc_new W _
  have hba : Below W.heap.size W (W.alloc (.cells #[.func (.yield ll) #[] #[]] 150)) := (Below.refl _ _).alloc (Nat.le_refl _) _
  have HC : Hid (CapG Fr [(Bn, .cells #[.iface ty rcv] 96 (0, 0)), (W.heap.size, .cells #[.func (.yield ll) #[] #[]] 150 (0, 0))] (W.alloc (.cells #[.func (.yield ll) #[] #[]] 150))) := by
    intro p hp
    simp only [List.mem_cons, List.not_mem_nil, or_false] at hp
    rcases hp with rfl | rfl
    · exact ⟨(hG []).grow _ _ _ h0 (hnd _ (by simp)) hba, heapB hba (heapB hW q0)⟩
    · exact ⟨(hG []).new _ _ _ h0 hba (Nat.le_refl _) ⟨_, q1, rfl⟩, q1⟩
  have HJ : Hid (J [] (W.alloc (.cells #[.func (.yield ll) #[] #[]] 150))) := (hG []).jgrow _ _ h0 hba
  have HB : Hid (Below lo w (W.alloc (.cells #[.func (.yield ll) #[] #[]] 150))) := (hW.mono hlo).trans (hba.mono (Nat.le_trans hlo hW.size))
  have HS : Hid (W.heap.size < (W.alloc (.cells #[.func (.yield ll) #[] #[]] 150)).heap.size) := by show _ < _; simp
  have HWS : Hid (w.heap.size ≤ W.heap.size) := hW.size
  have c0 := cellR 0 HC.out.has.m0 rfl
  clear hsz hnb hlo hG hY hW hnd h0 q0 q1 hba
  refine callsIn_wide.2 ((callsIn_wide (n := 4)).1 ?_)
  refine callsIn_of_wp_marks Tryz.func93 rfl trivial ?_ rfl
  simp only [Tryz.ntmps93, List.size_toArray, List.length_cons, List.length_nil, Nat.reduceAdd, Nat.reduceSub, Array.replicate_succ, Array.replicate_zero, List.push_toArray, List.append_toArray, List.nil_append, List.cons_append]
  gi_wp2
  obtain ⟨s, hs⟩ : ∃ s, s = W.heap.size := ⟨_, rfl⟩
  rw [← hs] at HC HS HWS
  have HSE := Lib.hid hs
  generalize W.alloc (.cells #[.func (.yield ll) #[] #[]] 150) = X at *
  rw [← hs]
  clear hs c0
  refine ⟨trivial, callsIn_wide.2 ((HSZ.out X HB.out).mono ?_)⟩
  rintro e w1 ⟨rfl, hb1⟩
  have HC1 := Lib.hid (HC.out.below (HG.out _) HJ.out hb1)
  have HJ1 := Lib.hid ((HG.out _).jgrow _ _ HJ.out hb1)
  have HB1 := Lib.hid (HB.out.trans (hb1.mono (Nat.le_trans HLO.out HB.out.size)))
  have HS1 : Hid (s < w1.heap.size) := Nat.lt_of_lt_of_le HS.out hb1.size
  clear HC HJ HB HS hb1 HSZ hms hes
  gi_wp2
  refine wpIn_loop (fun a W' => ∃ (x : Nat) (Ds : List Nat) (u5 u14 u15 u16 u17 u18 u31 : Value), x ≤ sw ∧ Hid (J (lkL NB x) W' ∧ CapG Fr [(Bn, .cells #[.iface ty rcv] 96 (0, 0)), (s, .cells #[.func (.yield ll) #[] #[]] 150 (0, 0))] W' ∧ Marks s Ds W' ∧ Below lo w W' ∧ s < W'.heap.size) ∧ a = ⟨#[Value.func (Fn.yield ll) #[] #[], Value.pointer (some ⟨Bn, 0, none⟩), Value.pointer (some ⟨s, 0, none⟩), Value.int IntKind.i64 ((sw : Int)), Value.int IntKind.i64 (ho), u5, undef, Value.tuple #[Value.int IntKind.i64 ((sw : Int)), Value.int IntKind.i64 (ho)], Value.iface ty rcv, Value.tuple #[Value.int IntKind.i64 ((sw : Int)), Value.int IntKind.i64 (ho)], Value.int IntKind.i64 ((sw : Int)), Value.int IntKind.i64 (ho), Value.int IntKind.i64 ((sw : Int)), Value.int IntKind.i64 ((x : Int)), u14, u15, u16, u17, u18, undef, undef, undef, undef, undef, undef, undef, undef, undef, undef, undef, undef, u31], Ds.map mk⟩) (fun a _ => sw - (intOf (a.tmps.getD 13 undef)).toNat) ⟨0, [], undef, undef, undef, undef, undef, undef, undef, Nat.zero_le _, ⟨HJ1.out, HC1.out, Marks.nil _ _, HB1.out, HS1.out⟩, rfl⟩ ?_
  clear HJ1 HC1 HB1 HS1
  rintro a wr ⟨x, Ds, u5, u14, u15, u16, u17, u18, u31, hx, HI, rfl⟩
  by_cases hlt : x < sw
  · have d1 : decide ((x : Int) < (sw : Int)) = true := decide_eq_true (by omega)
    obtain ⟨bx, hbx⟩ : ∃ bx, bx = wr.heap.size := ⟨_, rfl⟩
    have HBX := Lib.hid hbx
    have hba : Below wr.heap.size wr (wr.alloc (.cells #[.int .i64 (x : Int)] 3)) := (Below.refl _ _).alloc (Nat.le_refl _) _
    have qb : (wr.alloc (.cells #[.int .i64 (x : Int)] 3)).heap[wr.heap.size]? = some (.cells #[.int .i64 (x : Int)] 3 (0, 0)) := heap_alloc_new wr _
    have HV : Hid (J (lkL NB x) (wr.alloc (.cells #[.int .i64 (x : Int)] 3)) ∧ CapG Fr [(Bn, .cells #[.iface ty rcv] 96 (0, 0)), (s, .cells #[.func (.yield ll) #[] #[]] 150 (0, 0)), (bx, .cells #[.int .i64 (x : Int)] 3 (0, 0))] (wr.alloc (.cells #[.int .i64 (x : Int)] 3)) ∧ Marks s Ds (wr.alloc (.cells #[.int .i64 (x : Int)] 3)) ∧ Below lo w (wr.alloc (.cells #[.int .i64 (x : Int)] 3)) ∧ s < (wr.alloc (.cells #[.int .i64 (x : Int)] 3)).heap.size) := by
      obtain ⟨i1, i2, i3, i4, i5⟩ := HI.out
      refine ⟨(HG.out _).jgrow _ _ i1 hba, ?_, i3.grown hba, i4.trans (hba.mono (Nat.le_trans HLO.out i4.size)), Nat.lt_of_lt_of_le i5 hba.size⟩
      have hc := i2.below (HG.out _) i1 hba
      intro p hp
      simp only [List.mem_cons, List.not_mem_nil, or_false] at hp
      rcases hp with rfl | rfl | rfl
      · exact hc _ (by simp)
      · exact hc _ (by simp)
      · rw [HBX.out]; exact ⟨(HG.out _).new _ _ _ i1 hba (Nat.le_refl _) ⟨_, qb, rfl⟩, qb⟩
    have HMX : Hid (∀ D ∈ Ds, D < bx) := fun D hD => by rw [HBX.out]; exact HI.out.2.2.1.lt hD
    clear qb hba HI
    have c0 := cellR 0 HV.out.2.1.has.m0 rfl
    have cb := cellR 0 HV.out.2.1.has.m2 rfl
    rw [hbx] at cb
    gi_wp2
    clear c0 cb
    rw [← hbx]
    generalize wr.alloc (.cells #[.int .i64 (x : Int)] 3) = V at *
    clear hbx
    have HN1 : Hid (Calls Tryz.prog fn #[rcv, .int .i64 (x : Int)] V fun e w' => ∃ gf lb, e = .returned (.func (.func gf) #[] lb) ∧ VIter gf lb (NB (x : Int)) V.heap.size w' ∧ Below V.heap.size V w') := HNB.out x hlt V HV.out.2.2.2.1
    refine ⟨trivial, callsIn_wide.2 (HN1.out.mono ?_)⟩
    rintro e w2 ⟨gf, lb, rfl, hvi, hb2⟩
    obtain ⟨heg, Nd, hNd, hSq⟩ := hvi
    have HNF : Hid (∀ b ∈ Nd, Fr b w2) := fun b hb => (HG.out _).new V w2 b HV.out.1 hb2 (hNd b hb).1 (hNd b hb).2
    have hNl : ∀ b ∈ Nd, b < w2.heap.size := fun b hb => by obtain ⟨_, o, h2, _⟩ := hNd b hb; exact (Array.getElem?_eq_some_iff.1 h2).1
    have HW2 : Hid (J (lkL NB x) w2 ∧ CapG Fr [(Bn, .cells #[.iface ty rcv] 96 (0, 0)), (s, .cells #[.func (.yield ll) #[] #[]] 150 (0, 0)), (bx, .cells #[.int .i64 (x : Int)] 3 (0, 0))] w2 ∧ Marks s Ds w2 ∧ Below lo w w2 ∧ s < w2.heap.size) := by
      obtain ⟨i1, i2, i3, i4, i5⟩ := HV.out
      exact ⟨(HG.out _).jgrow _ _ i1 hb2, i2.below (HG.out _) i1 hb2, i3.grown hb2, i4.trans (hb2.mono (Nat.le_trans HLO.out i4.size)), Nat.lt_of_lt_of_le i5 hb2.size⟩
    have HVW : Hid (V.heap.size ≤ w2.heap.size) := hb2.size
    have HBV : Hid (bx < V.heap.size) := (Array.getElem?_eq_some_iff.1 HV.out.2.1.has.m2).1
    clear HV HN1 hb2 hNd
    have HSQ := Lib.hid (fun n => hSq n)
    clear hSq
    gi_wp2
    refine range_r (L := NB (x : Int)) (Nd := Nd) (by omega) rfl heg (HSQ.out _) hNl (fun _ => rfl) (fun pre W' => (J (lkL NB x ++ selL (x : Int) pre) W' ∧ CapG Fr [(Bn, .cells #[.iface ty rcv] 96 (0, 0)), (s, .cells #[.func (.yield ll) #[] #[]] 150 (0, 0)), (bx, .cells #[.int .i64 (x : Int)] 3 (0, 0))] W' ∧ Marks s Ds W' ∧ Below lo w W' ∧ s < W'.heap.size) ∧ (∀ b ∈ Nd, Fr b W')) ?hI ?grow ⟨by rw [show selL (x : Int) [] = [] from rfl, List.append_nil]; exact HW2.out, HNF.out⟩ (fun y => ⟨#[Value.func (Fn.yield ll) #[] #[], Value.pointer (some ⟨Bn, 0, none⟩), Value.pointer (some ⟨s, 0, none⟩), Value.int IntKind.i64 ((sw : Int)), Value.int IntKind.i64 (ho), Value.pointer (some ⟨bx, 0, none⟩), Value.int IntKind.i64 (y), Value.tuple #[Value.int IntKind.i64 ((sw : Int)), Value.int IntKind.i64 (ho)], Value.iface ty rcv, Value.tuple #[Value.int IntKind.i64 ((sw : Int)), Value.int IntKind.i64 (ho)], Value.int IntKind.i64 ((sw : Int)), Value.int IntKind.i64 (ho), Value.int IntKind.i64 ((sw : Int)), Value.int IntKind.i64 ((x : Int)), Value.bool true, Value.int IntKind.i64 ((x : Int)), Value.iface ty rcv, Value.int IntKind.i64 ((x : Int)), Value.func (Fn.func gf) #[] lb, Value.int IntKind.i64 (y), undef, undef, undef, undef, undef, undef, undef, undef, undef, undef, undef, u31], []⟩) ?assign ?body ?done
    case hI =>
      refine own_of ?_ ?_
      · rintro pre A B ⟨⟨i1, i2, i3, i4, i5⟩, i6⟩ hb
        exact ⟨⟨(HG.out _).jgrow _ _ i1 hb, i2.below (HG.out _) i1 hb, i3.grown hb, i4.trans (hb.mono (Nat.le_trans HLO.out i4.size)), Nat.lt_of_lt_of_le i5 hb.size⟩, fun b hm => (HG.out _).grow _ _ _ i1 (i6 b hm) hb⟩
      · rintro pre A b o o' ⟨⟨i1, i2, i3, i4, i5⟩, i6⟩ hB ho hc
        have hsb : W.heap.size ≤ b := by rw [← HSE.out]; have := HW2.out.2.2.2.2; omega
        have hlb : lo ≤ b := by have h7 := HLO.out; have h8 := HWS.out; rw [HSE.out] at h8; omega
        refine ⟨⟨(HG.out _).jput A b o o' i1 hsb ho hc, i2.put (HG.out _) i1 o' hsb ho hc, i3.put o' (fun D hD => by have h7 := HMX.out D hD; have h8 := HBV.out; have h9 := HVW.out; omega), i4.trans ⟨rfl, rfl, rfl, by simp [World.putObj], fun k hk => World.putObj_heap_other (by omega)⟩, by simpa [World.putObj] using i5⟩, fun c hm => (HG.out _).fput A b c o o' i1 (i6 c hm) hsb ho hc⟩
    case grow =>
      rintro pre A B ⟨⟨i1, i2, i3, i4, i5⟩, i6⟩ hb
      exact ⟨⟨(HG.out _).jgrow _ _ i1 hb, i2.below (HG.out _) i1 hb, i3.grown hb, i4.trans (hb.mono (Nat.le_trans HLO.out i4.size)), Nat.lt_of_lt_of_le i5 hb.size⟩, fun b hm => (HG.out _).grow _ _ _ i1 (i6 b hm) hb⟩
    case assign =>
      intro q y W' K hK
      gi_wp2
      exact hK
    case body =>
      rintro q pre y W' ⟨⟨i1, i2, i3, i4, i5⟩, i6⟩ hpre
      have cs := cellR 0 i2.has.m1 rfl
      have cb := cellR 0 i2.has.m2 rfl
      by_cases hxy : (x : Int) < y
      · have d2 : decide ((x : Int) < y) = true := decide_eq_true hxy
        have HNX : Hid (lkL NB x ++ selL (x : Int) (pre ++ [y]) = lkL NB x ++ selL (x : Int) pre ++ [((x : Int), y)]) := by show _ = _; rw [selL_snoc, if_pos hxy, List.append_assoc]
        have HPR : Hid (lkL NB x ++ selL (x : Int) pre ++ [((x : Int), y)] <+: lkL NB sw) := by show _ <+: _; rw [← HNX.out]; exact lkL_pre NB hlt hpre
        obtain ⟨fn2, tm, as_, bd, hy, hR⟩ := YieldAt.inRound q (YieldAt.any (m' := 1) (HY.out _ ((x : Int), y) W' i1 HPR.out))
        have HKS : Hid (∀ A, KeepsFrom W.heap.size W' A → KeepsFrom w2.heap.size W' A) := fun A hk => ⟨hk.size, fun j o hj ho hc => hk.same j o (by have h7 := HW2.out.2.2.2.2; rw [← HSE.out]; omega) ho hc⟩
        have HI3 := Lib.hid i3
        have HI4 := Lib.hid i4
        have HI2 := Lib.hid i2
        have HI6 := Lib.hid i6
        have HI5 := Lib.hid i5
        clear hpre i2 i3 i4 i5 i6 i1
        gi_wp2
        refine hR.mono ?_
        rintro e W3 ⟨rfl, j1, jk, jf⟩
        have HP3 : Hid (KeepsFrom w2.heap.size W' W3 ∧ (∀ b ∈ Nd, W3.heap[b]? = W'.heap[b]?) ∧ (J (lkL NB x ++ selL (x : Int) (pre ++ [y])) W3 ∧ CapG Fr [(Bn, .cells #[.iface ty rcv] 96 (0, 0)), (s, .cells #[.func (.yield ll) #[] #[]] 150 (0, 0)), (bx, .cells #[.int .i64 (x : Int)] 3 (0, 0))] W3 ∧ Marks s Ds W3 ∧ Below lo w W3 ∧ s < W3.heap.size) ∧ (∀ b ∈ Nd, Fr b W3)) := by
          refine ⟨HKS.out _ jf, fun b hm => (jk.2 b (HI6.out b hm)).1, ⟨by rw [HNX.out]; exact j1, HI2.out.kx jk, HI3.out.from jf (by rw [← HSE.out]; exact Nat.le_refl _), HI4.out.trans jk.1, Nat.lt_of_lt_of_le HI5.out jf.size⟩, fun b hm => (jk.2 b (HI6.out b hm)).2⟩
        clear hy hR j1 jk jf cs cb HKS HI2 HI3 HI4 HI5 HI6
        gi_wp2
        exact HP3.out
      · have d2 : decide ((x : Int) < y) = false := decide_eq_false hxy
        have HNX : Hid (lkL NB x ++ selL (x : Int) (pre ++ [y]) = lkL NB x ++ selL (x : Int) pre) := by show _ = _; rw [selL_snoc, if_neg hxy, List.append_nil]
        have HP3 : Hid ((J (lkL NB x ++ selL (x : Int) (pre ++ [y])) W' ∧ CapG Fr [(Bn, .cells #[.iface ty rcv] 96 (0, 0)), (s, .cells #[.func (.yield ll) #[] #[]] 150 (0, 0)), (bx, .cells #[.int .i64 (x : Int)] 3 (0, 0))] W' ∧ Marks s Ds W' ∧ Below lo w W' ∧ s < W'.heap.size) ∧ (∀ b ∈ Nd, Fr b W')) := ⟨⟨by rw [HNX.out]; exact i1, i2, i3, i4, i5⟩, i6⟩
        clear i1 i2 i3 i4 i5 i6 hpre
        gi_wp2
        refine ⟨fun f hf => (by cases hf), ?_⟩
        gi_wp2
        exact ⟨KeepsFrom.refl _ _, fun _ _ => rfl, HP3.out⟩
    case done =>
      rintro D W' hD ⟨⟨i1, i2, i3, i4, i5⟩, i6⟩ hK
      have HI3 : Hid (J (lkL NB (x + 1)) W' ∧ CapG Fr [(Bn, .cells #[.iface ty rcv] 96 (0, 0)), (s, .cells #[.func (.yield ll) #[] #[]] 150 (0, 0))] W' ∧ Marks s (D :: Ds) W' ∧ Below lo w W' ∧ s < W'.heap.size) := by
        refine ⟨i1, fun p hp => i2 p (by simp at hp ⊢; rcases hp with h | h <;> simp [h]), ?_, i4, i5⟩
        refine ⟨fun E hE => ?_, List.nodup_cons.2 ⟨fun hE => ?_, i3.nodup⟩⟩
        · rcases List.mem_cons.1 hE with rfl | hE
          · exact ⟨by have := HW2.out.2.2.2.2; omega, hK⟩
          · exact i3.open_ E hE
        · have h7 := HMX.out D hE; have h8 := HBV.out; have h9 := HVW.out; omega
      have HWI := Lib.hid (wrap_small ((x : Int) + 1) (by omega) (by omega))
      have HCS : Hid (((x : Int) + 1) = ((x + 1 : Nat) : Int)) := by show _ = _; rw [Int.natCast_add]; rfl
      have HME : Hid (sw - (intOf (.int .i64 ((x : Int) + 1))).toNat < sw - (intOf (.int .i64 (x : Int))).toNat) := by show _ < _; simp [intOf]; omega
      have HK1 : Hid (x + 1 ≤ sw) := hlt
      clear i1 i2 i3 i4 i5 i6 hK
      gi_wp2
      refine ⟨?_, HME.out⟩
      rw [HCS.out]
      exact ⟨x + 1, D :: Ds, _, _, _, _, _, _, _, HK1.out, HI3, rfl⟩
  · have hxs : x = sw := by omega
    have d1 : decide ((x : Int) < (sw : Int)) = false := decide_eq_false (by omega)
    have HI9 := HI
    gi_wp2
    refine leaves_marksP (B := s) (fun X => J (lkL NB sw) X) (fun X b o o' h hB ho hc => (HG.out _).jput X b o o' h (by rw [← HSE.out]; exact hB) ho hc) Ds _ HI9.out.2.2.1 (by rw [← hxs]; exact HI9.out.1) (fun w' hw => ?_)
    refine ⟨.tuple #[], ?_, ⟨_, rfl⟩, hw⟩
    simp [results, Tryz.results93, go_sem]
end Go.Proofs.YtbhkenphcahifaaGreat
namespace Go.Proofs.YtbhkenphcahifaaGreat
open Go.RowKit Go.Shelf
attribute [local go_sem] Oper.semAt_some
set_option maxRecDepth 100000
set_option maxHeartbeats 4000000
/-- the neighbors of a switch in any network -/
def nbS (kind : Int) (l : List Int) (x : Int) : List Int := if kind = 1 then nbL l x else if kind = 2 then nbT (l.getD 0 0).toNat (l.getD 1 0).toNat x else nbD (l.getD 0 0).toNat (l.getD 1 0).toNat x
/-- what is known of a network behind its interface -/
structure NetK (w0 : World) (lo ty fs fn : Nat) (rcv : Value) (sw : Nat) (ho : Int) (NB : Int → List Int) : Prop where
  ms : ∀ W, (method 330 ty rcv "armada/net.size").run Tryz.prog W = .ok (fs, rcv) W
  mn : ∀ W, (method 330 ty rcv "armada/net.neighbors").run Tryz.prog W = .ok (fn, rcv) W
  es : ∀ args W, (callFunc fs args).run Tryz.prog W = .ok (.enter fs args) W
  en : ∀ args W, (callFunc fn args).run Tryz.prog W = .ok (.enter fn args) W
  sz : ∀ W, Below lo w0 W → Calls Tryz.prog fs #[rcv] W fun e w' => e = .returned (.tuple #[.int .i64 (sw : Int), .int .i64 ho]) ∧ Below W.heap.size W w'
  nb : ∀ (x : Nat), x < sw → ∀ W, Below lo w0 W → VMake fn #[rcv, .int .i64 (x : Int)] (NB (x : Int)) W.heap.size W
theorem NetK.later {w0 w1 : World} {lo ty fs fn : Nat} {rcv : Value} {sw : Nat} {ho : Int} {NB : Int → List Int} (h : NetK w0 lo ty fs fn rcv sw ho NB) (hb : Below lo w0 w1) : NetK w1 lo ty fs fn rcv sw ho NB :=
  ⟨h.ms, h.mn, h.es, h.en, fun W hW => h.sz W (hb.trans hW), fun x hx W hW => h.nb x hx W (hb.trans hW)⟩
theorem netK {w0 : World} {sa : Option Addr} {l : List Int} (h : Ints w0 sa l) (sc : Nat) {kind hosts : Int} (hv : vOk kind l hosts) :
    ∃ ty fs fn rcv sw, netV kind sa sc l = .iface ty rcv ∧ ((sw : Nat) : Int) = swI kind l ∧ sw ≤ 1000 ∧ NetK w0 w0.heap.size ty fs fn rcv sw (hoI kind l) (nbS kind l) := by
  obtain ⟨b1, b2, b3, b4, b5, b6⟩ := v_bound hv
  have hsw := sw_max hv
  obtain ⟨n, hn⟩ := Int.eq_ofNat_of_zero_le (show 0 ≤ swI kind l by omega)
  rcases v_kind hv with rfl | rfl | rfl
  · refine ⟨138, 144, 140, _, n, rfl, hn.symm, by omega, fun W => m_size1 sa l.length sc (prodI l) W, fun W => m_near1 sa l.length sc (prodI l) W, enters_of Tryz.func144 (by kernel_rfl) rfl, enters_of Tryz.func140 (by kernel_rfl) rfl, fun W hW => ?_, fun x hx W hW => ?_⟩
    · rw [← hn]; exact sizeT_any sa l.length sc (prodI l) W
    · obtain ⟨⟨h1, h2⟩, hs⟩ := tOk_sides (torus_v hv)
      have hp : swI 1 l = prodI l := rfl
      exact neighbors_any (h.keep hW) h1 h2 hs (by omega) sc (x : Int) (by omega) (by omega)
  · refine ⟨142, 185, 181, _, n, rfl, hn.symm, by omega, fun W => m_size2 _ _ _ W, fun W => m_near2 _ _ _ W, enters_of Tryz.func185 (by kernel_rfl) rfl, enters_of Tryz.func181 (by kernel_rfl) rfl, fun W hW => ?_, fun x hx W hW => near_make2 hv (by omega) (by omega) W⟩
    rw [← hn]
    have hr : rOk l hosts := by
      rcases hv with ⟨h0, h1⟩ | ⟨h0, h1⟩ | ⟨h0, h1⟩
      · cases h0
      · exact h1
      · cases h0
    have hwb := words_bound hr
    obtain ⟨_, h1, h2, _⟩ := hr
    exact sizeR_any _ _ _ (by omega) (by omega) (by omega) (by omega) W
  · refine ⟨146, 199, 195, _, n, rfl, hn.symm, by omega, fun W => m_size3 _ _ _ W, fun W => m_near3 _ _ _ W, enters_of Tryz.func199 (by kernel_rfl) rfl, enters_of Tryz.func195 (by kernel_rfl) rfl, fun W hW => ?_, fun x hx W hW => near_make3 hv (by omega) (by omega) W⟩
    rw [← hn]
    have hr : dOk l hosts := by
      rcases hv with ⟨h0, h1⟩ | ⟨h0, h1⟩ | ⟨h0, h1⟩
      · cases h0
      · cases h0
      · exact h1
    obtain ⟨_, _, h1, h2, h3⟩ := hr
    have := drag_bound h1.1 h1.2 h2.1 h2.2
    exact sizeD_any _ _ _ (by omega) (by omega) (by omega) (by omega) W
/-- a function that yields links -/
def LIter (gf : Nat) (lb : Array Value) (lo : Nat) (L : List (Int × Int)) (s0 : Nat) (w : World) : Prop :=
  (∀ args w, (callFunc gf args).run Tryz.prog w = .ok (.enter gf args) w) ∧ ∃ Nd : List Nat, (∀ b ∈ Nd, s0 ≤ b ∧ ∃ o, w.heap[b]? = some o ∧ o.isCells = true) ∧ ∀ n, SeqX n gf lb encL Nd lo L w
theorem links_any {w : World} {lo ty fs fn : Nat} {rcv : Value} {sw : Nat} {ho : Int} {NB : Int → List Int} (hlo : lo ≤ w.heap.size) (hsw : sw ≤ 1000) (h : NetK w lo ty fs fn rcv sw ho NB) :
    Calls Tryz.prog 49 #[.iface ty rcv] w fun e w' => ∃ gf lb, e = .returned (.func (.func gf) #[] lb) ∧ LIter gf lb lo (lkL NB sw) w.heap.size w' ∧ Below w.heap.size w w' := by
  have q0 := heap_alloc_new w (.cells #[.iface ty rcv] 96)
  have hb : Below w.heap.size w (w.alloc (.cells #[.iface ty rcv] 96)) := (Below.refl _ _).alloc (Nat.le_refl _) _
  have HB := Lib.hid hb
  have HI : Hid (LIter 93 #[.pointer (some ⟨w.heap.size, 0, none⟩)] lo (lkL NB sw) w.heap.size (w.alloc (.cells #[.iface ty rcv] 96))) := by
    have h2 := h.later (hb.mono hlo)
    refine ⟨enters_of Tryz.func93 (by kernel_rfl) rfl, [w.heap.size], fun b hm => ?_, fun n => linksIter w.heap.size rcv ty fs fn sw ho NB lo (Nat.le_trans hlo hb.size) hsw h2.ms h2.mn h2.es h2.en h2.sz h2.nb q0 n⟩
    obtain rfl : b = w.heap.size := by simpa using hm
    exact ⟨Nat.le_refl _, _, q0, rfl⟩
  clear q0 hb h
  go_enter Tryz.func49, Tryz.ntmps49
  go_wp2_with fail
  go_ret
  exact ⟨93, _, rfl, HI.out, HB.out⟩
/-- a slice of booleans -/
structure Bls (w : World) (a : Option Addr) (l : List Bool) : Prop where
  len : l.length ≤ 17592186044416
  at_ : l ≠ [] → ∃ b off, a = some ⟨b, off, none⟩ ∧ ∀ j (h : j < l.length), w.cell? ⟨b, off + j, none⟩ = some (.bool l[j])
theorem Bls.keep {w w' : World} {a : Option Addr} {l : List Bool} (h : Bls w a l) (hb : Below w.heap.size w w') : Bls w' a l :=
  ⟨h.len, fun hl => by
    obtain ⟨b, off, ha, hc⟩ := h.at_ hl
    exact ⟨b, off, ha, fun j hj => (hb.cell (p := ⟨b, off + j, none⟩) (block_lt_of_cell (hc j hj))).trans (hc j hj)⟩⟩
/-- how many links are across a side -/
def cutL (bs : List Bool) (L : List (Int × Int)) : Nat := (L.filter fun p => bs.getD p.1.toNat false != bs.getD p.2.toNat false).length
end Go.Proofs.YtbhkenphcahifaaGreat
namespace Go.Proofs.YtbhkenphcahifaaGreat
open Go.RowKit Go.Shelf
attribute [local go_sem] Oper.semAt_some
set_option maxRecDepth 100000
set_option maxHeartbeats 4000000
theorem cutL_snoc (bs : List Bool) (L : List (Int × Int)) (p : Int × Int) : cutL bs (L ++ [p]) = cutL bs L + (if (bs.getD p.1.toNat false != bs.getD p.2.toNat false) = true then 1 else 0) := by
  unfold cutL
  rw [List.filter_append, List.length_append]
  congr 1
  by_cases h : (bs.getD p.1.toNat false != bs.getD p.2.toNat false) = true
  · simp only [h, List.filter_cons, List.filter_nil, if_true, List.length_singleton]
  · simp only [h, List.filter_cons, List.filter_nil, if_false, List.length_nil]
    simp
theorem cutL_le (bs : List Bool) (L : List (Int × Int)) : cutL bs L ≤ L.length := List.length_filter_le _ _
theorem Across_ok {w : World} {sa ba : Option Addr} {l : List Int} {bs : List Bool} (h : Ints w sa l) (hB : Bls w ba bs) (sc bc0 : Nat) (kind hosts : Int) (hv : vOk kind l hosts) (hlen : (bs.length : Int) = swI kind l) {L : List (Int × Int)} (hL : L = lkL (nbS kind l) (swI kind l).toNat) (hLn : L.length ≤ 1000000)
    (hin : ∀ p ∈ L, 0 ≤ p.1 ∧ p.1 < swI kind l ∧ 0 ≤ p.2 ∧ p.2 < swI kind l) :
    Calls Tryz.prog 22 #[.agg #[.int .i64 kind, .slice sa l.length sc, .int .i64 hosts], .slice ba bs.length bc0] w fun e w' => e = .returned (.tuple #[.int .i64 (cutL bs L : Nat), .int .i64 0]) ∧ Below w.heap.size w w' := by
  obtain ⟨hba, q0, q1, hz⟩ := twoN w (.cells #[.int .i64 kind, .slice sa l.length sc, .int .i64 hosts] 24) (.cells #[.slice ba bs.length bc0] 49)
  obtain ⟨ty, fs, fn, rcv, sw, hnv, hse, hsl, hnk⟩ := netK (h.keep hba) sc hv
  have HO : Hid (∀ W, Below w.heap.size w W → Calls Tryz.prog 47 #[.agg #[.int .i64 kind, .slice sa l.length sc, .int .i64 hosts]] W fun e w' => e = .returned (.tuple #[.iface ty rcv, .int .i64 0]) ∧ Below W.heap.size W w') := fun W hb => by
    refine (networkOf_any (h.keep hb) sc kind hosts).mono ?_
    rintro e w' ⟨h1, ⟨_, rfl⟩ | ⟨h2, _⟩⟩
    · exact ⟨by rw [hnv], h1⟩
    · exact absurd hv h2
  have hsn : (swI kind l).toNat = sw := by omega
  rw [hsn] at hL
  rw [← hse] at hlen hin
  have hbl : bs.length = sw := by omega
  obtain ⟨X, hX⟩ : ∃ X, X = (w.alloc (.cells #[.int .i64 kind, .slice sa l.length sc, .int .i64 hosts] 24)).alloc (.cells #[.slice ba bs.length bc0] 49) := ⟨_, rfl⟩
  have HXE := Lib.hid hX
  rw [← hX] at hnk hba q0 q1 hz
  have HNK := Lib.hid hnk
  have HBA := Lib.hid hba
  have HQ0 := Lib.hid q0
  have HQ1 := Lib.hid q1
  have HZ := Lib.hid hz
  have HBS := Lib.hid hB
  have HIN := Lib.hid hin
  have HL := Lib.hid hL
  have HLN := Lib.hid hLn
  have c0 := cellR 0 q0 rfl
  have c1 := cellR 1 q0 rfl
  have c2 := cellR 2 q0 rfl
  have HSL := Lib.hid hsl
  rw [hX] at c0 c1 c2
  rw [hbl]
  rw [hbl] at c0 c1 c2 hX
  have HBL := Lib.hid hbl
  have HX2 := Lib.hid hX
  have hes := hnk.es
  have hms := hnk.ms
  clear h hv hlen hin hL hnk hba q0 q1 hz hB hnv hse hsn hbl hX hLn hsl
  generalize l.length = N at *
  generalize hM : cutL bs L = M at *
  have HM := Lib.hid hM
  clear hM
  refine (callsIn_wide (n := 4)).1 ?_
  refine callsIn_of_wp_marks Tryz.func22 rfl trivial ?_ rfl
  simp only [Tryz.ntmps22, List.size_toArray, List.length_cons, List.length_nil, Nat.reduceAdd, Nat.reduceSub, Array.replicate_succ, Array.replicate_zero, List.push_toArray, List.append_toArray, List.nil_append, List.cons_append]
  gi_wp2
  clear c0 c1 c2
  rw [← HX2.out]
  refine ⟨trivial, callsIn_wide.2 ((HO.out X HBA.out).mono ?_)⟩
  rintro e w1 ⟨rfl, hb1⟩
  have HB1 := Lib.hid hb1
  clear HO hb1
  gi_wp2
  refine ⟨trivial, callsIn_wide.2 ((HNK.out.sz w1 HB1.out).mono ?_)⟩
  rintro e w2 ⟨rfl, hb2⟩
  have HB2 : Hid (Below X.heap.size X w2) := HB1.out.trans (hb2.mono HB1.out.size)
  have q3 : w2.heap[w.heap.size + 1]? = some (.cells #[.slice ba sw bc0] 49 (0, 0)) := by
    have h7 := (HB2.out.block (w.heap.size + 1) (by rw [HZ.out]; omega)).trans HQ1.out
    rw [h7, HBL.out]
  have c3 := cellR 0 q3 rfl
  have hmm : ((sw : Int) != (sw : Int)) = false := by simp
  have k3 := kcell ((Below.refl w2.heap.size w2).alloc (Nat.le_refl _) (.cells #[.int .i64 0] 3)) c3
  clear HB1 hb2 hes hms
  gi_wp2
  clear c3 hmm
  obtain ⟨bc, hbc⟩ : ∃ bc, bc = w2.heap.size := ⟨_, rfl⟩
  have qc : (w2.alloc (.cells #[.int .i64 0] 3)).heap[w2.heap.size]? = some (.cells #[.int .i64 0] 3 (0, 0)) := heap_alloc_new w2 _
  have hbd : Below w2.heap.size w2 (w2.alloc (.cells #[.int .i64 0] 3)) := (Below.refl _ _).alloc (Nat.le_refl _) _
  have HY : Hid ((w2.alloc (.cells #[.int .i64 0] 3)).heap[bc]? = some (.cells #[.int .i64 0] 3 (0, 0)) ∧ (w2.alloc (.cells #[.int .i64 0] 3)).heap[w.heap.size + 1]? = some (.cells #[.slice ba sw bc0] 49 (0, 0)) ∧ Below X.heap.size X (w2.alloc (.cells #[.int .i64 0] 3)) ∧ bc < (w2.alloc (.cells #[.int .i64 0] 3)).heap.size ∧ w.heap.size + 1 < bc) :=
    ⟨by rw [hbc]; exact qc, heapB hbd q3, HB2.out.trans (hbd.mono HB2.out.size), by rw [hbc]; simp, by rw [hbc]; have h7 := HB2.out.size; rw [HZ.out] at h7; omega⟩
  clear qc hbd q3 k3 HB2
  rw [← hbc]
  clear hbc
  generalize w2.alloc (.cells #[.int .i64 0] 3) = Y at *
  have HLK := Lib.hid (links_any (lo := X.heap.size) HY.out.2.2.1.size HSL.out (HNK.out.later HY.out.2.2.1))
  rw [← HL.out] at HLK
  refine ⟨trivial, callsIn_wide.2 (HLK.out.mono ?_)⟩
  rintro e w3 ⟨gf, lb, rfl, hli, hb3⟩
  obtain ⟨heg, Nd, hNd, hSq⟩ := hli
  have HY3 : Hid (w3.heap[bc]? = some (.cells #[.int .i64 0] 3 (0, 0)) ∧ w3.heap[w.heap.size + 1]? = some (.cells #[.slice ba sw bc0] 49 (0, 0)) ∧ Below X.heap.size X w3 ∧ bc < w3.heap.size ∧ w.heap.size + 1 < bc) := by
    obtain ⟨a1, a2, a3, a4, a5⟩ := HY.out
    exact ⟨heapB hb3 a1, heapB hb3 a2, a3.trans (hb3.mono a3.size), Nat.lt_of_lt_of_le a4 hb3.size, a5⟩
  have HNF : Hid (∀ b ∈ Nd, (∃ ob, w3.heap[b]? = some ob ∧ ob.isCells = true) ∧ bc < b) := fun b hb => ⟨(hNd b hb).2, by have := (hNd b hb).1; have := HY.out.2.2.2.1; omega⟩
  have HSQ := Lib.hid hSq
  have HZX : Hid (X.heap.size ≤ bc) := by have h7 := HY.out.2.2.2.2; show _ ≤ _; rw [HZ.out]; omega
  clear HY HLK hNd hSq hb3
  gi_wp2
  refine range_x (L := L) (Nd := Nd) (lo := X.heap.size) (Fr := fun b W => (∃ ob, W.heap[b]? = some ob ∧ ob.isCells = true) ∧ bc < b) (by omega) rfl heg (HSQ.out _) HNF.out HY3.out.2.2.1.size (fun _ => rfl) (fun pre W => W.heap[bc]? = some (.cells #[.int .i64 ((cutL bs pre : Nat) : Int)] 3 (0, 0)) ∧ W.heap[w.heap.size + 1]? = some (.cells #[.slice ba sw bc0] 49 (0, 0)) ∧ Below X.heap.size X W ∧ bc < W.heap.size) ?hG ⟨HY3.out.1, HY3.out.2.1, HY3.out.2.2.1, HY3.out.2.2.2.1⟩ (fun p a' W => ∃ bl, a' = ⟨#[Value.agg #[Value.int IntKind.i64 kind, Value.slice sa N sc, Value.int IntKind.i64 hosts], Value.slice ba sw bc0, Value.pointer (some ⟨w.heap.size, 0, none⟩), Value.pointer (some (Addr.mk (w.heap.size + 1) 0 none)), Value.int IntKind.i64 0, Value.int IntKind.i64 0, Value.iface ty rcv, Value.int IntKind.i64 0, Value.int IntKind.i64 ↑sw, Value.int IntKind.i64 (hoI kind l), Value.pointer (some (Addr.mk bc 0 none)), Value.pointer (some ⟨bl, 0, none⟩), Value.tuple #[Value.iface ty rcv, Value.int IntKind.i64 0], Value.agg #[Value.int IntKind.i64 kind, Value.slice sa N sc, Value.int IntKind.i64 hosts], Value.tuple #[Value.iface ty rcv, Value.int IntKind.i64 0], Value.iface ty rcv, Value.int IntKind.i64 0, Value.int IntKind.i64 0, Value.bool false, undef, Value.tuple #[Value.int IntKind.i64 ↑sw, Value.int IntKind.i64 (hoI kind l)], Value.iface ty rcv, Value.tuple #[Value.int IntKind.i64 ↑sw, Value.int IntKind.i64 (hoI kind l)], Value.int IntKind.i64 ↑sw, Value.int IntKind.i64 (hoI kind l), Value.slice ba sw bc0, Value.int IntKind.i64 ↑sw, Value.int IntKind.i64 ↑sw, Value.bool false, Value.iface ty rcv, Value.func (Fn.func gf) #[] lb, Value.agg #[Value.int IntKind.i64 p.1, Value.int IntKind.i64 p.2], undef, undef, undef, undef, undef, undef, undef, undef, undef, undef, undef, undef, undef, undef], []⟩ ∧ W.heap[bl]? = some (.cells #[.int .i64 p.1, .int .i64 p.2] 38 (0, 0)) ∧ bc < bl) ?hAx ?assign ?body ?done
  case hG =>
    intro pre
    refine ⟨fun W b hj hf => hf.1, fun W W2 b hj hb hs hc => ⟨hc, by have := hj.2.2.2; omega⟩, fun W W2 b hj hf hb => ⟨(by obtain ⟨ob, h1, h2⟩ := hf.1; exact ⟨ob, heapB hb h1, h2⟩), hf.2⟩, fun W W2 hj hb => ⟨heapB hb hj.1, heapB hb hj.2.1, hj.2.2.1.trans (hb.mono hj.2.2.1.size), Nat.lt_of_lt_of_le hj.2.2.2 hb.size⟩, fun W b o o' hj hb ho hc => ?_, fun W b c o o' hj hf hb ho hc => ?_⟩
    · have h7 := HY3.out.2.2.2
      have h8 := HY3.out.2.2.1.size
      exact ⟨(World.putObj_heap_other (by omega)).trans hj.1, (World.putObj_heap_other (by omega)).trans hj.2.1, hj.2.2.1.trans ⟨rfl, rfl, rfl, by simp [World.putObj], fun k hk => World.putObj_heap_other (by omega)⟩, by simpa [World.putObj] using hj.2.2.2⟩
    · obtain ⟨ob, h1, h2⟩ := hf.1
      have hne : c ≠ b := by rintro rfl; rw [ho] at h1; cases h1; rw [hc] at h2; cases h2
      exact ⟨⟨ob, (World.putObj_heap_other hne).trans h1, h2⟩, hf.2⟩
  case hAx =>
    rintro p a' s A B row ⟨bl, h1, h2, h3⟩ hg hr
    exact ⟨bl, h1, own_blk (β := Unit) w3.heap.size bl (fun _ => .cells #[.int .i64 p.1, .int .i64 p.2] 38 (0, 0)) (fun _ => rfl) () A B row h2 hg hr, h3⟩
  case assign =>
    rintro q pre p W K ⟨i1, i2, i3, i4⟩ hpre hK
    have hal : Below W.heap.size W (W.alloc (.cells #[.int .i64 p.1, .int .i64 p.2] 38)) := (Below.refl _ _).alloc (Nat.le_refl _) _
    have hlo : X.heap.size ≤ W.heap.size := i3.size
    gi_wp2
    refine hK _ _ ((KeepsOthers.alloc W _).from _) ⟨hal.mono hlo, fun b hb => ⟨?_, ?_⟩⟩ ⟨heapB hal i1, heapB hal i2, i3.trans (hal.mono hlo), Nat.lt_of_lt_of_le i4 hal.size⟩ ⟨W.heap.size, rfl, heap_alloc_new W _, i4⟩
    · obtain ⟨⟨ob, h1, h2⟩, _⟩ := hb
      rw [heapB hal h1, h1]
    · obtain ⟨⟨ob, h1, h2⟩, h3⟩ := hb
      exact ⟨⟨ob, heapB hal h1, h2⟩, h3⟩
  case body =>
    rintro q pre p a' W ⟨i1, i2, i3, i4⟩ ⟨bl, rfl, h2, h3⟩ hpre
    have hpm : p ∈ L := by obtain ⟨r, hr⟩ := hpre; rw [← hr]; simp
    obtain ⟨n1, n2, n3, n4⟩ := HIN.out p hpm
    obtain ⟨p1, p2⟩ := p
    obtain ⟨i, rfl⟩ := Int.eq_ofNat_of_zero_le n1
    obtain ⟨j, rfl⟩ := Int.eq_ofNat_of_zero_le n3
    simp only at n2 n4
    have hi : i < sw := by omega
    have hj : j < sw := by omega
    have hib : i < bs.length := by rw [HBL.out]; exact hi
    have hjb : j < bs.length := by rw [HBL.out]; exact hj
    obtain ⟨gb, ob, rfl, hcb⟩ := (HBS.out.keep (HBA.out.trans (i3.mono HBA.out.size))).at_ (ne_nil_of_lt hib)
    have e1 := hcb i hib
    have e2 := hcb j hjb
    have HCS : Hid (cutL bs (pre ++ [((i : Int), (j : Int))]) = cutL bs pre + (if (bs[i] != bs[j]) = true then 1 else 0)) := by
      show _ = _
      rw [cutL_snoc]
      simp [List.getD, hib, hjb]
    generalize bs[i] = b1 at *
    generalize bs[j] = b2 at *
    have HMC : Hid (cutL bs pre < 1000000) := by
      show _ < _
      have h7 := cutL_le bs pre
      have h8 := hpre.length_le
      have h9 := HLN.out
      simp at h8
      omega
    have cc : W.cell? ⟨bc, 0, none⟩ = some (.int .i64 ((cutL bs pre : Nat) : Int)) := cellR 0 i1 rfl
    have fc : W.frozen? ⟨bc, 0, none⟩ = false := frozen_of_row W bc 0 _ _ i1
    have c3 : W.cell? ⟨w.heap.size + 1, 0, none⟩ = some (.slice (some ⟨gb, ob, none⟩) sw bc0) := cellR 0 i2 rfl
    have l1 : W.cell? ⟨bl, 0, none⟩ = some (.int .i64 (i : Int)) := cellR 0 h2 rfl
    have l2 : W.cell? ⟨bl, 1, none⟩ = some (.int .i64 (j : Int)) := cellR 1 h2 rfl
    have HI := Lib.hid (And.intro i1 (And.intro i2 (And.intro i3 i4)))
    have hlb : bc < W.heap.size := i4
    clear hcb hib hjb n1 n2 n3 n4 hpm hpre i1 i2 i3 i4 h2 h3
    generalize hcp : cutL bs pre = cp at *
    have HCP := Lib.hid hcp
    clear hcp
    gi_wp2
    refine region_det (by kernel_rfl) (I := fun listed a' w' => w' = W.drew ∧ a' = ⟨#[Value.agg #[Value.int IntKind.i64 kind, Value.slice sa N sc, Value.int IntKind.i64 hosts], Value.slice (some ⟨gb, ob, none⟩) sw bc0, Value.pointer (some ⟨w.heap.size, 0, none⟩), Value.pointer (some (Addr.mk (w.heap.size + 1) 0 none)), Value.int IntKind.i64 0, Value.int IntKind.i64 0, Value.iface ty rcv, Value.int IntKind.i64 0, Value.int IntKind.i64 ↑sw, Value.int IntKind.i64 (hoI kind l), Value.pointer (some (Addr.mk bc 0 none)), Value.pointer (some ⟨bl, 0, none⟩), Value.tuple #[Value.iface ty rcv, Value.int IntKind.i64 0], Value.agg #[Value.int IntKind.i64 kind, Value.slice sa N sc, Value.int IntKind.i64 hosts], Value.tuple #[Value.iface ty rcv, Value.int IntKind.i64 0], Value.iface ty rcv, Value.int IntKind.i64 0, Value.int IntKind.i64 0, Value.bool false, undef, Value.tuple #[Value.int IntKind.i64 ↑sw, Value.int IntKind.i64 (hoI kind l)], Value.iface ty rcv, Value.tuple #[Value.int IntKind.i64 ↑sw, Value.int IntKind.i64 (hoI kind l)], Value.int IntKind.i64 ↑sw, Value.int IntKind.i64 (hoI kind l), Value.slice (some ⟨gb, ob, none⟩) sw bc0, Value.int IntKind.i64 ↑sw, Value.int IntKind.i64 ↑sw, Value.bool false, Value.iface ty rcv, Value.func (Fn.func gf) #[] lb, Value.agg #[Value.int IntKind.i64 (i : Int), Value.int IntKind.i64 (j : Int)], (if listed.getD 0 false = true then Value.slice (some ⟨gb, ob, none⟩) sw bc0 else undef), (if listed.getD 1 false = true then Value.pointer (some ⟨bl, 0, none⟩) else undef), (if listed.getD 2 false = true then Value.int IntKind.i64 ((i : Int)) else undef), (if listed.getD 3 false = true then Value.pointer (some ⟨gb, ob + i, none⟩) else undef), (if listed.getD 4 false = true then Value.bool b1 else undef), (if listed.getD 5 false = true then Value.slice (some ⟨gb, ob, none⟩) sw bc0 else undef), (if listed.getD 6 false = true then Value.pointer (some ⟨bl, 1, none⟩) else undef), (if listed.getD 7 false = true then Value.int IntKind.i64 ((j : Int)) else undef), (if listed.getD 8 false = true then Value.pointer (some ⟨gb, ob + j, none⟩) else undef), (if listed.getD 9 false = true then Value.bool b2 else undef), (if listed.getD 10 false = true then Value.bool (b1 != b2) else undef), undef, undef, undef], []⟩) (hup_check (by kernel_rfl)) ?h0 ?step ?fin
    case h0 => exact ⟨rfl, rfl⟩
    case step => as_aux_lemma =>
      intro listed a' w' i hs hbi hdep hi ⟨IW, ha⟩
      obtain ⟨ls⟩ := listed
      match ls, hs with
      | [x0, x1, x2, x3, x4, x5, x6, x7, x8, x9, x10], _ =>
      subst ha
      have hi' : i = 0 ∨ i = 1 ∨ i = 2 ∨ i = 3 ∨ i = 4 ∨ i = 5 ∨ i = 6 ∨ i = 7 ∨ i = 8 ∨ i = 9 ∨ i = 10 := by simp at hi; omega
      subst IW
      rcases hi' with rfl | rfl | rfl | rfl | rfl | rfl | rfl | rfl | rfl | rfl | rfl
      · obtain rfl : x0 = false := by simpa using hbi
        refine wpOpIn_step rfl (fun K' hK => ?_)
        rw [if_pos (by rfl)]
        refine wpInF_plain (fun _ _ => trivial) (v := Value.slice (some ⟨gb, ob, none⟩) sw bc0) (w' := W.drew) ?_ (hK _ _ ?_)
        · go_simp <;> first | rfl | (cases b1 <;> cases b2 <;> rfl)
        exact ⟨rfl, rfl⟩
      · obtain rfl : x1 = false := by simpa using hbi
        refine wpOpIn_step rfl (fun K' hK => ?_)
        rw [if_pos (by rfl)]
        refine wpInF_plain (fun _ _ => trivial) (v := Value.pointer (some ⟨bl, 0, none⟩)) (w' := W.drew) ?_ (hK _ _ ?_)
        · go_simp <;> first | rfl | (cases b1 <;> cases b2 <;> rfl)
        exact ⟨rfl, rfl⟩
      · obtain rfl : x2 = false := by simpa using hbi
        obtain rfl : x1 = true := hdep _ rfl ⟨1, .data⟩ (by simp) rfl
        refine wpOpIn_step rfl (fun K' hK => ?_)
        rw [if_pos (by rfl)]
        refine wpInF_plain (fun _ _ => trivial) (v := Value.int IntKind.i64 ((i : Int))) (w' := W.drew) ?_ (hK _ _ ?_)
        · go_simp <;> first | rfl | (cases b1 <;> cases b2 <;> rfl)
        exact ⟨rfl, rfl⟩
      · obtain rfl : x3 = false := by simpa using hbi
        obtain rfl : x0 = true := hdep _ rfl ⟨0, .data⟩ (by simp) rfl
        obtain rfl : x2 = true := hdep _ rfl ⟨2, .data⟩ (by simp) rfl
        refine wpOpIn_step rfl (fun K' hK => ?_)
        rw [if_pos (by rfl)]
        refine wpInF_plain (fun _ _ => trivial) (v := Value.pointer (some ⟨gb, ob + i, none⟩)) (w' := W.drew) ?_ (hK _ _ ?_)
        · go_simp <;> first | rfl | (cases b1 <;> cases b2 <;> rfl)
        exact ⟨rfl, rfl⟩
      · obtain rfl : x4 = false := by simpa using hbi
        obtain rfl : x3 = true := hdep _ rfl ⟨3, .data⟩ (by simp) rfl
        refine wpOpIn_step rfl (fun K' hK => ?_)
        rw [if_pos (by rfl)]
        refine wpInF_plain (fun _ _ => trivial) (v := Value.bool b1) (w' := W.drew) ?_ (hK _ _ ?_)
        · go_simp <;> first | rfl | (cases b1 <;> cases b2 <;> rfl)
        exact ⟨rfl, rfl⟩
      · obtain rfl : x5 = false := by simpa using hbi
        refine wpOpIn_step rfl (fun K' hK => ?_)
        rw [if_pos (by rfl)]
        refine wpInF_plain (fun _ _ => trivial) (v := Value.slice (some ⟨gb, ob, none⟩) sw bc0) (w' := W.drew) ?_ (hK _ _ ?_)
        · go_simp <;> first | rfl | (cases b1 <;> cases b2 <;> rfl)
        exact ⟨rfl, rfl⟩
      · obtain rfl : x6 = false := by simpa using hbi
        refine wpOpIn_step rfl (fun K' hK => ?_)
        rw [if_pos (by rfl)]
        refine wpInF_plain (fun _ _ => trivial) (v := Value.pointer (some ⟨bl, 1, none⟩)) (w' := W.drew) ?_ (hK _ _ ?_)
        · go_simp <;> first | rfl | (cases b1 <;> cases b2 <;> rfl)
        exact ⟨rfl, rfl⟩
      · obtain rfl : x7 = false := by simpa using hbi
        obtain rfl : x6 = true := hdep _ rfl ⟨6, .data⟩ (by simp) rfl
        refine wpOpIn_step rfl (fun K' hK => ?_)
        rw [if_pos (by rfl)]
        refine wpInF_plain (fun _ _ => trivial) (v := Value.int IntKind.i64 ((j : Int))) (w' := W.drew) ?_ (hK _ _ ?_)
        · go_simp <;> first | rfl | (cases b1 <;> cases b2 <;> rfl)
        exact ⟨rfl, rfl⟩
      · obtain rfl : x8 = false := by simpa using hbi
        obtain rfl : x5 = true := hdep _ rfl ⟨5, .data⟩ (by simp) rfl
        obtain rfl : x7 = true := hdep _ rfl ⟨7, .data⟩ (by simp) rfl
        refine wpOpIn_step rfl (fun K' hK => ?_)
        rw [if_pos (by rfl)]
        refine wpInF_plain (fun _ _ => trivial) (v := Value.pointer (some ⟨gb, ob + j, none⟩)) (w' := W.drew) ?_ (hK _ _ ?_)
        · go_simp <;> first | rfl | (cases b1 <;> cases b2 <;> rfl)
        exact ⟨rfl, rfl⟩
      · obtain rfl : x9 = false := by simpa using hbi
        obtain rfl : x8 = true := hdep _ rfl ⟨8, .data⟩ (by simp) rfl
        refine wpOpIn_step rfl (fun K' hK => ?_)
        rw [if_pos (by rfl)]
        refine wpInF_plain (fun _ _ => trivial) (v := Value.bool b2) (w' := W.drew) ?_ (hK _ _ ?_)
        · go_simp <;> first | rfl | (cases b1 <;> cases b2 <;> rfl)
        exact ⟨rfl, rfl⟩
      · obtain rfl : x10 = false := by simpa using hbi
        obtain rfl : x4 = true := hdep _ rfl ⟨4, .data⟩ (by simp) rfl
        obtain rfl : x9 = true := hdep _ rfl ⟨9, .data⟩ (by simp) rfl
        refine wpOpIn_step rfl (fun K' hK => ?_)
        rw [if_pos (by rfl)]
        refine wpInF_plain (fun _ _ => trivial) (v := Value.bool (b1 != b2)) (w' := W.drew) ?_ (hK _ _ ?_)
        · go_simp <;> first | rfl | (cases b1 <;> cases b2 <;> rfl)
        exact ⟨rfl, rfl⟩
    case fin =>
    intro listed a' Z hs hall ⟨IW, ha⟩
    obtain ⟨ls⟩ := listed
    match ls, hs with
    | [x0, x1, x2, x3, x4, x5, x6, x7, x8, x9, x10], _ =>
    obtain rfl : x0 = true := hall 0 (by simp)
    obtain rfl : x1 = true := hall 1 (by simp)
    obtain rfl : x2 = true := hall 2 (by simp)
    obtain rfl : x3 = true := hall 3 (by simp)
    obtain rfl : x4 = true := hall 4 (by simp)
    obtain rfl : x5 = true := hall 5 (by simp)
    obtain rfl : x6 = true := hall 6 (by simp)
    obtain rfl : x7 = true := hall 7 (by simp)
    obtain rfl : x8 = true := hall 8 (by simp)
    obtain rfl : x9 = true := hall 9 (by simp)
    obtain rfl : x10 = true := hall 10 (by simp)
    subst ha
    subst IW
    clear hall hs
    dsimp only [Exit.then, Exit.inBlock]
    cases hbb : (b1 != b2) with
    | false =>
      have HI2 : Hid (W.drew.heap[bc]? = some (.cells #[.int .i64 ((cutL bs (pre ++ [((i : Int), (j : Int))]) : Nat) : Int)] 3 (0, 0))) := by
        show _ = _
        rw [HCS.out, hbb, if_neg (by decide), Nat.add_zero]; exact HI.out.1
      clear HCS hbb
      gi_wp2
      exact ⟨(KeepsOthers.drew W).from _, ⟨(Below.refl _ _).drew, fun b hb => ⟨rfl, hb⟩⟩, HI2.out, HI.out.2.1, HI.out.2.2.1.drew, HI.out.2.2.2⟩
    | true =>
      have hwc : wrap64 ((cp : Int) + 1) = (cp : Int) + 1 := wrap_small _ (by omega) (by have := HMC.out; omega)
      have HWC := Lib.hid hwc
      clear hwc
      have HI2 : Hid ((W.drew.setCell ⟨bc, 0, none⟩ (.int .i64 ((cp : Int) + 1))).heap[bc]? = some (.cells #[.int .i64 ((cutL bs (pre ++ [((i : Int), (j : Int))]) : Nat) : Int)] 3 (0, 0))) := by
        show _ = _
        rw [HCS.out, hbb, if_pos rfl, heap_setCell_same W.drew bc 0 _ 3 _ HI.out.1]
        simp
      clear HCS hbb
      have hwc := HWC.out
      gi_wp2
      have hx9 := HZX.out
      refine ⟨((KeepsOthers.drew W).trans (KeepsOthers.setCell _ _ _)).from _, ⟨(Below.refl _ _).drew.setCell (p := ⟨bc, 0, none⟩) hx9 _, fun b hb => ?_⟩, HI2.out, ?_, HI.out.2.2.1.drew.setCell (p := ⟨bc, 0, none⟩) hx9 _, by simpa [World.setCell] using HI.out.2.2.2⟩
      · have hne : b ≠ bc := by have := hb.2; omega
        have he : (W.drew.setCell ⟨bc, 0, none⟩ (.int .i64 ((cp : Int) + 1))).heap[b]? = W.heap[b]? := heap_setCell_other W.drew ⟨bc, 0, none⟩ _ _ hne
        refine ⟨he, ?_, hb.2⟩
        obtain ⟨ob2, h1, h2⟩ := hb.1
        exact ⟨ob2, he.trans h1, h2⟩
      · have h8 := HY3.out.2.2.2.2
        exact (heap_setCell_other W.drew ⟨bc, 0, none⟩ _ _ (show w.heap.size + 1 ≠ bc by omega)).trans HI.out.2.1
  case done =>
    rintro D W hD ⟨i1, i2, i3, i4⟩ hK
    have cc := cellR 0 i1 rfl
    gi_wp2
    refine ⟨by simp, .inl ⟨_, _, rfl, run_takeDeferred hK, ?_⟩⟩
    have hs1 := HBA.out.size
    have hs2 := HY3.out.2.2.1.size
    refine ⟨.tuple #[.int .i64 ((cutL bs L : Nat) : Int), .int .i64 0], ?_, by rw [HM.out], (HBA.out.trans (i3.mono hs1)).trans ⟨rfl, rfl, rfl, by simp [World.putObj], fun k hk => World.putObj_heap_other (by omega)⟩⟩
    simp [results, Tryz.results22, go_sem]
end Go.Proofs.YtbhkenphcahifaaGreat
namespace Go.Proofs.YtbhkenphcahifaaGreat
open Go.RowKit Go.Shelf
set_option maxRecDepth 100000
set_option maxHeartbeats 4000000
/-- every number below the product is that of coordinates -/
theorem num_onto {l : List Int} (hb : ∀ i, i < l.length → 2 ≤ l.getD i 0 ∧ l.getD i 0 ≤ 16) : ∀ k, k ≤ l.length → ∀ y, 0 ≤ y → y < prodI (l.take k) → ∃ d : List Int, d.length = l.length ∧ (∀ j, j < k → 0 ≤ d.getD j 0 ∧ d.getD j 0 < l.getD j 0) ∧ numK l d k = y
  | 0, _, y, h0, h1 => ⟨List.replicate l.length 0, by simp, fun j hj => by omega, by simp [prodI] at h1; rw [numK]; omega⟩
  | k + 1, hk, y, h0, h1 => by
    obtain ⟨b1, b2⟩ := hb k (by omega)
    rw [List.take_succ_eq_append_getElem (by omega), prodI_snoc, show l[k] = l.getD k 0 by simp [List.getD, show k < l.length by omega]] at h1
    obtain ⟨d, hd, hi, hn⟩ := num_onto hb k (by omega) (y / l.getD k 0) (Int.ediv_nonneg h0 (by omega)) (Int.ediv_lt_of_lt_mul (by omega) h1)
    refine ⟨d.set k (y % l.getD k 0), by rw [List.length_set, hd], fun j hj => ?_, ?_⟩
    · by_cases hjk : k = j
      · subst hjk
        rw [getD_set_same _ _ _ _ (by omega)]
        exact ⟨Int.emod_nonneg _ (by omega), Int.emod_lt_of_pos _ (by omega)⟩
      · rw [getD_set_other _ _ _ _ _ hjk]; exact hi j (by omega)
    · rw [numK, numK_set k (Nat.le_refl _), hn, getD_set_same _ _ _ _ (by omega), Int.mul_comm]
      exact Int.mul_ediv_add_emod y _
theorem num_of {l : List Int} (hb : ∀ i, i < l.length → 2 ≤ l.getD i 0 ∧ l.getD i 0 ≤ 16) {x : Int} (h0 : 0 ≤ x) (h1 : x < prodI l) : ∃ d, InT l d ∧ numI l d = x := by
  obtain ⟨d, hd, hi, hn⟩ := num_onto hb l.length (Nat.le_refl _) x h0 (by rw [List.take_length]; exact h1)
  exact ⟨d, ⟨hd, hi⟩, hn⟩
theorem nbK_iff {l : List Int} {x y : Int} : ∀ k, y ∈ nbK l x k ↔ ∃ i, i < k ∧ (y = nbA l x i 1 ∨ y = nbA l x i (-1))
  | 0 => by simp [nbK]
  | k + 1 => by
    rw [nbK, List.mem_append, nbK_iff k]
    constructor
    · rintro (⟨i, hi, h⟩ | h)
      · exact ⟨i, by omega, h⟩
      · exact ⟨k, by omega, by simpa using h⟩
    · rintro ⟨i, hi, h⟩
      by_cases hik : i = k
      · subst hik; exact .inr (by simpa using h)
      · exact .inl ⟨i, by omega, h⟩
/-- a neighbor by its coordinates -/
theorem nbA_num {l d : List Int} (hd : InT l d) {i : Nat} (hi : i < l.length) (s : Int) : nbA l (numI l d) i s = numI l (d.set i ((d.getD i 0 + s) % l.getD i 0)) := by
  unfold nbA
  rw [num_digit hd hi, num_set hi (by rw [hd.1]; exact hi)]
theorem emod_in {a m : Int} (hm : 2 ≤ m) : 0 ≤ a % m ∧ a % m < m := ⟨Int.emod_nonneg _ (by omega), Int.emod_lt_of_pos _ (by omega)⟩
theorem nbA_in {l : List Int} (hb : ∀ i, i < l.length → 2 ≤ l.getD i 0 ∧ l.getD i 0 ≤ 16) {x : Int} (h0 : 0 ≤ x) (h1 : x < prodI l) {i : Nat} (hi : i < l.length) (s : Int) : 0 ≤ nbA l x i s ∧ nbA l x i s < prodI l := by
  obtain ⟨d, hd, rfl⟩ := num_of hb h0 h1
  rw [nbA_num hd hi]
  obtain ⟨e1, e2⟩ := emod_in (a := d.getD i 0 + s) (hb i hi).1
  exact num_lt (hd.set hi e1 e2)
/-- a sorted list without what is twice -/
theorem sort_sorted (l : List Int) : (sortL l).Pairwise (· ≤ ·) := by
  have h := List.pairwise_mergeSort (le := fun x y : Int => decide (x ≤ y)) (fun a b c h1 h2 => by simp at *; omega) (fun a b => by simp; omega) l
  exact h.imp fun h => by simpa using h
theorem compact_nodup {l : List Int} (h : l.Pairwise (· ≤ ·)) : (Lib.compact l).Nodup := by
  unfold Lib.compact Lib.compactUpTo
  refine List.pairwise_map.2 ?_
  have hr : (List.range l.length).Pairwise (· < ·) := List.pairwise_lt_range
  refine (hr.filter _).imp_of_mem ?_
  intro a b ha hb hab he
  have hbl : b < l.length := List.mem_range.1 (List.mem_filter.1 hb).1
  have hk := (List.mem_filter.1 hb).2
  unfold Lib.keeps at hk
  simp only [decide_eq_true_eq] at hk
  rcases hk with hk | hk
  · omega
  · have hp : ∀ i j (hi : i < l.length) (hj : j < l.length), i < j → l[i] ≤ l[j] := fun i j hi hj hij => (List.pairwise_iff_getElem.1 h) i j hi hj hij
    simp only [List.getElem!_toArray, getElem!_pos, show a < l.length by omega, hbl, show b - 1 < l.length by omega] at he hk
    by_cases hab1 : a = b - 1
    · subst hab1; exact hk he.symm
    · have h1 := hp a (b - 1) (by omega) (by omega) (by omega)
      have h2 := hp (b - 1) b (by omega) hbl (by omega)
      exact hk (by omega)
theorem compactUpTo_sub (d : Array Int) : ∀ (m : Nat), m ≤ d.size → ∀ y ∈ Lib.compactUpTo d m, y ∈ d.toList := by
  intro m hm y hy
  unfold Lib.compactUpTo at hy
  obtain ⟨j, hj, rfl⟩ := List.mem_map.1 hy
  have hj2 := List.mem_range.1 (List.mem_filter.1 hj).1
  rw [getElem!_pos d j (by omega)]
  simp
theorem nbL_iff {l : List Int} {x y : Int} : y ∈ nbL l x ↔ y ∈ nbK l x l.length := by
  constructor
  · intro h
    have h1 := compactUpTo_sub _ _ (by simp) y h
    have h2 : y ∈ sortL (nbK l x l.length) := by simpa using h1
    unfold sortL at h2
    exact (List.mergeSort_perm _ _).mem_iff.1 h2
  · exact nbL_mem
theorem nbL_nodup (l : List Int) (x : Int) : (nbL l x).Nodup := compact_nodup (sort_sorted _)
theorem nbL_in {l : List Int} (hb : ∀ i, i < l.length → 2 ≤ l.getD i 0 ∧ l.getD i 0 ≤ 16) {x : Int} (h0 : 0 ≤ x) (h1 : x < prodI l) : ∀ y ∈ nbL l x, 0 ≤ y ∧ y < prodI l := by
  intro y hy
  obtain ⟨i, hi, h | h⟩ := (nbK_iff _).1 (nbL_iff.1 hy)
  · rw [h]; exact nbA_in hb h0 h1 hi _
  · rw [h]; exact nbA_in hb h0 h1 hi _
end Go.Proofs.YtbhkenphcahifaaGreat
namespace Go.Proofs.YtbhkenphcahifaaGreat
open Go.RowKit Go.Shelf
attribute [local go_sem] Oper.semAt_some
set_option maxRecDepth 100000
set_option maxHeartbeats 4000000
/-- a function value that says of each switch whether it is on a side -/
structure SideFn (w0 : World) (lo sw : Nat) (S : Nat → Bool) (v : Value) (Ks : List Nat) (W : World) : Prop where
  ex : ∃ f caps, v = .func (.func f) #[] caps ∧ (∀ args W, (callFunc f args).run Tryz.prog W = .ok (.enter f args) W) ∧ ∀ W2, Below lo w0 W2 → (∀ b ∈ Ks, W2.heap[b]? = W.heap[b]?) → ∀ x : Nat, x < sw → Calls Tryz.prog f (#[.int .i64 (x : Int)] ++ caps) W2 fun e w' => e = .returned (.bool (S x)) ∧ Below W2.heap.size W2 w'
theorem SideFn.later {w0 : World} {lo sw : Nat} {S : Nat → Bool} {v : Value} {Ks : List Nat} {W W' : World} (h : SideFn w0 lo sw S v Ks W) (hk : ∀ b ∈ Ks, W'.heap[b]? = W.heap[b]?) : SideFn w0 lo sw S v Ks W' := by
  obtain ⟨f, caps, h1, h2, h3⟩ := h.ex
  exact ⟨f, caps, h1, h2, fun W2 hb hk2 => h3 W2 hb (fun b hm => (hk2 b hm).trans (hk b hm))⟩
/-- an iterator that yields such functions -/
def SeqF (n : Nat) (gf : Nat) (lb : Array Value) (Nd : List Nat) (lo sw : Nat) (S : List (Nat → Bool)) (w0 w : World) : Prop :=
  ∀ (l : Nat) (J : Nat → World → Prop) (Fr : Nat → World → Prop) (W : World), Below w.heap.size w W → (∀ b ∈ Nd, Fr b W) → (∀ i, PrivG W.heap.size (J i) Fr) →
    (∀ i v Ks W1 (hi : i < S.length), J i W1 → SideFn w0 lo sw S[i] v Ks W1 → (∀ b ∈ Ks, Fr b W1) → YieldAt Fence.wide (n - 1) Tryz.prog l #[v] W1 fun e W' => e = .returned (.bool true) ∧ J (i + 1) W' ∧ Kx lo Fr W1 W') →
    J 0 W → CallsIn Fence.wide n Tryz.prog gf (#[.func (.yield l) #[] #[]] ++ lb) W fun e W' => (∃ v, e = .returned v) ∧ J S.length W'
/-- a range over such an iterator, by a body that never leaves -/
theorem range_f {n : Nat} {g : Operand} {ps : Array Tmp} {assign body : Code} {Q : Exit → Act → World → Prop} {a : Act} {w : World} (h1 : 1 ≤ n) {gf : Nat} {lb : Array Value}
    (hg : a.eval g = .func (.func gf) #[] lb) (eg : ∀ args w, (callFunc gf args).run Tryz.prog w = .ok (.enter gf args) w) {Nd : List Nat} {lo sw : Nat} {Fr : Nat → World → Prop} {S : List (Nat → Bool)} {w0 : World}
    (hseq : SeqF (n - 1) gf lb Nd lo sw S w0 w) (hnd : ∀ b ∈ Nd, Fr b w) (hlo : lo ≤ w.heap.size)
    (hps : ps.size = 1) (I : Nat → World → Prop) (hG : ∀ i, PrivG w.heap.size (I i) Fr) (h0 : I 0 w) (a₁ : Value → Act)
    (hassign : ∀ (l : Nat) (x : Value) (W : World) (K : Act → World → Prop), K (a₁ x) W → assign.wpIn (Fence.wide.inRound l) (n - 1 - 1) Tryz.prog (Exit.then K (fun _ _ _ => False)) { tmps := (ps.zip #[x]).foldl (fun t (p, v) => t.setIfInBounds p v) a.tmps, defers := [] } W)
    (hbody : ∀ (l i : Nat) (x : Value) (Ks : List Nat) (W : World) (hi : i < S.length), I i W → SideFn w0 lo sw S[i] x Ks W → (∀ b ∈ Ks, Fr b W) → body.wpIn (Fence.wide.inRound l) (n - 1 - 1) Tryz.prog (ownPostG w.heap.size (Kx lo Fr) (fun (_ : List Unit) => I (i + 1)) (fun _ _ _ => False) [] W) (a₁ x) W)
    (hdone : ∀ (D : Nat) (W : World), w.heap.size ≤ D → I S.length W → W.heap[D]? = some (.deferred (some [])) → Q .normal { a with defers := { target := .collected D, args := #[] } :: a.defers } W) :
    (Code.rangeFunc g ps assign body).wpIn Fence.wide n Tryz.prog Q a w := by
  have hI : OwnFrom w.heap.size I := own_of (fun s X Y h hb => (hG s).jgrow X Y h hb) (fun s X b o o' h hB ho hc => (hG s).jput X b o o' h hB ho hc)
  have hput : ∀ (pre : Nat) (V : World) (l : Nat) (o o' : Obj), I pre V → w.heap.size ≤ l → V.heap[l]? = some o → o.isCells = false → Kx lo Fr V (V.putObj l o') := fun pre V l o o' hi hl ho hc =>
    ⟨⟨rfl, rfl, rfl, by simp [World.putObj], fun k hk => World.putObj_heap_other (by omega)⟩, fun b hb => ⟨World.putObj_heap_other (fun e => by subst e; obtain ⟨oc, h1, h2⟩ := (hG pre).cells V _ hi hb; rw [ho] at h1; cases h1; rw [hc] at h2; cases h2), (hG pre).fput V l b o o' hi hb hl ho hc⟩⟩
  refine wpIn_rangeFunc ?_
  intro fn hfn
  rw [show Fence.wide.round = none from rfl]
  let rc : LoopState → Option Code → Loop := fun st pe => { state := st, pending := pe, fn, tmps := a.tmps, params := ps, assign, body, defers := w.heap.size }
  obtain ⟨W1, hW1⟩ : ∃ W1, (w.alloc (.deferred (some []))).alloc (.loop (rc .ready none)) = W1 := ⟨_, rfl⟩
  have hb1 : Below w.heap.size w W1 := by
    rw [← hW1]; exact ((Below.refl _ w).alloc (Nat.le_refl _) _).alloc (by simp) _
  have hl1 : W1.heap[w.heap.size + 1]? = some (.loop (rc .ready none)) := by
    rw [← hW1]; have := World.alloc_heap_new (w.alloc (.deferred (some []))) (.loop (rc .ready none)); rwa [World.size_alloc] at this
  have hk1 : W1.heap[w.heap.size]? = some (.deferred (some [])) := by
    rw [← hW1]; exact (Below.heap_alloc _ _ _ (by simp)).trans (World.alloc_heap_new w _)
  have hi1 : I 0 W1 := by rw [← hW1]; exact hI.alloc _ (hI.alloc _ h0)
  refine ⟨w.heap.size + 1, [{ target := .collected w.heap.size, args := #[] }], W1, { target := .fn (.func gf) lb, args := #[.func (.yield (w.heap.size + 1)) #[] #[]] }, W1, gf,
    #[.func (.yield (w.heap.size + 1)) #[] #[]] ++ lb, W1, ?_, ?_, ?_, ?_, fun _ => h1, ?_⟩
  · rw [← hW1]; exact run_enterLoop_outer _ _ _ _ _
  · simp only [resolve, hg]
    simp [go_sem]
  · intro f' hf'; trivial
  · simp [invoke, go_sem, eg]
  · have hz1 : W1.heap.size = w.heap.size + 2 := by rw [← hW1]; simp
    refine (hseq (w.heap.size + 1) (fun i W => I i W ∧ W.heap[w.heap.size + 1]? = some (.loop (rc .ready none)) ∧ W.heap[w.heap.size]? = some (.deferred (some []))) Fr W1 hb1 (fun b hb => (hG 0).grow w W1 b h0 (hnd b hb) hb1) ?_ ?_ ⟨hi1, hl1, hk1⟩).mono ?_
    · intro pre
      have p := hG pre
      refine ⟨fun W b hj => p.cells W b hj.1, fun W W2 b hj => p.new W W2 b hj.1, fun W W2 b hj => p.grow W W2 b hj.1, fun W W2 hj hb => ⟨p.jgrow W W2 hj.1 hb, ?_, ?_⟩, fun W b o o' hj hb ho hc => ⟨p.jput W b o o' hj.1 (by omega) ho hc, ?_, ?_⟩, fun W b c o o' hj hf hb ho hc => p.fput W b c o o' hj.1 hf (by omega) ho hc⟩
      · rw [hb.block _ (Array.getElem?_eq_some_iff.1 hj.2.1).1]; exact hj.2.1
      · rw [hb.block _ (Array.getElem?_eq_some_iff.1 hj.2.2).1]; exact hj.2.2
      · exact (World.putObj_heap_other (by omega)).trans hj.2.1
      · exact (World.putObj_heap_other (by omega)).trans hj.2.2
    · rintro pre x Ks W hlen ⟨hi, hl, hk⟩ hsf hks
      have hlt : w.heap.size + 1 < W.heap.size := (Array.getElem?_eq_some_iff.1 hl).1
      refine ⟨fn, _, assign, body, run_yield (P := Tryz.prog) (args := #[x]) hl (by rw [hps]; rfl), roundIn_of_wpIn hfn (hassign _ x W _ ?_)⟩
      refine ⟨_, run_beginRound hl rfl, ?_⟩
      have hl2 := World.putObj_heap_same (w := W) (o := .loop { rc .ready none with state := .busy }) hlt
      have hk2 : (W.putObj (w.heap.size + 1) (.loop { rc .ready none with state := .busy })).heap[w.heap.size]? = some (.deferred (some [])) := (World.putObj_heap_other (by omega)).trans hk
      have hkw := hput pre W (w.heap.size + 1) _ (.loop { rc .ready none with state := .busy }) hi (by omega) hl rfl
      refine wpIn_mono (hbody (w.heap.size + 1) pre x Ks _ hlen (hI.putObj _ hi (by omega) hl rfl) (hsf.later (fun b hb => (hkw.2 b (hks b hb)).1)) (fun b hb => (hkw.2 b (hks b hb)).2)) ?_
      rintro e a3 W3 hp
      cases e with
      | normal =>
        obtain ⟨hk3, hkp3, hi3⟩ := hp
        have hl3 := hk3.same _ _ (by omega) hl2 rfl
        have hk4 := hk3.same _ _ (Nat.le_refl _) hk2 rfl
        exact ⟨_, _, run_endRound (P := Tryz.prog) none hl3, rfl, ⟨hI.putObj _ hi3 (by omega) hl3 rfl, World.putObj_heap_same (Array.getElem?_eq_some_iff.1 hl3).1, (World.putObj_heap_other (by omega)).trans hk4⟩, Kx.trans (Kx.trans hkw hkp3) (hput _ W3 _ _ _ hi3 (by omega) hl3 rfl)⟩
      | ret => exact hp.2.elim
      | exit id => exact hp.2.elim
      | goto t => exact hp.2.elim
      | panic ch => exact hp.elim
      | outgrown => exact hp.elim
    · rintro e W2 ⟨⟨v, rfl⟩, hi, hl, hk⟩
      exact ⟨none, _, run_endLoop (P := Tryz.prog) hl (by simp), hdone _ _ (Nat.le_refl _) (hI.putObj _ hi (by omega) hl rfl) ((World.putObj_heap_other (by omega)).trans hk)⟩
end Go.Proofs.YtbhkenphcahifaaGreat
namespace Go.Proofs.YtbhkenphcahifaaGreat
open Go.RowKit Go.Shelf
attribute [local go_sem] Oper.semAt_some
set_option maxRecDepth 100000
set_option maxHeartbeats 4000000
theorem sideD_any (a g x : Nat) (h G : Int) (ha : 1 ≤ a) (ha2 : a ≤ 16) (hx : x ≤ 1000) (Bs bg : Nat) {W : World} (q0 : W.heap[Bs]? = some (.cells #[.int .i64 (a : Int), .int .i64 h, .int .i64 G] 146 (0, 0))) (q1 : W.heap[bg]? = some (.cells #[.int .i64 (g : Int)] 3 (0, 0))) :
    Calls Tryz.prog 206 #[.int .i64 (x : Int), .pointer (some ⟨Bs, 0, none⟩), .pointer (some ⟨bg, 0, none⟩)] W fun e w' => e = .returned (.bool (x / a == g)) ∧ Below W.heap.size W w' := by
  have c0 := cellR 0 q0 rfl
  have d0 := cellR 0 q1 rfl
  obtain ⟨q, hq⟩ : ∃ q, q = x / a := ⟨_, rfl⟩
  have hqx : q ≤ x := by rw [hq]; exact Nat.div_le_self _ _
  have hqi : (x : Int) / (a : Int) = (q : Int) := by rw [hq, Int.natCast_ediv]
  have HE0 : Hid (wrap64 ((x : Int) / (a : Int)) = (q : Int)) := by show _ = _; rw [hqi]; exact wrap_small _ (by omega) (by omega)
  have HE1 : Hid (wrap64 ((x : Int).tdiv (a : Int)) = (q : Int)) := by show _ = _; rw [Int.tdiv_eq_ediv_of_nonneg (by omega)]; exact HE0.out
  have hane : (a : Int) ≠ 0 := by omega
  have HBE : Hid (((q : Int) == (g : Int)) = (q == g)) := by
    show _ = _
    by_cases h9 : q = g
    · rw [h9]; simp
    · have h8 : ((q : Int) == (g : Int)) = false := by simp; omega
      have h7 : (q == g) = false := by simpa using h9
      rw [h8, h7]
  rw [← hq]
  clear q0 q1 hqi hqx hq ha ha2 hx
  have E0 := HE0.out
  have E1 := HE1.out
  go_enter Tryz.func206, Tryz.ntmps206
  go_wp2_with fail
  go_quiet (fail)
  have HB := Lib.hid (below_drewN (Below.refl W.heap.size W) nq)
  go_wp2_with fail
  go_ret
  exact ⟨by rw [← HBE.out]; first | rfl | (simp [E0, E1]; done), HB.out⟩
theorem sideK_any {sa : Option Addr} {l : List Int} (hb : ∀ i, i < l.length → 2 ≤ l.getD i 0 ∧ l.getD i 0 ≤ 16) (hp : prodI l ≤ 256) (sc : Nat) (x : Nat) (hx : (x : Int) < prodI l) (i : Nat) (hi : i < l.length) (Bs bd bl : Nat) {W : World} (hI : Ints W sa l) (q0 : W.heap[Bs]? = some (.cells #[.slice sa l.length sc, .int .i64 (prodI l)] 138 (0, 0))) (q1 : W.heap[bd]? = some (.cells #[.int .i64 (i : Int)] 3 (0, 0))) (q2 : W.heap[bl]? = some (.cells #[.int .i64 (l.getD i 0)] 3 (0, 0))) :
    Calls Tryz.prog 154 #[.int .i64 (x : Int), .pointer (some ⟨Bs, 0, none⟩), .pointer (some ⟨bd, 0, none⟩), .pointer (some ⟨bl, 0, none⟩)] W fun e w' => e = .returned (.bool (decide ((x : Int) / strI l i % l.getD i 0 < l.getD i 0 / 2))) ∧ Below W.heap.size W w' := by
  obtain ⟨d, hd, hnd⟩ := num_of hb (x := (x : Int)) (by omega) hx
  have hdg : (x : Int) / strI l i % l.getD i 0 = d.getD i 0 := by rw [← hnd]; exact num_digit hd hi
  have hco : coordsL l (x : Int) = d := by rw [← hnd]; exact coords_num hd
  have hpos : ∀ s ∈ l, 1 ≤ s ∧ s ≤ 64 := fun s hs => by
    obtain ⟨j, hj, rfl⟩ := List.getElem_of_mem hs
    have := hb j hj
    rw [show l.getD j 0 = l[j] by simp [List.getD, hj]] at this
    omega
  obtain ⟨N, hN⟩ : ∃ N, N = l.length := ⟨_, rfl⟩
  have HN := Lib.hid hN
  have HPX := Lib.hid (fun W' (hw : Below W.heap.size W W') => coords_any (hI.keep hw) hpos sc (prodI l) (x : Int) (by omega) (by omega))
  rw [hco] at HPX
  rw [hdg]
  have HDL : Hid (i < d.length) := by show i < d.length; rw [hd.1]; exact hi
  have hiN : i < N := by rw [hN]; exact hi
  obtain ⟨b1, b2⟩ := hb i hi
  have EQ := Lib.hid (fun W => i64_quo (l.getD i 0) 2 (by omega) (by omega) (by omega) W)
  have HQ0 : Hid (W.heap[Bs]? = some (.cells #[.slice sa N sc, .int .i64 (prodI l)] 138 (0, 0))) := by rw [hN]; exact q0
  have HQ1 := Lib.hid q1
  have HQ2 := Lib.hid q2
  rw [← hN] at HPX
  clear hI q0 q1 q2 hnd hdg hco hpos hd hN hp hx b1 b2 hi hb
  generalize l.getD i 0 = m at *
  generalize prodI l = P at *
  go_enter Tryz.func154, Tryz.ntmps154
  go_wp2_with fail
  refine (wpIn_wide (n := 0)).1 ?_
  refine region_det (by kernel_rfl) (I := fun listed a' w' => ∃ gc : Nat, Hid (Below W.heap.size W w') ∧ Hid (listed.getD 2 false = true → RowAt w' gc d) ∧ Hid (listed.getD 4 false = true → listed.getD 2 false = true) ∧ a' = ⟨#[Value.int IntKind.i64 ↑x, Value.pointer (some (Addr.mk Bs 0 none)), Value.pointer (some (Addr.mk bd 0 none)), Value.pointer (some (Addr.mk bl 0 none)), undef, (if listed.getD 9 false = true then Value.bool (decide (d.getD i 0 < m / 2)) else Value.bool false), (if listed.getD 0 false = true then Value.agg #[Value.slice sa N sc, Value.int IntKind.i64 P] else undef), (if listed.getD 1 false = true then Value.int IntKind.i64 ((x : Int)) else undef), (if listed.getD 2 false = true then Value.slice (some ⟨gc, 0, none⟩) N N else undef), (if listed.getD 3 false = true then Value.int IntKind.i64 ((i : Int)) else undef), (if listed.getD 4 false = true then Value.pointer (some ⟨gc, i, none⟩) else undef), (if listed.getD 5 false = true then Value.int IntKind.i64 (d.getD i 0) else undef), (if listed.getD 6 false = true then Value.int IntKind.i64 (m) else undef), (if listed.getD 7 false = true then Value.int IntKind.i64 (m / 2) else undef), (if listed.getD 8 false = true then Value.bool (decide (d.getD i 0 < m / 2)) else undef)], []⟩) (hup_check (by kernel_rfl)) ?h0 ?step ?fin
  case h0 => exact ⟨0, (Below.refl _ _).drew, (fun h => by simp at h), (fun h => by simp at h), rfl⟩
  case step => as_aux_lemma =>
    intro listed a' w' i hs hbi hdep hi ⟨gc, IB, IC, J4, ha⟩
    obtain ⟨ls⟩ := listed
    match ls, hs with
    | [x0, x1, x2, x3, x4, x5, x6, x7, x8, x9], _ =>
    subst ha
    have hi' : i = 0 ∨ i = 1 ∨ i = 2 ∨ i = 3 ∨ i = 4 ∨ i = 5 ∨ i = 6 ∨ i = 7 ∨ i = 8 ∨ i = 9 := by simp at hi; omega
    rcases hi' with rfl | rfl | rfl | rfl | rfl | rfl | rfl | rfl | rfl | rfl
    · obtain rfl : x0 = false := by simpa using hbi
      refine wpOpIn_load_row rfl rfl 138 _ rfl Bs rfl 138 _ _ _ (heapB IB.out HQ0.out) Tryz.underlying138 rfl info105 ?_
      exact ⟨gc, IB, IC, J4, rfl⟩
    · obtain rfl : x1 = false := by simpa using hbi
      refine wpOpIn_plain rfl rfl rfl ?_
      exact ⟨gc, IB, IC, J4, rfl⟩
    · obtain rfl : x2 = false := by simpa using hbi
      obtain rfl : x0 = true := hdep _ rfl ⟨0, .data⟩ (by simp) rfl
      obtain rfl : x1 = true := hdep _ rfl ⟨1, .data⟩ (by simp) rfl
      obtain rfl : x4 = false := Bool.eq_false_iff.2 fun h => by have := J4.out h; cases this
      refine wpOpIn_call (args := #[Value.agg #[Value.slice sa N sc, Value.int IntKind.i64 P], Value.int IntKind.i64 ((x : Int))]) rfl rfl (sem_call2 rfl rfl rfl (enters_of Tryz.func141 (by kernel_rfl) rfl)) (HPX.out w' IB.out) ?_
      rintro e V ⟨gb, rfl, hgb, hRb, hb⟩
      exact ⟨_, rfl, gb, (IB.out.trans (hb.mono IB.out.size)), (fun _ => hRb), (fun _ => rfl), rfl⟩
    · obtain rfl : x3 = false := by simpa using hbi
      have c9 := kcell IB.out (cellR 0 HQ1.out rfl)
      refine wpOpIn_plain (v := Value.int IntKind.i64 ((i : Int))) (w' := w') rfl rfl (by simp [Oper.semAt, execOp, go_sem, c9]) ?_
      exact ⟨gc, IB, IC, J4, rfl⟩
    · obtain rfl : x4 = false := by simpa using hbi
      obtain rfl : x2 = true := hdep _ rfl ⟨2, .data⟩ (by simp) rfl
      obtain rfl : x3 = true := hdep _ rfl ⟨3, .data⟩ (by simp) rfl
      refine wpOpIn_plain (v := Value.pointer (some ⟨gc, i, none⟩)) (w' := w') rfl rfl (by simp [Oper.semAt, execOp, go_sem, hiN]) ?_
      exact ⟨gc, IB, IC, (fun _ => rfl), rfl⟩
    · obtain rfl : x5 = false := by simpa using hbi
      obtain rfl : x4 = true := hdep _ rfl ⟨4, .data⟩ (by simp) rfl
      have c8 := (IC.out (J4.out rfl)).cell i HDL.out
      rw [show d[i]'HDL.out = d.getD i 0 by simp [List.getD, HDL.out]] at c8
      refine wpOpIn_plain (v := Value.int IntKind.i64 (d.getD i 0)) (w' := w') rfl rfl (by simp [Oper.semAt, execOp, go_sem, c8]) ?_
      exact ⟨gc, IB, IC, J4, rfl⟩
    · obtain rfl : x6 = false := by simpa using hbi
      have c9 := kcell IB.out (cellR 0 HQ2.out rfl)
      refine wpOpIn_plain (v := Value.int IntKind.i64 (m)) (w' := w') rfl rfl (by simp [Oper.semAt, execOp, go_sem, c9]) ?_
      exact ⟨gc, IB, IC, J4, rfl⟩
    · obtain rfl : x7 = false := by simpa using hbi
      obtain rfl : x6 = true := hdep _ rfl ⟨6, .data⟩ (by simp) rfl
      refine wpOpIn_plain (v := Value.int IntKind.i64 (m / 2)) (w' := w') rfl rfl (sem_bin (vx := Value.int IntKind.i64 (m)) (vy := Value.int IntKind.i64 (2)) rfl rfl rfl rfl (EQ.out w')) ?_
      exact ⟨gc, IB, IC, J4, rfl⟩
    · obtain rfl : x8 = false := by simpa using hbi
      obtain rfl : x5 = true := hdep _ rfl ⟨5, .data⟩ (by simp) rfl
      obtain rfl : x7 = true := hdep _ rfl ⟨7, .data⟩ (by simp) rfl
      refine wpOpIn_plain (v := Value.bool (decide (d.getD i 0 < m / 2))) (w' := w') rfl rfl (by simp [Oper.semAt, execOp, go_sem]) ?_
      exact ⟨gc, IB, IC, J4, rfl⟩
    · obtain rfl : x9 = false := by simpa using hbi
      obtain rfl : x8 = true := hdep _ rfl ⟨8, .data⟩ (by simp) rfl
      refine wpOpIn_plain rfl rfl rfl ?_
      exact ⟨gc, IB, IC, J4, rfl⟩
  case fin =>
  intro listed a' Z hs hall ⟨gc, IB, IC, J4, ha⟩
  obtain ⟨ls⟩ := listed
  match ls, hs with
  | [x0, x1, x2, x3, x4, x5, x6, x7, x8, x9], _ =>
  obtain rfl : x0 = true := hall 0 (by simp)
  obtain rfl : x1 = true := hall 1 (by simp)
  obtain rfl : x2 = true := hall 2 (by simp)
  obtain rfl : x3 = true := hall 3 (by simp)
  obtain rfl : x4 = true := hall 4 (by simp)
  obtain rfl : x5 = true := hall 5 (by simp)
  obtain rfl : x6 = true := hall 6 (by simp)
  obtain rfl : x7 = true := hall 7 (by simp)
  obtain rfl : x8 = true := hall 8 (by simp)
  obtain rfl : x9 = true := hall 9 (by simp)
  subst ha
  have HZ := IB
  clear IB IC J4 hall hs
  dsimp only [Exit.then, Exit.inBlock]
  go_wp2_with fail
  go_ret
  exact ⟨rfl, HZ.out⟩
end Go.Proofs.YtbhkenphcahifaaGreat
namespace Go.Proofs.YtbhkenphcahifaaGreat
open Go.RowKit Go.Shelf
attribute [local go_sem] Oper.semAt_some
set_option maxRecDepth 100000
set_option maxHeartbeats 4000000
def stdD (a G : Nat) : List (Nat → Bool) := (List.range G).map fun g => fun x => x / a == g
theorem map_range_at {β : Type} (f : Nat → β) (n i : Nat) {L : List β} (hL : L = (List.range n).map f) (h : i < L.length) : L[i] = f i := by
  subst hL
  simp
theorem stdD_at {a G g : Nat} (h : g < (stdD a G).length) : (stdD a G)[g] = fun x => x / a == g := map_range_at (fun g => fun x => x / a == g) G g rfl h
theorem sidesD (a G sw : Nat) (h : Int) (ha : 1 ≤ a) (ha2 : a ≤ 16) (hG1 : G ≤ 1000) (hsw : sw ≤ 1000) (Bs lo : Nat) {w0 w : World} (q0 : w.heap[Bs]? = some (.cells #[.int .i64 (a : Int), .int .i64 h, .int .i64 (G : Int)] 146 (0, 0))) (n : Nat) :
    SeqF n 205 #[.pointer (some ⟨Bs, 0, none⟩)] [Bs] lo sw (stdD a G) w0 w := by
  intro ll J Fr W hW hnd hG hY h0
  have HC : Hid (CapG Fr [(Bs, .cells #[.int .i64 (a : Int), .int .i64 h, .int .i64 (G : Int)] 146 (0, 0))] W) := by
    intro p hp
    obtain rfl : p = (Bs, .cells #[.int .i64 (a : Int), .int .i64 h, .int .i64 (G : Int)] 146 (0, 0)) := by simpa using hp
    exact ⟨hnd _ (by simp), heapB hW q0⟩
  have hSl : (stdD a G).length = G := by simp [stdD]
  have HSL := Lib.hid hSl
  have HY := Lib.hid hY
  have HG := Lib.hid hG
  have HAA := Lib.hid (And.intro ha (And.intro ha2 (And.intro hG1 hsw)))
  have c2 := cellR 2 HC.out.has.m0 rfl
  clear hY hG hW hnd q0 hSl ha ha2 hsw hG1
  refine callsIn_of_wp Tryz.func205 rfl trivial ?_ rfl
  simp only [Tryz.ntmps205, List.size_toArray, List.length_cons, List.length_nil, Nat.reduceAdd, Nat.reduceSub, Array.replicate_succ, Array.replicate_zero, List.push_toArray, List.append_toArray, List.nil_append, List.cons_append]
  gi_wp2
  gi_loopw [6] (fun a' wr => ∃ g : Nat, g ≤ G ∧ a' = .int .i64 (g : Int) ∧ J g wr ∧ Hid (CapG Fr [(Bs, .cells #[.int .i64 (a : Int), .int .i64 h, .int .i64 (G : Int)] 146 (0, 0))] wr)) (fun a' _ => G - (intOf a').toNat)
  case atStart => exact ⟨0, Nat.zero_le _, rfl, h0, HC⟩
  case round =>
    clear c2 HC h0
    obtain ⟨g, hg, rfl, hJ, HC⟩ := hrel
    by_cases hlt : g < G
    · have d1 : decide ((g : Int) < (G : Int)) = true := decide_eq_true (by omega)
      have qb : (wr.alloc (.cells #[.int .i64 (g : Int)] 3)).heap[wr.heap.size]? = some (.cells #[.int .i64 (g : Int)] 3 (0, 0)) := heap_alloc_new wr _
      have hba : Below wr.heap.size wr (wr.alloc (.cells #[.int .i64 (g : Int)] 3)) := (Below.refl _ _).alloc (Nat.le_refl _) _
      have hJ2 := (HG.out g).jgrow _ _ hJ hba
      have HC2 := Lib.hid (HC.out.below (HG.out g) hJ hba)
      have hFb := (HG.out g).new _ _ wr.heap.size hJ hba (Nat.le_refl _) ⟨_, qb, rfl⟩
      have hgl : g < (stdD a G).length := by rw [HSL.out]; exact hlt
      have hsf : SideFn w0 lo sw (stdD a G)[g] (.func (.func 206) #[] #[.pointer (some ⟨Bs, 0, none⟩), .pointer (some ⟨wr.heap.size, 0, none⟩)]) [Bs, wr.heap.size] (wr.alloc (.cells #[.int .i64 (g : Int)] 3)) := by
        refine ⟨206, _, rfl, enters_of Tryz.func206 (by kernel_rfl) rfl, fun W2 _ hk x hx => ?_⟩
        have h9 := HAA.out
        rw [stdD_at hgl]
        exact sideD_any a g x h (G : Int) h9.1 h9.2.1 (by omega) Bs wr.heap.size ((hk _ (by simp)).trans HC2.out.has.m0) ((hk _ (by simp)).trans qb)
      obtain ⟨fn, tm, as_, bd, hy, hR⟩ := HY.out g _ _ _ hgl hJ2 hsf (fun b hm => by
        simp only [List.mem_cons, List.not_mem_nil, or_false] at hm
        rcases hm with rfl | rfl
        · exact (HC2.out _ (List.mem_singleton.2 rfl)).1
        · exact hFb)
      have HWI := Lib.hid (wrap_small ((g : Int) + 1) (by omega) (by have := HAA.out; omega))
      have HCS : Hid (((g : Int) + 1) = ((g + 1 : Nat) : Int)) := by show _ = _; rw [Int.natCast_add]; rfl
      have HME : Hid (G - (intOf (.int .i64 ((g : Int) + 1))).toNat < G - (intOf (.int .i64 (g : Int))).toNat) := by show _ < _; simp [intOf]; omega
      have HMO : Hid (G - (intOf (.int .i64 (wrap64 ((g : Int) + 1)))).toNat < G - (intOf (.int .i64 (g : Int))).toNat) := by show _ < _; rw [HWI.out]; exact HME.out
      have HK1 : Hid (g + 1 ≤ G) := hlt
      clear hsf hFb qb hba hgl hJ HC
      gi_wp2
      refine ⟨fun h => (by cases h), ?_⟩
      refine hR.mono ?_
      rintro e W2 ⟨rfl, h1, hk⟩
      have HC3 := Lib.hid (HC2.out.kx hk)
      clear hy hR hk HC2 hJ2
      gi_wp2
      go_roundw
      case rel => exact ⟨g + 1, HK1.out, by first | rw [HWI.out, HCS.out] | rw [HCS.out], h1, HC3⟩
      case measure => first | exact HMO.out | exact HME.out
    · have hgG : g = G := by omega
      rw [hgG, ← HSL.out] at hJ
      gi_wp2
      go_end0
      exact ⟨⟨_, rfl⟩, hJ⟩
end Go.Proofs.YtbhkenphcahifaaGreat
namespace Go.Proofs.YtbhkenphcahifaaGreat
open Go.RowKit Go.Shelf
attribute [local go_sem] Oper.semAt_some
set_option maxRecDepth 100000
set_option maxHeartbeats 4000000
def stdK (l : List Int) : List (Nat → Bool) := (List.range l.length).map fun i => fun (x : Nat) => decide ((x : Int) / strI l i % l.getD i 0 < l.getD i 0 / 2)
theorem stdK_at {l : List Int} {i : Nat} (h : i < (stdK l).length) : (stdK l)[i] = fun (x : Nat) => decide ((x : Int) / strI l i % l.getD i 0 < l.getD i 0 / 2) := map_range_at (fun i => fun (x : Nat) => decide ((x : Int) / strI l i % l.getD i 0 < l.getD i 0 / 2)) l.length i rfl h
theorem sidesK {sa : Option Addr} {l : List Int} (hb : ∀ i, i < l.length → 2 ≤ l.getD i 0 ∧ l.getD i 0 ≤ 16) (hl4 : l.length ≤ 4) (hp : prodI l ≤ 256) (sc sw : Nat) (hsw : (sw : Int) = prodI l) (Bs : Nat) {w0 w : World} (hI : Ints w0 sa l) (hw0 : Below w0.heap.size w0 w) (q0 : w.heap[Bs]? = some (.cells #[.slice sa l.length sc, .int .i64 (prodI l)] 138 (0, 0))) (n : Nat) :
    SeqF n 153 #[.pointer (some ⟨Bs, 0, none⟩)] [Bs] w0.heap.size sw (stdK l) w0 w := by
  intro ll J Fr W hW hnd hG hY h0
  obtain ⟨N, hN⟩ : ∃ N, N = l.length := ⟨_, rfl⟩
  have HN := Lib.hid hN
  have HC : Hid (CapG Fr [(Bs, .cells #[.slice sa l.length sc, .int .i64 (prodI l)] 138 (0, 0))] W) := by
    intro p hp
    obtain rfl : p = (Bs, .cells #[.slice sa l.length sc, .int .i64 (prodI l)] 138 (0, 0)) := by simpa using hp
    exact ⟨hnd _ (by simp), heapB hW q0⟩
  have HB0 : Hid (Below w0.heap.size w0 W) := hw0.trans (hW.mono hw0.size)
  have hSl : (stdK l).length = l.length := by simp [stdK]
  have HSL := Lib.hid hSl
  have HY := Lib.hid hY
  have HG := Lib.hid hG
  have HII := Lib.hid hI
  have HAA := Lib.hid (And.intro hb (And.intro hl4 (And.intro hp hsw)))
  have HWS : Hid (w0.heap.size ≤ W.heap.size) := HB0.out.size
  rw [← hN] at HC
  have c0 := cellR 0 HC.out.has.m0 rfl
  clear hY hG hW hnd q0 hSl hb hl4 hp hsw hI hN hw0
  refine callsIn_of_wp Tryz.func153 rfl trivial ?_ rfl
  simp only [Tryz.ntmps153, List.size_toArray, List.length_cons, List.length_nil, Nat.reduceAdd, Nat.reduceSub, Array.replicate_succ, Array.replicate_zero, List.push_toArray, List.append_toArray, List.nil_append, List.cons_append]
  gi_wp2
  gi_loopw [8] (fun a' wr => ∃ i : Nat, i ≤ N ∧ a' = .int .i64 (i : Int) ∧ J i wr ∧ Hid (CapG Fr [(Bs, .cells #[.slice sa N sc, .int .i64 (prodI l)] 138 (0, 0))] wr ∧ Below w0.heap.size w0 wr)) (fun a' _ => N - (intOf a').toNat)
  case atStart => exact ⟨0, Nat.zero_le _, rfl, h0, HC.out, HB0.out⟩
  case round =>
    clear c0 HC h0 HB0
    obtain ⟨i, hi, rfl, hJ, HC⟩ := hrel
    by_cases hlt : i < N
    · have d1 : decide ((i : Int) < (N : Int)) = true := decide_eq_true (by omega)
      have hil : i < l.length := by rw [← HN.out]; exact hlt
      obtain ⟨gs, os, rfl, hcs⟩ := (HII.out.keep HC.out.2).at_ (ne_nil_of_lt hil)
      have e0 := hcs i hil
      rw [show l[i] = l.getD i 0 by simp [List.getD, hil]] at e0
      clear hcs
      obtain ⟨hbw, qa, qb, hz⟩ := twoN wr (.cells #[.int .i64 (i : Int)] 3) (.cells #[.int .i64 (l.getD i 0)] 3)
      have hJ2 := (HG.out i).jgrow _ _ hJ hbw
      have HC2 : Hid (CapG Fr [(Bs, .cells #[.slice (some ⟨gs, os, none⟩) N sc, .int .i64 (prodI l)] 138 (0, 0))] ((wr.alloc (.cells #[.int .i64 (i : Int)] 3)).alloc (.cells #[.int .i64 (l.getD i 0)] 3)) ∧ Below w0.heap.size w0 ((wr.alloc (.cells #[.int .i64 (i : Int)] 3)).alloc (.cells #[.int .i64 (l.getD i 0)] 3))) := ⟨HC.out.1.below (HG.out i) hJ hbw, HC.out.2.trans (hbw.mono HC.out.2.size)⟩
      have hF1 := (HG.out i).new _ _ wr.heap.size hJ hbw (Nat.le_refl _) ⟨_, qa, rfl⟩
      have hF2 := (HG.out i).new _ _ (wr.heap.size + 1) hJ hbw (by omega) ⟨_, qb, rfl⟩
      have hgl : i < (stdK l).length := by rw [HSL.out]; exact hil
      have hsf : SideFn w0 w0.heap.size sw (stdK l)[i] (.func (.func 154) #[] #[.pointer (some ⟨Bs, 0, none⟩), .pointer (some ⟨wr.heap.size, 0, none⟩), .pointer (some ⟨wr.heap.size + 1, 0, none⟩)]) [Bs, wr.heap.size, wr.heap.size + 1] ((wr.alloc (.cells #[.int .i64 (i : Int)] 3)).alloc (.cells #[.int .i64 (l.getD i 0)] 3)) := by
        refine ⟨154, _, rfl, enters_of Tryz.func154 (by kernel_rfl) rfl, fun W2 hbl hk x hx => ?_⟩
        have h9 := HAA.out
        rw [stdK_at hgl]
        have k0 := (hk Bs (by simp)).trans HC2.out.1.has.m0
        rw [HN.out] at k0
        exact sideK_any h9.1 h9.2.2.1 sc x (by have := h9.2.2.2; omega) i hil Bs wr.heap.size (wr.heap.size + 1) (HII.out.keep hbl) k0 ((hk _ (by simp)).trans qa) ((hk _ (by simp)).trans qb)
      obtain ⟨fn, tm, as_, bd, hy, hR⟩ := HY.out i _ _ _ hgl hJ2 hsf (fun b hm => by
        simp only [List.mem_cons, List.not_mem_nil, or_false] at hm
        rcases hm with rfl | rfl | rfl
        · exact (HC2.out.1 _ (List.mem_singleton.2 rfl)).1
        · exact hF1
        · exact hF2)
      have HWI := Lib.hid (wrap_small ((i : Int) + 1) (by omega) (by have := HAA.out.2.1; have := HN.out; omega))
      have HCS : Hid (((i : Int) + 1) = ((i + 1 : Nat) : Int)) := by show _ = _; rw [Int.natCast_add]; rfl
      have HME : Hid (N - (intOf (.int .i64 ((i : Int) + 1))).toNat < N - (intOf (.int .i64 (i : Int))).toNat) := by show _ < _; simp [intOf]; omega
      have HMO : Hid (N - (intOf (.int .i64 (wrap64 ((i : Int) + 1)))).toNat < N - (intOf (.int .i64 (i : Int))).toNat) := by show _ < _; rw [HWI.out]; exact HME.out
      have HK1 : Hid (i + 1 ≤ N) := hlt
      clear hsf hF1 hF2 qa qb hz hbw hgl hJ HC hil
      generalize l.getD i 0 = m at *
      gi_wp2
      refine ⟨fun h => (by cases h), ?_⟩
      refine hR.mono ?_
      rintro e W2 ⟨rfl, h1, hk⟩
      have HC3 : Hid (CapG Fr [(Bs, .cells #[.slice (some ⟨gs, os, none⟩) N sc, .int .i64 (prodI l)] 138 (0, 0))] W2 ∧ Below w0.heap.size w0 W2) := ⟨HC2.out.1.kx hk, HC2.out.2.trans hk.1⟩
      clear hy hR hk HC2 hJ2 e0
      gi_wp2
      go_roundw
      case rel => exact ⟨i + 1, HK1.out, by first | rw [HWI.out, HCS.out] | rw [HCS.out], h1, HC3⟩
      case measure => first | exact HMO.out | exact HME.out
    · have hgG : i = l.length := by rw [← HN.out]; omega
      rw [hgG, ← HSL.out] at hJ
      gi_wp2
      go_end0
      exact ⟨⟨_, rfl⟩, hJ⟩
end Go.Proofs.YtbhkenphcahifaaGreat
namespace Go.Proofs.YtbhkenphcahifaaGreat
open Go.RowKit Go.Shelf
attribute [local go_sem] Oper.semAt_some
set_option maxRecDepth 100000
set_option maxHeartbeats 4000000
theorem i64_eql (u v : Nat) (w : World) : (binOp .eql 3 (.int .i64 (u : Int)) (.int .i64 (v : Int))).run Tryz.prog w = .ok (.bool (u == v)) w := by
  have h : ((u : Int) == (v : Int)) = (u == v) := by
    by_cases h9 : u = v
    · rw [h9]; simp
    · have h8 : ((u : Int) == (v : Int)) = false := by simp; omega
      have h7 : (u == v) = false := by simpa using h9
      rw [h8, h7]
  rw [← h]
  simp [go_sem]
theorem sideT_any (k m v x ww : Nat) (lv : Int) (hk : 1 ≤ k) (hk2 : k ≤ 16) (hm : m ≤ 4) (hw1 : 1 ≤ ww) (hx : x ≤ 1000) (Bs bl bv : Nat) {W : World} (q0 : W.heap[Bs]? = some (.cells #[.int .i64 (k : Int), .int .i64 lv, .int .i64 (ww : Int)] 142 (0, 0))) (q1 : W.heap[bl]? = some (.cells #[.int .i64 ((m : Int) + 1)] 3 (0, 0))) (q2 : W.heap[bv]? = some (.cells #[.int .i64 (v : Int)] 3 (0, 0))) :
    Calls Tryz.prog 193 #[.int .i64 (x : Int), .pointer (some ⟨Bs, 0, none⟩), .pointer (some ⟨bl, 0, none⟩), .pointer (some ⟨bv, 0, none⟩)] W fun e w' => e = .returned (.bool (decide (x / ww < m + 1) && (x % ww / k ^ m == v))) ∧ Below W.heap.size W w' := by
  obtain ⟨q, hq⟩ : ∃ q, q = x / ww := ⟨_, rfl⟩
  obtain ⟨r, hr⟩ : ∃ r, r = x % ww := ⟨_, rfl⟩
  have hqx : q ≤ x := by rw [hq]; exact Nat.div_le_self _ _
  have hrx : r ≤ x := by rw [hr]; exact Nat.mod_le _ _
  have HQ0 := Lib.hid q0
  have HQ1 := Lib.hid q1
  have HQ2 := Lib.hid q2
  have EQ := Lib.hid (fun W => i64_quo (x : Int) (ww : Int) (by omega) (by omega) (by omega) W)
  have ER := Lib.hid (fun W => i64_rem (x : Int) (ww : Int) (by omega) (by omega) W)
  rw [show (x : Int) / (ww : Int) = (q : Int) by rw [hq, Int.natCast_ediv]] at EQ
  rw [show (x : Int) % (ww : Int) = (r : Int) by rw [hr, Int.natCast_emod]] at ER
  have HC := Lib.hid (fun W => without_any k m hk hk2 (by omega) lv (ww : Int) (r : Int) (by omega) (by omega) W)
  rw [show (r : Int) / ((k ^ m : Nat) : Int) = ((r / k ^ m : Nat) : Int) by rw [Int.natCast_ediv]] at HC
  rw [← hq, ← hr]
  generalize r / k ^ m = u at *
  have ES : Hid (∀ W, (binOp .sub 3 (.int .i64 ((m : Int) + 1)) (.int .i64 1)).run Tryz.prog W = .ok (.int .i64 (m : Int)) W) := fun W => by
    have h8 := i64_sub ((m : Int) + 1) 1 (by omega) (by omega) W
    rwa [show (m : Int) + 1 - 1 = (m : Int) by omega] at h8
  have EE := Lib.hid (fun W => i64_eql u v W)
  by_cases h1 : q < m + 1
  · rw [decide_eq_true h1, Bool.true_and]
    have EL : Hid (∀ W, (binOp .lss 3 (.int .i64 (q : Int)) (.int .i64 ((m : Int) + 1))).run Tryz.prog W = .ok (.bool true) W) := fun W => by
      have h9 : ((q : Int) < (m : Int) + 1) := by omega
      simp [go_sem, h9]
    clear q0 q1 q2 hq hr hqx hrx hx hw1 hk hk2 hm h1
    generalize (u == v) = bb at *
    go_enter Tryz.func193, Tryz.ntmps193
    go_wp2_with fail
    refine (wpIn_wide (n := 0)).1 ?_
    refine region_det (by kernel_rfl) (I := fun listed a' w' => Hid (Below W.heap.size W w') ∧ a' = ⟨#[Value.int IntKind.i64 ((x : Int)), Value.pointer (some ⟨Bs, 0, none⟩), Value.pointer (some ⟨bl, 0, none⟩), Value.pointer (some ⟨bv, 0, none⟩), undef, (if listed.getD 18 false = true then Value.bool bb else Value.bool false), (if listed.getD 0 false = true then Value.int IntKind.i64 ((x : Int)) else undef), (if listed.getD 1 false = true then Value.pointer (some ⟨Bs, 2, none⟩) else undef), (if listed.getD 2 false = true then Value.int IntKind.i64 ((ww : Int)) else undef), (if listed.getD 3 false = true then Value.int IntKind.i64 ((q : Int)) else undef), (if listed.getD 4 false = true then Value.int IntKind.i64 ((m : Int) + 1) else undef), (if listed.getD 5 false = true then Value.bool true else undef), (if listed.getD 6 false = true then Value.bool true else undef), (if listed.getD 7 false = true then Value.agg #[Value.int .i64 (k : Int), Value.int .i64 lv, Value.int .i64 (ww : Int)] else undef), (if listed.getD 8 false = true then Value.int IntKind.i64 ((x : Int)) else undef), (if listed.getD 9 false = true then Value.pointer (some ⟨Bs, 2, none⟩) else undef), (if listed.getD 10 false = true then Value.int IntKind.i64 ((ww : Int)) else undef), (if listed.getD 11 false = true then Value.int IntKind.i64 ((r : Int)) else undef), (if listed.getD 12 false = true then Value.int IntKind.i64 ((m : Int) + 1) else undef), (if listed.getD 13 false = true then Value.int IntKind.i64 ((m : Int)) else undef), (if listed.getD 14 false = true then Value.int IntKind.i64 ((u : Int)) else undef), (if listed.getD 15 false = true then Value.int IntKind.i64 ((v : Int)) else undef), (if listed.getD 16 false = true then Value.bool bb else undef), (if listed.getD 17 false = true then Value.bool bb else undef)], []⟩) (hup_check (by kernel_rfl)) ?h0 ?step ?fin
    case h0 => exact ⟨(Below.refl _ _).drew, rfl⟩
    case step => as_aux_lemma =>
      intro listed a' w' i hs hbi hdep hi ⟨IB, ha⟩
      obtain ⟨ls⟩ := listed
      match ls, hs with
      | [x0, x1, x2, x3, x4, x5, x6, x7, x8, x9, x10, x11, x12, x13, x14, x15, x16, x17, x18], _ =>
      subst ha
      have hi' : i = 0 ∨ i = 1 ∨ i = 2 ∨ i = 3 ∨ i = 4 ∨ i = 5 ∨ i = 6 ∨ i = 7 ∨ i = 8 ∨ i = 9 ∨ i = 10 ∨ i = 11 ∨ i = 12 ∨ i = 13 ∨ i = 14 ∨ i = 15 ∨ i = 16 ∨ i = 17 ∨ i = 18 := by simp at hi; omega
      rcases hi' with rfl | rfl | rfl | rfl | rfl | rfl | rfl | rfl | rfl | rfl | rfl | rfl | rfl | rfl | rfl | rfl | rfl | rfl | rfl
      · obtain rfl : x0 = false := by simpa using hbi
        refine wpOpIn_plain rfl rfl rfl ?_
        exact ⟨IB, rfl⟩
      · obtain rfl : x1 = false := by simpa using hbi
        refine wpOpIn_plain (v := Value.pointer (some ⟨Bs, 2, none⟩)) (w' := w') rfl rfl (by simp [Oper.semAt, execOp, go_sem]) ?_
        exact ⟨IB, rfl⟩
      · obtain rfl : x2 = false := by simpa using hbi
        obtain rfl : x1 = true := hdep _ rfl ⟨1, .data⟩ (by simp) rfl
        have c9 := kcell IB.out (cellR 2 HQ0.out rfl)
        refine wpOpIn_plain (v := Value.int IntKind.i64 ((ww : Int))) (w' := w') rfl rfl (by simp [Oper.semAt, execOp, go_sem, c9]) ?_
        exact ⟨IB, rfl⟩
      · obtain rfl : x3 = false := by simpa using hbi
        obtain rfl : x0 = true := hdep _ rfl ⟨0, .data⟩ (by simp) rfl
        obtain rfl : x2 = true := hdep _ rfl ⟨2, .data⟩ (by simp) rfl
        refine wpOpIn_plain (v := Value.int IntKind.i64 ((q : Int))) (w' := w') rfl rfl (sem_bin (vx := Value.int IntKind.i64 ((x : Int))) (vy := Value.int IntKind.i64 ((ww : Int))) rfl rfl rfl rfl (EQ.out w')) ?_
        exact ⟨IB, rfl⟩
      · obtain rfl : x4 = false := by simpa using hbi
        have c9 := kcell IB.out (cellR 0 HQ1.out rfl)
        refine wpOpIn_plain (v := Value.int IntKind.i64 ((m : Int) + 1)) (w' := w') rfl rfl (by simp [Oper.semAt, execOp, go_sem, c9]) ?_
        exact ⟨IB, rfl⟩
      · obtain rfl : x5 = false := by simpa using hbi
        obtain rfl : x3 = true := hdep _ rfl ⟨3, .data⟩ (by simp) rfl
        obtain rfl : x4 = true := hdep _ rfl ⟨4, .data⟩ (by simp) rfl
        refine wpOpIn_plain (v := Value.bool true) (w' := w') rfl rfl (sem_bin (vx := Value.int IntKind.i64 ((q : Int))) (vy := Value.int IntKind.i64 ((m : Int) + 1)) rfl rfl rfl rfl (EL.out w')) ?_
        exact ⟨IB, rfl⟩
      · obtain rfl : x6 = false := by simpa using hbi
        obtain rfl : x5 = true := hdep _ rfl ⟨5, .data⟩ (by simp) rfl
        refine wpOpIn_plain rfl rfl rfl ?_
        exact ⟨IB, rfl⟩
      · obtain rfl : x7 = false := by simpa using hbi
        obtain rfl : x6 = true := hdep _ rfl ⟨6, .guard⟩ (by simp) rfl
        refine wpOpIn_rowg rfl rfl rfl 142 _ rfl Bs rfl 142 _ _ _ (heapB IB.out HQ0.out) Tryz.underlying142 rfl info109 ?_
        exact ⟨IB, rfl⟩
      · obtain rfl : x8 = false := by simpa using hbi
        obtain rfl : x6 = true := hdep _ rfl ⟨6, .guard⟩ (by simp) rfl
        refine wpOpIn_guard (v := Value.int IntKind.i64 ((x : Int))) (w' := w') rfl rfl rfl (by simp [Oper.semAt, execOp, go_sem]) ?_
        exact ⟨IB, rfl⟩
      · obtain rfl : x9 = false := by simpa using hbi
        obtain rfl : x6 = true := hdep _ rfl ⟨6, .guard⟩ (by simp) rfl
        refine wpOpIn_guard (v := Value.pointer (some ⟨Bs, 2, none⟩)) (w' := w') rfl rfl rfl (by simp [Oper.semAt, execOp, go_sem]) ?_
        exact ⟨IB, rfl⟩
      · obtain rfl : x10 = false := by simpa using hbi
        obtain rfl : x9 = true := hdep _ rfl ⟨9, .data⟩ (by simp) rfl
        obtain rfl : x6 = true := hdep _ rfl ⟨6, .guard⟩ (by simp) rfl
        have c9 := kcell IB.out (cellR 2 HQ0.out rfl)
        refine wpOpIn_guard (v := Value.int IntKind.i64 ((ww : Int))) (w' := w') rfl rfl rfl (by simp [Oper.semAt, execOp, go_sem, c9]) ?_
        exact ⟨IB, rfl⟩
      · obtain rfl : x11 = false := by simpa using hbi
        obtain rfl : x8 = true := hdep _ rfl ⟨8, .data⟩ (by simp) rfl
        obtain rfl : x10 = true := hdep _ rfl ⟨10, .data⟩ (by simp) rfl
        obtain rfl : x6 = true := hdep _ rfl ⟨6, .guard⟩ (by simp) rfl
        refine wpOpIn_guard (v := Value.int IntKind.i64 ((r : Int))) (w' := w') rfl rfl rfl (sem_bin (vx := Value.int IntKind.i64 ((x : Int))) (vy := Value.int IntKind.i64 ((ww : Int))) rfl rfl rfl rfl (ER.out w')) ?_
        exact ⟨IB, rfl⟩
      · obtain rfl : x12 = false := by simpa using hbi
        obtain rfl : x6 = true := hdep _ rfl ⟨6, .guard⟩ (by simp) rfl
        have c9 := kcell IB.out (cellR 0 HQ1.out rfl)
        refine wpOpIn_guard (v := Value.int IntKind.i64 ((m : Int) + 1)) (w' := w') rfl rfl rfl (by simp [Oper.semAt, execOp, go_sem, c9]) ?_
        exact ⟨IB, rfl⟩
      · obtain rfl : x13 = false := by simpa using hbi
        obtain rfl : x12 = true := hdep _ rfl ⟨12, .data⟩ (by simp) rfl
        obtain rfl : x6 = true := hdep _ rfl ⟨6, .guard⟩ (by simp) rfl
        refine wpOpIn_guard (v := Value.int IntKind.i64 ((m : Int))) (w' := w') rfl rfl rfl (sem_bin (vx := Value.int IntKind.i64 ((m : Int) + 1)) (vy := Value.int IntKind.i64 (1)) rfl rfl rfl rfl (ES.out w')) ?_
        exact ⟨IB, rfl⟩
      · obtain rfl : x14 = false := by simpa using hbi
        obtain rfl : x7 = true := hdep _ rfl ⟨7, .data⟩ (by simp) rfl
        obtain rfl : x11 = true := hdep _ rfl ⟨11, .data⟩ (by simp) rfl
        obtain rfl : x13 = true := hdep _ rfl ⟨13, .data⟩ (by simp) rfl
        obtain rfl : x6 = true := hdep _ rfl ⟨6, .guard⟩ (by simp) rfl
        refine wpOpIn_callg (args := #[Value.agg #[Value.int .i64 (k : Int), Value.int .i64 lv, Value.int .i64 (ww : Int)], Value.int IntKind.i64 ((r : Int)), Value.int IntKind.i64 ((m : Int))]) rfl rfl rfl (sem_call3 rfl rfl rfl rfl (enters_of Tryz.func190 (by kernel_rfl) rfl)) (HC.out w') ?_
        rintro e V ⟨rfl, hb⟩
        exact ⟨_, rfl, (IB.out.trans (hb.mono IB.out.size)), rfl⟩
      · obtain rfl : x15 = false := by simpa using hbi
        obtain rfl : x6 = true := hdep _ rfl ⟨6, .guard⟩ (by simp) rfl
        have c9 := kcell IB.out (cellR 0 HQ2.out rfl)
        refine wpOpIn_guard (v := Value.int IntKind.i64 ((v : Int))) (w' := w') rfl rfl rfl (by simp [Oper.semAt, execOp, go_sem, c9]) ?_
        exact ⟨IB, rfl⟩
      · obtain rfl : x16 = false := by simpa using hbi
        obtain rfl : x14 = true := hdep _ rfl ⟨14, .data⟩ (by simp) rfl
        obtain rfl : x15 = true := hdep _ rfl ⟨15, .data⟩ (by simp) rfl
        obtain rfl : x6 = true := hdep _ rfl ⟨6, .guard⟩ (by simp) rfl
        refine wpOpIn_guard (v := Value.bool bb) (w' := w') rfl rfl rfl (sem_bin (vx := Value.int IntKind.i64 ((u : Int))) (vy := Value.int IntKind.i64 ((v : Int))) rfl rfl rfl rfl (EE.out w')) ?_
        exact ⟨IB, rfl⟩
      · obtain rfl : x17 = false := by simpa using hbi
        obtain rfl : x6 = true := hdep _ rfl ⟨6, .data⟩ (by simp) rfl
        obtain rfl : x16 = true := hdep _ rfl ⟨16, .data⟩ (by simp) rfl
        refine wpOpIn_plain (v := Value.bool bb) (w' := w') rfl rfl (by simp [Oper.semAt, execOp, go_sem]) ?_
        exact ⟨IB, rfl⟩
      · obtain rfl : x18 = false := by simpa using hbi
        obtain rfl : x17 = true := hdep _ rfl ⟨17, .data⟩ (by simp) rfl
        refine wpOpIn_plain rfl rfl rfl ?_
        exact ⟨IB, rfl⟩
    case fin =>
    intro listed a' Z hs hall ⟨IB, ha⟩
    obtain ⟨ls⟩ := listed
    match ls, hs with
    | [x0, x1, x2, x3, x4, x5, x6, x7, x8, x9, x10, x11, x12, x13, x14, x15, x16, x17, x18], _ =>
    obtain rfl : x0 = true := hall 0 (by simp)
    obtain rfl : x1 = true := hall 1 (by simp)
    obtain rfl : x2 = true := hall 2 (by simp)
    obtain rfl : x3 = true := hall 3 (by simp)
    obtain rfl : x4 = true := hall 4 (by simp)
    obtain rfl : x5 = true := hall 5 (by simp)
    obtain rfl : x6 = true := hall 6 (by simp)
    obtain rfl : x7 = true := hall 7 (by simp)
    obtain rfl : x8 = true := hall 8 (by simp)
    obtain rfl : x9 = true := hall 9 (by simp)
    obtain rfl : x10 = true := hall 10 (by simp)
    obtain rfl : x11 = true := hall 11 (by simp)
    obtain rfl : x12 = true := hall 12 (by simp)
    obtain rfl : x13 = true := hall 13 (by simp)
    obtain rfl : x14 = true := hall 14 (by simp)
    obtain rfl : x15 = true := hall 15 (by simp)
    obtain rfl : x16 = true := hall 16 (by simp)
    obtain rfl : x17 = true := hall 17 (by simp)
    obtain rfl : x18 = true := hall 18 (by simp)
    subst ha
    have HZ := IB
    clear IB hall hs
    dsimp only [Exit.then, Exit.inBlock]
    go_wp2_with fail
    go_ret
    exact ⟨rfl, HZ.out⟩
  · rw [decide_eq_false h1, Bool.false_and]
    have c0 := cellR 0 q0 rfl
    have c2 := cellR 2 q0 rfl
    have d0 := cellR 0 q1 rfl
    have h9 : decide ((q : Int) < (m : Int) + 1) = false := decide_eq_false (by omega)
    have HE0 : Hid (wrap64 ((x : Int) / (ww : Int)) = (q : Int)) := by show _ = _; rw [show (x : Int) / (ww : Int) = (q : Int) by rw [hq, Int.natCast_ediv]]; exact wrap_small _ (by omega) (by omega)
    have HE1 : Hid (wrap64 ((x : Int).tdiv (ww : Int)) = (q : Int)) := by show _ = _; rw [Int.tdiv_eq_ediv_of_nonneg (by omega)]; exact HE0.out
    have hane : (ww : Int) ≠ 0 := by omega
    clear q0 q1 q2 hq hr hqx hrx hx hw1 hk hk2 hm h1 HQ0 HQ1 HQ2 EQ ER ES EE HC
    have E0 := HE0.out
    have E1 := HE1.out
    go_enter Tryz.func193, Tryz.ntmps193
    go_wp2_with fail
    go_quiet (fail)
    have HB := Lib.hid (below_drewN (Below.refl W.heap.size W) nq)
    go_wp2_with fail
    go_ret
    exact ⟨rfl, HB.out⟩
end Go.Proofs.YtbhkenphcahifaaGreat
namespace Go.Proofs.YtbhkenphcahifaaGreat
open Go.RowKit Go.Shelf
attribute [local go_sem] Oper.semAt_some
set_option maxRecDepth 100000
set_option maxHeartbeats 4000000
/-- where the standard sides of a level of a tree begin -/
def fst2 (k : Nat) : Nat → Nat
  | 0 => 0
  | j + 1 => fst2 k j + k ^ (j + 1)
theorem fst2_mono (k : Nat) {a b : Nat} (h : a ≤ b) : fst2 k a ≤ fst2 k b := by
  induction b with
  | zero => obtain rfl : a = 0 := by omega
            exact Nat.le_refl _
  | succ b ih =>
    by_cases hab : a = b + 1
    · subst hab; exact Nat.le_refl _
    · exact Nat.le_trans (ih (by omega)) (by rw [fst2]; omega)
theorem fst2_le {k n : Nat} (h : ∀ a, a ≤ n → k ^ a ≤ 256) : ∀ j, j ≤ n → fst2 k j ≤ j * 256 := by
  intro j
  induction j with
  | zero => intro _; exact Nat.zero_le _
  | succ j ih =>
    intro hj
    have h1 := ih (by omega)
    have h2 := h (j + 1) hj
    show fst2 k j + k ^ (j + 1) ≤ _
    omega
end Go.Proofs.YtbhkenphcahifaaGreat
namespace Go.Proofs.YtbhkenphcahifaaGreat
open Go.RowKit Go.Shelf
attribute [local go_sem] Oper.semAt_some
set_option maxRecDepth 100000
set_option maxHeartbeats 4000000
/-- the standard sides of a tree, level by level from above -/
def lvlT (k lv j v : Nat) : Nat → Bool := fun x => decide (x / k ^ (lv - 1) < lv - 1 - j) && (x % k ^ (lv - 1) / k ^ (lv - 1 - j - 1) == v)
def stdTn (k lv : Nat) : Nat → List (Nat → Bool)
  | 0 => []
  | j + 1 => stdTn k lv j ++ (List.range (k ^ (j + 1))).map fun v => lvlT k lv j v
def stdT (k lv : Nat) : List (Nat → Bool) := stdTn k lv (lv - 1)
theorem stdTn_len (k lv : Nat) : ∀ j, (stdTn k lv j).length = fst2 k j
  | 0 => rfl
  | j + 1 => by rw [stdTn, List.length_append, stdTn_len k lv j, List.length_map, List.length_range]; rfl
theorem stdTn_at (k lv : Nat) {j v : Nat} (hv : v < k ^ (j + 1)) : ∀ n, j < n → ∀ (h : fst2 k j + v < (stdTn k lv n).length), (stdTn k lv n)[fst2 k j + v] = lvlT k lv j v := by
  intro n
  induction n with
  | zero => intro h; omega
  | succ n ih =>
    intro hj h
    by_cases hjn : j = n
    · subst hjn
      have e : stdTn k lv (j + 1) = stdTn k lv j ++ (List.range (k ^ (j + 1))).map fun v => lvlT k lv j v := rfl
      have hl := stdTn_len k lv j
      simp only [e]
      rw [List.getElem_append_right (by omega)]
      simp [hl]
    · have e : stdTn k lv (n + 1) = stdTn k lv n ++ (List.range (k ^ (n + 1))).map fun v => lvlT k lv n v := rfl
      have hl := stdTn_len k lv n
      have hm := fst2_mono k (show j + 1 ≤ n by omega)
      have hm2 : fst2 k (j + 1) = fst2 k j + k ^ (j + 1) := rfl
      simp only [e]
      rw [List.getElem_append_left (by omega)]
      exact ih (by omega) _
/-- the number in the box that a value points to -/
def boxN (a : Value) (w : World) : Nat := match a with
  | .pointer (some p) => (match w.heap[p.block]? with | some (.cells cs _ _) => (intOf (cs.getD 0 undef)).toNat | _ => 0)
  | _ => 0
theorem boxN_of {b n : Nat} {w : World} (h : w.heap[b]? = some (.cells #[.int .i64 (n : Int)] 3 (0, 0))) : boxN (.pointer (some ⟨b, 0, none⟩)) w = n := by
  simp [boxN, h, intOf]
theorem sidesT (k L : Nat) (hk : 2 ≤ k) (hk2 : k ≤ 8) (hL : L ≤ 3) (hkk : ∀ a, a ≤ L → k ^ a ≤ 256) (lo sw : Nat) (hsw : sw ≤ 1000) (Bs : Nat) {w0 w : World} (q0 : w.heap[Bs]? = some (.cells #[.int .i64 (k : Int), .int .i64 ((L : Int) + 1), .int .i64 ((k ^ L : Nat) : Int)] 142 (0, 0))) (n : Nat) :
    SeqF n 192 #[.pointer (some ⟨Bs, 0, none⟩)] [Bs] lo sw (stdT k (L + 1)) w0 w := by
  intro ll J Fr W hW hnd hG hY h0
  have HPW := Lib.hid (show 1 ≤ k ^ L from pow_pos' (by omega))
  generalize hWW : k ^ L = ww at *
  have HWW := Lib.hid hWW
  have HC : Hid (CapG Fr [(Bs, .cells #[.int .i64 (k : Int), .int .i64 ((L : Int) + 1), .int .i64 (ww : Int)] 142 (0, 0))] W) := by
    intro p hp
    obtain rfl : p = (Bs, .cells #[.int .i64 (k : Int), .int .i64 ((L : Int) + 1), .int .i64 (ww : Int)] 142 (0, 0)) := by simpa using hp
    exact ⟨hnd _ (by simp), heapB hW q0⟩
  have hSl : (stdT k (L + 1)).length = fst2 k L := stdTn_len k (L + 1) L
  have HSL := Lib.hid hSl
  have HY := Lib.hid hY
  have HG := Lib.hid hG
  have HAA := Lib.hid (And.intro hk (And.intro hk2 (And.intro hL (And.intro hkk hsw))))
  have c1 := cellR 1 HC.out.has.m0 rfl
  have e1 : wrap64 (L : Int) = (L : Int) := wrap_small _ (by omega) (by omega)
  have e2 : (L : Int) + 1 - 1 = (L : Int) := by omega
  have E1 := Lib.hid e1
  clear hY hG hW hnd q0 hSl hkk hsw hWW hk hk2 hL
  refine callsIn_of_wp Tryz.func192 rfl trivial ?_ rfl
  simp only [Tryz.ntmps192, List.size_toArray, List.length_cons, List.length_nil, Nat.reduceAdd, Nat.reduceSub, Array.replicate_succ, Array.replicate_zero, List.push_toArray, List.append_toArray, List.nil_append, List.cons_append]
  have qb : (W.alloc (.cells #[.int .i64 (L : Int)] 3)).heap[W.heap.size]? = some (.cells #[.int .i64 (L : Int)] 3 (0, 0)) := heap_alloc_new W _
  have hba : Below W.heap.size W (W.alloc (.cells #[.int .i64 (L : Int)] 3)) := (Below.refl _ _).alloc (Nat.le_refl _) _
  have HC2 : Hid (CapG Fr [(Bs, .cells #[.int .i64 (k : Int), .int .i64 ((L : Int) + 1), .int .i64 (ww : Int)] 142 (0, 0)), (W.heap.size, .cells #[.int .i64 (L : Int)] 3 (0, 0))] (W.alloc (.cells #[.int .i64 (L : Int)] 3))) := by
    intro p hp
    rcases List.mem_cons.1 hp with rfl | hp
    · exact HC.out.below (HG.out 0) h0 hba _ (by simp)
    · obtain rfl := List.mem_singleton.1 hp
      exact ⟨(HG.out 0).new _ _ W.heap.size h0 hba (Nat.le_refl _) ⟨_, qb, rfl⟩, qb⟩
  replace h0 := (HG.out 0).jgrow _ _ h0 hba
  have HQB := Lib.hid qb
  clear qb hba HC
  gi_wp2
  gi_loopw [3] (fun a' wr => ∃ (j level b : Nat), j + level = L ∧ a' = .pointer (some ⟨b, 0, none⟩) ∧ J (fst2 k j) wr ∧ Hid (CapG Fr [(Bs, .cells #[.int .i64 (k : Int), .int .i64 ((L : Int) + 1), .int .i64 (ww : Int)] 142 (0, 0)), (b, .cells #[.int .i64 (level : Int)] 3 (0, 0))] wr)) (fun a' wr => boxN a' wr)
  case atStart => exact ⟨0, L, W.heap.size, Nat.zero_add _, rfl, h0, HC2.out⟩
  case round =>
    clear c1 HC2 h0 HQB
    obtain ⟨j, level, b, hjl, rfl, hJ, HC⟩ := hrel
    have cb := cellR 0 HC.out.has.m1 rfl
    have HBX := Lib.hid (boxN_of HC.out.has.m1)
    by_cases hlt : 0 < level
    · have d1 : decide (0 < (level : Int)) = true := decide_eq_true (by omega)
      have d2 : decide ((level : Int) > 0) = true := d1
      have c0 := cellR 0 HC.out.has.m0 rfl
      have c1 := cellR 1 HC.out.has.m0 rfl
      have hsb : (L : Int) + 1 - (level : Int) = ((j + 1 : Nat) : Int) := by omega
      have HAB := Lib.hid hjl
      have E3 := Lib.hid (wrap_small ((L : Int) + 1 - (level : Int)) (by have := HAA.out; omega) (by have := HAA.out; omega))
      have HPW2 := Lib.hid (fun W => power_any k (j + 1) (by have := HAA.out; omega) (by have := HAA.out; omega) W)
      have e3 := E3.out
      have HSB := Lib.hid hsb
      rw [← hsb] at HPW2
      clear hsb hjl e1 e2
      gi_wp2
      refine ⟨trivial, fun h => (by cases h), callsIn_wide.2 ((HPW2.out _).mono ?_)⟩
      rintro e w9 ⟨rfl, rfl⟩
      clear HPW2 e3
      generalize hPP : k ^ (j + 1) = P at *
      have HPP := Lib.hid hPP
      have HP5 : Hid (P ≤ 256) := by show P ≤ 256; rw [← hPP]; exact HAA.out.2.2.2.1 _ (by have := HAB.out; omega)
      clear hPP
      gi_wp2
      gi_loopw [20] (fun a' wq => ∃ v : Nat, v ≤ P ∧ a' = .int .i64 (v : Int) ∧ J (fst2 k j + v) wq ∧ Hid (CapG Fr [(Bs, .cells #[.int .i64 (k : Int), .int .i64 ((L : Int) + 1), .int .i64 (ww : Int)] 142 (0, 0)), (b, .cells #[.int .i64 (level : Int)] 3 (0, 0))] wq)) (fun a' _ => P - (intOf a').toNat)
      case atStart => exact ⟨0, Nat.zero_le _, rfl, hJ, HC⟩
      case round =>
        clear c0 c1 cb HC hJ
        obtain ⟨v, hv, rfl, hJ, HC⟩ := hrel
        by_cases hvl : v < P
        · have d3 : decide ((v : Int) < (P : Int)) = true := decide_eq_true (by omega)
          have qv : (wr.alloc (.cells #[.int .i64 (v : Int)] 3)).heap[wr.heap.size]? = some (.cells #[.int .i64 (v : Int)] 3 (0, 0)) := heap_alloc_new wr _
          have hbv : Below wr.heap.size wr (wr.alloc (.cells #[.int .i64 (v : Int)] 3)) := (Below.refl _ _).alloc (Nat.le_refl _) _
          have hJ2 := (HG.out _).jgrow _ _ hJ hbv
          have HC2 := Lib.hid (HC.out.below (HG.out _) hJ hbv)
          have hFv := (HG.out _).new _ _ wr.heap.size hJ hbv (Nat.le_refl _) ⟨_, qv, rfl⟩
          have hgl : fst2 k j + v < (stdT k (L + 1)).length := by
            rw [HSL.out]
            have h2 := fst2_mono k (show j + 1 ≤ L by have := HAB.out; omega)
            have h3 : fst2 k (j + 1) = fst2 k j + P := by rw [← HPP.out]; rfl
            omega
          have hsf : SideFn w0 lo sw ((stdT k (L + 1))[fst2 k j + v]) (.func (.func 193) #[] #[.pointer (some ⟨Bs, 0, none⟩), .pointer (some ⟨b, 0, none⟩), .pointer (some ⟨wr.heap.size, 0, none⟩)]) [Bs, b, wr.heap.size] (wr.alloc (.cells #[.int .i64 (v : Int)] 3)) := by
            refine ⟨193, _, rfl, enters_of Tryz.func193 (by kernel_rfl) rfl, fun W2 _ hk3 x hx => ?_⟩
            have h9 := HAA.out
            obtain ⟨m, hm⟩ : ∃ m, level = m + 1 := ⟨level - 1, by omega⟩
            rw [show (stdT k (L + 1))[fst2 k j + v] = lvlT k (L + 1) j v from stdTn_at k (L + 1) (by rw [HPP.out]; exact hvl) L (by have := HAB.out; omega) hgl]
            have k1 := (hk3 b (by simp)).trans HC2.out.has.m1
            rw [show ((level : Nat) : Int) = (m : Int) + 1 by omega] at k1
            have := sideT_any k m v x ww ((L : Int) + 1) (by omega) (by omega) (by have := HAB.out; omega) HPW.out (by omega) Bs b wr.heap.size ((hk3 Bs (by simp)).trans HC2.out.has.m0) k1 ((hk3 _ (by simp)).trans qv)
            unfold lvlT
            rw [show L + 1 - 1 = L by omega, HWW.out, show L - j = m + 1 by have := HAB.out; omega, show m + 1 - 1 = m by omega]
            exact this
          obtain ⟨fn, tm, as_, bd, hy, hR⟩ := HY.out _ _ _ _ hgl hJ2 hsf (fun q hm => by
            simp only [List.mem_cons, List.not_mem_nil, or_false] at hm
            rcases hm with rfl | rfl | rfl
            · exact (HC2.out _ (List.mem_cons_self ..)).1
            · exact (HC2.out _ (List.mem_cons_of_mem _ (List.mem_singleton.2 rfl))).1
            · exact hFv)
          have HWI := Lib.hid (wrap_small ((v : Int) + 1) (by omega) (by have := HP5.out; omega))
          have HCS : Hid (((v : Int) + 1) = ((v + 1 : Nat) : Int)) := by show _ = _; rw [Int.natCast_add]; rfl
          have HME : Hid (P - (intOf (.int .i64 ((v : Int) + 1))).toNat < P - (intOf (.int .i64 (v : Int))).toNat) := by show _ < _; simp [intOf]; omega
          have HMO : Hid (P - (intOf (.int .i64 (wrap64 ((v : Int) + 1)))).toNat < P - (intOf (.int .i64 (v : Int))).toNat) := by show _ < _; rw [HWI.out]; exact HME.out
          have HK1 : Hid (v + 1 ≤ P) := hvl
          clear hsf hFv qv hbv hgl hJ HC hvl hv
          gi_wp2
          refine ⟨fun h => (by cases h), ?_⟩
          refine hR.mono ?_
          rintro e W2 ⟨rfl, h1, hk⟩
          have HC3 := Lib.hid (HC2.out.kx hk)
          clear hy hR hk HC2 hJ2
          gi_wp2
          go_roundw
          case rel => exact ⟨v + 1, HK1.out, by first | rw [HWI.out, HCS.out] | rw [HCS.out], h1, HC3⟩
          case measure => first | exact HMO.out | exact HME.out
        · obtain rfl : v = P := by omega
          have HJ3 : Hid (J (fst2 k (j + 1)) wr) := by show J (fst2 k j + k ^ (j + 1)) wr; rw [HPP.out]; exact hJ
          have cb := cellR 0 HC.out.has.m1 rfl
          have e5 : wrap64 ((level : Int) - 1) = (level : Int) - 1 := wrap_small _ (by omega) (by have := HAA.out; have := HAB.out; omega)
          gi_wp2
          obtain ⟨t, ht⟩ : ∃ t, level = t + 1 := ⟨level - 1, by omega⟩
          rw [show (level : Int) - 1 = (t : Int) by omega]
          have qz : (wr.alloc (.cells #[.int .i64 (t : Int)] 3)).heap[wr.heap.size]? = some (.cells #[.int .i64 (t : Int)] 3 (0, 0)) := heap_alloc_new wr _
          have hbz : Below wr.heap.size wr (wr.alloc (.cells #[.int .i64 (t : Int)] 3)) := (Below.refl _ _).alloc (Nat.le_refl _) _
          refine ⟨⟨j + 1, t, wr.heap.size, by have := HAB.out; omega, rfl, (HG.out _).jgrow _ _ HJ3.out hbz, ?_⟩, ?_⟩
          · show CapG Fr _ _
            intro p hp
            rcases List.mem_cons.1 hp with rfl | hp
            · exact HC.out.below (HG.out _) HJ3.out hbz _ (List.mem_cons_self ..)
            · obtain rfl := List.mem_singleton.1 hp
              exact ⟨(HG.out _).new _ _ wr.heap.size HJ3.out hbz (Nat.le_refl _) ⟨_, qz, rfl⟩, qz⟩
          · rw [HBX.out, boxN_of qz]; omega
    · obtain rfl : level = 0 := by omega
      obtain rfl : j = L := by omega
      rw [← HSL.out] at hJ
      gi_wp2
      go_end0
      exact ⟨⟨_, rfl⟩, hJ⟩
end Go.Proofs.YtbhkenphcahifaaGreat
namespace Go.Proofs.YtbhkenphcahifaaGreat
open Go.RowKit Go.Shelf
attribute [local go_sem] Oper.semAt_some
set_option maxRecDepth 100000
set_option maxHeartbeats 4000000
theorem m_sides1 (sa : Option Addr) (n sc : Nat) (m : Int) (w : World) : (method 330 138 (.agg #[.slice sa n sc, .int .i64 m]) "armada/net.sides").run Tryz.prog w = .ok (143, .agg #[.slice sa n sc, .int .i64 m]) w := by kernel_rfl
theorem m_sides2 (a b c : Int) (w : World) : (method 330 142 (.agg #[.int .i64 a, .int .i64 b, .int .i64 c]) "armada/net.sides").run Tryz.prog w = .ok (184, .agg #[.int .i64 a, .int .i64 b, .int .i64 c]) w := by kernel_rfl
theorem m_sides3 (a b c : Int) (w : World) : (method 330 146 (.agg #[.int .i64 a, .int .i64 b, .int .i64 c]) "armada/net.sides").run Tryz.prog w = .ok (198, .agg #[.int .i64 a, .int .i64 b, .int .i64 c]) w := by kernel_rfl
/-- a function that makes an iterator over sides -/
def FMake (g : Nat) (args : Array Value) (S : List (Nat → Bool)) (sw : Nat) (w0 W : World) : Prop :=
  Calls Tryz.prog g args W fun e w' => ∃ gf lb Nd, e = .returned (.func (.func gf) #[] lb) ∧ (∀ args w, (callFunc gf args).run Tryz.prog w = .ok (.enter gf args) w) ∧ (∀ b ∈ Nd, W.heap.size ≤ b ∧ ∃ o, w'.heap[b]? = some o ∧ o.isCells = true) ∧ (∀ n, SeqF n gf lb Nd w0.heap.size sw S w0 w') ∧ Below W.heap.size W w'
theorem sides_make1 {sa : Option Addr} {l : List Int} (hb : ∀ i, i < l.length → 2 ≤ l.getD i 0 ∧ l.getD i 0 ≤ 16) (hl4 : l.length ≤ 4) (hp : prodI l ≤ 256) (sc sw : Nat) (hsw : (sw : Int) = prodI l) {w0 W : World} (hI : Ints w0 sa l) (hw0 : Below w0.heap.size w0 W) :
    FMake 143 #[.agg #[.slice sa l.length sc, .int .i64 (prodI l)]] (stdK l) sw w0 W := by
  have q0 := heap_alloc_new W (.cells #[.slice sa l.length sc, .int .i64 (prodI l)] 138)
  have hbw : Below W.heap.size W (W.alloc (.cells #[.slice sa l.length sc, .int .i64 (prodI l)] 138)) := (Below.refl _ _).alloc (Nat.le_refl _) _
  have HR : Hid ((∀ b ∈ [W.heap.size], W.heap.size ≤ b ∧ ∃ o, (W.alloc (.cells #[.slice sa l.length sc, .int .i64 (prodI l)] 138)).heap[b]? = some o ∧ o.isCells = true) ∧ (∀ n, SeqF n 153 #[.pointer (some ⟨W.heap.size, 0, none⟩)] [W.heap.size] w0.heap.size sw (stdK l) w0 (W.alloc (.cells #[.slice sa l.length sc, .int .i64 (prodI l)] 138))) ∧ Below W.heap.size W (W.alloc (.cells #[.slice sa l.length sc, .int .i64 (prodI l)] 138))) :=
    ⟨fun b hm => by obtain rfl := List.mem_singleton.1 hm; exact ⟨Nat.le_refl _, _, q0, rfl⟩, fun n => sidesK hb hl4 hp sc sw hsw W.heap.size hI (hw0.trans (hbw.mono hw0.size)) q0 n, hbw⟩
  clear q0 hbw hI hw0 hb hl4 hp hsw
  unfold FMake
  generalize stdK l = S at *
  generalize prodI l = P at *
  generalize l.length = N at *
  go_enter Tryz.func143, Tryz.ntmps143
  go_wp2_with fail
  go_ret
  exact ⟨153, _, _, rfl, enters_of Tryz.func153 (by kernel_rfl) rfl, HR.out.1, HR.out.2.1, HR.out.2.2⟩
theorem sides_make2 (k L : Nat) (hk : 2 ≤ k) (hk2 : k ≤ 8) (hL : L ≤ 3) (hkk : ∀ a, a ≤ L → k ^ a ≤ 256) (sw : Nat) (hsw : sw ≤ 1000) (w0 W : World) :
    FMake 184 #[.agg #[.int .i64 (k : Int), .int .i64 ((L : Int) + 1), .int .i64 ((k ^ L : Nat) : Int)]] (stdT k (L + 1)) sw w0 W := by
  have q0 := heap_alloc_new W (.cells #[.int .i64 (k : Int), .int .i64 ((L : Int) + 1), .int .i64 ((k ^ L : Nat) : Int)] 142)
  have hbw : Below W.heap.size W (W.alloc (.cells #[.int .i64 (k : Int), .int .i64 ((L : Int) + 1), .int .i64 ((k ^ L : Nat) : Int)] 142)) := (Below.refl _ _).alloc (Nat.le_refl _) _
  have HR : Hid ((∀ b ∈ [W.heap.size], W.heap.size ≤ b ∧ ∃ o, (W.alloc (.cells #[.int .i64 (k : Int), .int .i64 ((L : Int) + 1), .int .i64 ((k ^ L : Nat) : Int)] 142)).heap[b]? = some o ∧ o.isCells = true) ∧ (∀ n, SeqF n 192 #[.pointer (some ⟨W.heap.size, 0, none⟩)] [W.heap.size] w0.heap.size sw (stdT k (L + 1)) w0 (W.alloc (.cells #[.int .i64 (k : Int), .int .i64 ((L : Int) + 1), .int .i64 ((k ^ L : Nat) : Int)] 142))) ∧ Below W.heap.size W (W.alloc (.cells #[.int .i64 (k : Int), .int .i64 ((L : Int) + 1), .int .i64 ((k ^ L : Nat) : Int)] 142))) :=
    ⟨fun b hm => by obtain rfl := List.mem_singleton.1 hm; exact ⟨Nat.le_refl _, _, q0, rfl⟩, fun n => sidesT k L hk hk2 hL hkk w0.heap.size sw hsw W.heap.size q0 n, hbw⟩
  clear q0 hbw hk hk2 hL hkk hsw
  unfold FMake
  generalize stdT k (L + 1) = S at *
  generalize k ^ L = ww at *
  go_enter Tryz.func184, Tryz.ntmps184
  go_wp2_with fail
  go_ret
  exact ⟨192, _, _, rfl, enters_of Tryz.func192 (by kernel_rfl) rfl, HR.out.1, HR.out.2.1, HR.out.2.2⟩
theorem sides_make3 (a G sw : Nat) (h : Int) (ha : 1 ≤ a) (ha2 : a ≤ 16) (hG1 : G ≤ 1000) (hsw : sw ≤ 1000) (w0 W : World) :
    FMake 198 #[.agg #[.int .i64 (a : Int), .int .i64 h, .int .i64 (G : Int)]] (stdD a G) sw w0 W := by
  have q0 := heap_alloc_new W (.cells #[.int .i64 (a : Int), .int .i64 h, .int .i64 (G : Int)] 146)
  have hbw : Below W.heap.size W (W.alloc (.cells #[.int .i64 (a : Int), .int .i64 h, .int .i64 (G : Int)] 146)) := (Below.refl _ _).alloc (Nat.le_refl _) _
  have HR : Hid ((∀ b ∈ [W.heap.size], W.heap.size ≤ b ∧ ∃ o, (W.alloc (.cells #[.int .i64 (a : Int), .int .i64 h, .int .i64 (G : Int)] 146)).heap[b]? = some o ∧ o.isCells = true) ∧ (∀ n, SeqF n 205 #[.pointer (some ⟨W.heap.size, 0, none⟩)] [W.heap.size] w0.heap.size sw (stdD a G) w0 (W.alloc (.cells #[.int .i64 (a : Int), .int .i64 h, .int .i64 (G : Int)] 146))) ∧ Below W.heap.size W (W.alloc (.cells #[.int .i64 (a : Int), .int .i64 h, .int .i64 (G : Int)] 146))) :=
    ⟨fun b hm => by obtain rfl := List.mem_singleton.1 hm; exact ⟨Nat.le_refl _, _, q0, rfl⟩, fun n => sidesD a G sw h ha ha2 hG1 hsw W.heap.size w0.heap.size q0 n, hbw⟩
  clear q0 hbw ha ha2 hG1 hsw
  unfold FMake
  generalize stdD a G = S at *
  go_enter Tryz.func198, Tryz.ntmps198
  go_wp2_with fail
  go_ret
  exact ⟨205, _, _, rfl, enters_of Tryz.func205 (by kernel_rfl) rfl, HR.out.1, HR.out.2.1, HR.out.2.2⟩
end Go.Proofs.YtbhkenphcahifaaGreat
namespace Go.Proofs.YtbhkenphcahifaaGreat
open Go.RowKit Go.Shelf
attribute [local go_sem] Oper.semAt_some
set_option maxRecDepth 100000
set_option maxHeartbeats 4000000
theorem Tryz.info49 : (Tryz.prog.info? 49).map (fun i => (i.zero, i.size, i.bytes)) = some (some (.slice none 0 0), 1, 24) := by kernel_rfl
/-- a list of rows of bools that grows in a variable of its own: the rows lie beside it -/
def OutB (n0 o sw : Nat) (S : List (Nat → Bool)) (W : World) : Prop := ∃ (v : Value) (bs : List Nat), Boxed W o 54 v ∧ W.ownsRow n0 49 1 v S.length (bs.map fun b => Value.slice (some ⟨b, 0, none⟩) sw sw) ∧ bs.length = S.length ∧ ∀ i, i < S.length → BAt W (bs.getD i 0) ((List.range sw).map (S.getD i fun _ => false)) ∧ Fq n0 o (bs.getD i 0) W
theorem OutB.lt {n0 o sw : Nat} {S : List (Nat → Bool)} {W : World} (h : OutB n0 o sw S W) : o < W.heap.size := by obtain ⟨v, bs, h1, _⟩ := h; exact h1.lt
theorem OutB.below {n0 o sw : Nat} {S : List (Nat → Bool)} {W W' : World} (h : OutB n0 o sw S W) (hb : Below W.heap.size W W') : OutB n0 o sw S W' := by
  have hlt := h.lt
  obtain ⟨v, bs, h1, h2, h3, h4⟩ := h
  exact ⟨v, bs, (hb.block o h1.lt).trans h1, ownsRow_bl h2 hb, h3, fun i hi => ⟨heapB hb (h4 i hi).1, (h4 i hi).2.grow hlt hb⟩⟩
theorem OutB.put {n0 o sw s b : Nat} {S : List (Nat → Bool)} {W : World} {o1 o' : Obj} (h : OutB n0 o sw S W) (ho : o < s) (hb : s ≤ b) (h1 : W.heap[b]? = some o1) (h2 : o1.isCells = false) : OutB n0 o sw S (W.putObj b o') := by
  obtain ⟨v, bs, k1, k2, k3, k4⟩ := h
  refine ⟨v, bs, (World.putObj_heap_other (by omega)).trans k1, ownsRow_putObj k2 o' h1 h2, k3, fun i hi => ⟨?_, (k4 i hi).2.put ho hb h1 h2⟩⟩
  have hne : bs.getD i 0 ≠ b := by
    intro e
    have h9 := (k4 i hi).1
    unfold BAt at h9
    rw [e, h1] at h9
    cases h9; cases h2
  exact (World.putObj_heap_other hne).trans (k4 i hi).1
theorem OutB.append {n0 o sw : Nat} {S : List (Nat → Bool)} {W : World} (h : OutB n0 o sw S W) (T : Nat → Bool) (b : Nat) (hT : BAt W b ((List.range sw).map T)) (hf : Fq n0 o b W) (hl : S.length ≤ 200000) (hn : n0 ≤ W.heap.size) (ho : n0 ≤ o) :
    ∃ v g cap wA, Boxed W o 54 v ∧ Boxed wA o 54 v ∧ (Builtin.append_ #[54, 54] 54 #[v, .slice (some ⟨W.heap.size, 0, none⟩) 1 1]).run Tryz.prog (W.alloc (.cells #[.slice (some ⟨b, 0, none⟩) sw sw] 49)) = .ok (.slice (some ⟨g, 0, none⟩) (S.length + 1) cap) wA ∧
      OutB n0 o sw (S ++ [T]) (wA.setCell ⟨o, 0, none⟩ (.slice (some ⟨g, 0, none⟩) (S.length + 1) cap)) ∧ KeepsOthers W (wA.setCell ⟨o, 0, none⟩ (.slice (some ⟨g, 0, none⟩) (S.length + 1) cap)) ∧ Kq n0 o W (wA.setCell ⟨o, 0, none⟩ (.slice (some ⟨g, 0, none⟩) (S.length + 1) cap)) := by
  obtain ⟨v, bs, h1, h2, h3, h4⟩ := h
  obtain ⟨i0, hi, hz0, hz1, hz2⟩ := info_parts Tryz.info49
  obtain ⟨g, cap, wA, hr, hown, hgrow, hat, hlt⟩ := run_append_lies (P := Tryz.prog) (W.alloc (.cells #[.slice (some ⟨b, 0, none⟩) sw sw] 49)) 54 54 n0 49 i0 (.slice none 0 0) 1 24 Tryz.underlying54 hi hz0 hz1 hz2 rfl (by decide) v S.length _ (h2.alloc _) ⟨W.heap.size, 0, none⟩ 1 1 [.slice (some ⟨b, 0, none⟩) sw sw] (by simp)
    (World.news_of_block (cs := #[.slice (some ⟨b, 0, none⟩) sw sw]) (heap_alloc_new W (.cells #[.slice (some ⟨b, 0, none⟩) sw sw] 49))) (by intro u hu; simp at hu; subst hu; rfl) (by decide) (by unfold maxLen; omega) (by omega) (by simp; omega) _ rfl
  obtain ⟨hv1, hv2, hr2, hk2, hb2⟩ := h1.appended (by decide) h2 hn ho hown hgrow
  have HK : Kq n0 o W (wA.setCell ⟨o, 0, none⟩ (.slice (some ⟨g, 0, none⟩) (S.length + 1) cap)) := by
    refine ⟨hb2, ?_⟩
    rintro b ⟨⟨ob, m1, m2⟩, m3, m4, m5⟩
    have hbl := (Array.getElem?_eq_some_iff.1 m1).1
    have hnb := m5 v h1.cell
    have e1 : (wA.setCell ⟨o, 0, none⟩ (.slice (some ⟨g, 0, none⟩) (S.length + 1) cap)).heap[b]? = W.heap[b]? := by
      rw [heap_setCell_other _ _ _ _ m4, hgrow.block b (by simp; omega) (fun e => hnb e.symm), Below.heap_alloc _ _ _ hbl]
    refine ⟨e1, ⟨ob, e1.trans m1, m2⟩, m3, m4, fun u hu => ?_⟩
    rw [hv2.cell] at hu
    cases hu
    intro e
    have hgb : g = b := by simpa [Value.ownBlock] using e
    rcases hat with hat | hat
    · exact hnb (by rw [hat, hgb])
    · simp at hat; omega
  refine ⟨v, g, cap, wA, h1, hv1, hr, ⟨_, bs ++ [b], hv2, by simpa using hr2, by simp [h3], fun i hi => ?_⟩, hk2, HK⟩
  have hcase : i < S.length ∨ i = S.length := by simp at hi; omega
  rcases hcase with hi | rfl
  · have e1 : (bs ++ [b]).getD i 0 = bs.getD i 0 := by simp [List.getD, List.getElem?_append_left (show i < bs.length by omega)]
    have e2 : (S ++ [T]).getD i (fun _ => false) = S.getD i fun _ => false := by simp [List.getD, List.getElem?_append_left hi]
    rw [e1, e2]
    have hk := HK.2 _ (h4 i hi).2
    exact ⟨hk.1.trans (h4 i hi).1, hk.2⟩
  · have e1 : (bs ++ [b]).getD S.length 0 = b := by rw [← h3]; simp [List.getD]
    have e2 : (S ++ [T]).getD S.length (fun _ => false) = T := by simp [List.getD]
    rw [e1, e2]
    have hk := HK.2 _ hf
    exact ⟨hk.1.trans hT, hk.2⟩
theorem OutB.priv {n0 o sw nb s : Nat} {S : List (Nat → Bool)} {w : World} {ob : Obj} (hn : n0 ≤ w.heap.size) (ho : o < s) (hnb : nb < s) (hno : n0 ≤ o) : PrivG s (fun W => OutB n0 o sw S W ∧ Below n0 w W ∧ W.heap[nb]? = some ob) (Fq n0 o) where
  cells := fun W b _ h => h.1
  new := by
    rintro W W2 b ⟨⟨v, bs, h1, h2, _⟩, hw, _⟩ hb hsz hc
    have hlt := h1.lt
    have hws := hw.size
    refine ⟨hc, by omega, by omega, fun u hu e => ?_⟩
    rw [hb.cell (p := ⟨o, 0, none⟩) hlt, h1.cell] at hu
    cases hu
    have := (h2.lt b e).2
    omega
  grow := fun W W2 b h hf hb => hf.grow h.1.lt hb
  jgrow := fun W W2 h hb => ⟨h.1.below hb, h.2.1.trans (hb.mono (by have := h.2.1.size; omega)), heapB hb h.2.2⟩
  jput := fun W b o1 o' h hs h1 h2 => ⟨h.1.put ho hs h1 h2, h.2.1.trans ((Below.refl n0 W).grown (grownBy_putObj' W b o') (by have := h.2.1.size; have := (Array.getElem?_eq_some_iff.1 h1).1; omega) (fun k e => by cases e; omega)), (World.putObj_heap_other (by omega)).trans h.2.2⟩
  fput := fun W b c o1 o' h hf hs h1 h2 => hf.put ho hs h1 h2
end Go.Proofs.YtbhkenphcahifaaGreat
namespace Go.Proofs.YtbhkenphcahifaaGreat
open Go.RowKit Go.Shelf
attribute [local go_sem] Oper.semAt_some
set_option maxRecDepth 100000
set_option maxHeartbeats 4000000
/-- a network with its sides -/
structure NetF (w0 : World) (ty fs fm : Nat) (rcv : Value) (sw : Nat) (ho : Int) (S : List (Nat → Bool)) : Prop where
  ms : ∀ W, (method 330 ty rcv "armada/net.size").run Tryz.prog W = .ok (fs, rcv) W
  mm : ∀ W, (method 330 ty rcv "armada/net.sides").run Tryz.prog W = .ok (fm, rcv) W
  es : ∀ args W, (callFunc fs args).run Tryz.prog W = .ok (.enter fs args) W
  em : ∀ args W, (callFunc fm args).run Tryz.prog W = .ok (.enter fm args) W
  sz : ∀ W, Below w0.heap.size w0 W → Calls Tryz.prog fs #[rcv] W fun e w' => e = .returned (.tuple #[.int .i64 (sw : Int), .int .i64 ho]) ∧ Below W.heap.size W w'
  mak : ∀ W, Below w0.heap.size w0 W → FMake fm #[rcv] S sw w0 W
/-- a row of bools that has been filled as far as m -/
def rowB (T : Nat → Bool) (sw m : Nat) : List Bool := (List.range m).map T ++ List.replicate (sw - m) false
theorem rowB_zero (T : Nat → Bool) (sw : Nat) : rowB T sw 0 = List.replicate sw false := by simp [rowB]
theorem rowB_full (T : Nat → Bool) (sw : Nat) : rowB T sw sw = (List.range sw).map T := by simp [rowB]
theorem rowB_len (T : Nat → Bool) (sw m : Nat) (h : m ≤ sw) : (rowB T sw m).length = sw := by simp [rowB]; omega
theorem rowB_set (T : Nat → Bool) (sw m : Nat) (h : m < sw) : (rowB T sw m).set m (T m) = rowB T sw (m + 1) := by
  apply List.ext_getElem (by simp [rowB]; omega)
  intro i h1 h2
  simp only [rowB, List.getElem_set, List.getElem_append, List.length_map, List.length_range, List.getElem_map, List.getElem_range, List.getElem_replicate]
  by_cases hi : m = i
  · subst hi; simp
  · by_cases hlt : i < m
    · simp [hi, hlt, show i < m + 1 by omega]
    · simp [hi, hlt, show ¬ i < m + 1 by omega]
theorem Sides_ok {w : World} {sa : Option Addr} {l : List Int} (h : Ints w sa l) (sc : Nat) (kind hosts : Int) (hv : vOk kind l hosts) {ty fs fm : Nat} {rcv : Value} {sw : Nat} {ho : Int} {S : List (Nat → Bool)} (hnv : netV kind sa sc l = .iface ty rcv) (hnf : NetF w ty fs fm rcv sw ho S) (hsl : sw ≤ 1000) (hSl : S.length ≤ 2000) :
    Calls Tryz.prog 24 #[.agg #[.int .i64 kind, .slice sa l.length sc, .int .i64 hosts]] w fun e w' => ∃ (v : Value) (bs : List Nat), e = .returned (.tuple #[v, .int .i64 0]) ∧ w'.ownsRow w.heap.size 49 1 v S.length (bs.map fun b => Value.slice (some ⟨b, 0, none⟩) sw sw) ∧ bs.length = S.length ∧ (∀ i, i < S.length → BAt w' (bs.getD i 0) ((List.range sw).map (S.getD i fun _ => false))) ∧ Below w.heap.size w w' := by
  have HO : Hid (∀ W, Below w.heap.size w W → Calls Tryz.prog 47 #[.agg #[.int .i64 kind, .slice sa l.length sc, .int .i64 hosts]] W fun e w' => e = .returned (.tuple #[.iface ty rcv, .int .i64 0]) ∧ Below W.heap.size W w') := fun W hb => by
    refine (networkOf_any (h.keep hb) sc kind hosts).mono ?_
    rintro e w' ⟨h1, ⟨_, rfl⟩ | ⟨h2, _⟩⟩
    · exact ⟨by rw [hnv], h1⟩
    · exact absurd hv h2
  have HB := Lib.hid ((Below.refl w.heap.size w).alloc (Nat.le_refl _) (.cells #[.int .i64 kind, .slice sa l.length sc, .int .i64 hosts] 24))
  have q0 := heap_alloc_new w (.cells #[.int .i64 kind, .slice sa l.length sc, .int .i64 hosts] 24)
  have c0 := cellR 0 q0 rfl
  have c1 := cellR 1 q0 rfl
  have c2 := cellR 2 q0 rfl
  have HNF := Lib.hid hnf
  have HSL := Lib.hid hsl
  have HSS := Lib.hid hSl
  have hes := hnf.es
  have hms := hnf.ms
  clear h q0 hv hnv hnf hsl hSl
  generalize l.length = N at *
  refine (callsIn_wide (n := 4)).1 ?_
  refine callsIn_of_wp_marks Tryz.func24 rfl trivial ?_ rfl
  simp only [Tryz.ntmps24, List.size_toArray, List.length_cons, List.length_nil, Nat.reduceAdd, Nat.reduceSub, Array.replicate_succ, Array.replicate_zero, List.push_toArray, List.append_toArray, List.nil_append, List.cons_append]
  gi_wp2
  clear c0 c1 c2
  refine ⟨trivial, callsIn_wide.2 ((HO.out _ HB.out).mono ?_)⟩
  rintro e w1 ⟨rfl, hb1⟩
  have HB1 := Lib.hid (HB.out.trans (hb1.mono HB.out.size))
  clear HO hb1
  gi_wp2
  refine ⟨trivial, callsIn_wide.2 ((HNF.out.sz w1 HB1.out).mono ?_)⟩
  rintro e w2 ⟨rfl, hb2⟩
  have HB2 : Hid (Below w.heap.size w w2) := HB1.out.trans (hb2.mono HB1.out.size)
  obtain ⟨hb3, qn, qo, hz⟩ := twoN w2 (.cells #[.int .i64 (sw : Int)] 3) (.cells #[.slice none 0 0] 54)
  clear HB1 hb2 hes hms HB
  have hem := HNF.out.em
  have hmm := HNF.out.mm
  gi_wp2
  have HB3 : Hid (Below w.heap.size w ((w2.alloc (.cells #[.int .i64 (sw : Int)] 3)).alloc (.cells #[.slice none 0 0] 54))) := HB2.out.trans (hb3.mono HB2.out.size)
  have HO0 : Hid (OutB w.heap.size (w2.heap.size + 1) sw [] ((w2.alloc (.cells #[.int .i64 (sw : Int)] 3)).alloc (.cells #[.slice none 0 0] 54))) := ⟨_, [], qo, ⟨rfl, .inl ⟨rfl, rfl⟩⟩, rfl, fun i hi => by simp at hi⟩
  have HQN := Lib.hid qn
  have HZ := Lib.hid hz
  have HSZ : Hid (w.heap.size ≤ w2.heap.size) := HB2.out.size
  have HMK := Lib.hid (HNF.out.mak _ HB3.out)
  clear hb3 qn qo hz HB2 HNF
  generalize (w2.alloc (.cells #[.int .i64 (sw : Int)] 3)).alloc (.cells #[.slice none 0 0] 54) = Y at *
  refine ⟨trivial, callsIn_wide.2 (HMK.out.mono ?_)⟩
  rintro e w3 ⟨gf, lb, Nd, rfl, heg, hNd, hSq, hb4⟩
  have HO3 : Hid (OutB w.heap.size (w2.heap.size + 1) sw (S.take 0) w3) := by show OutB _ _ _ _ _; rw [List.take_zero]; exact HO0.out.below hb4
  have HB4 : Hid (Below w.heap.size w w3) := HB3.out.trans (hb4.mono HB3.out.size)
  have HQ3 := Lib.hid (heapB hb4 HQN.out)
  have HND : Hid (∀ b ∈ Nd, Fq w.heap.size (w2.heap.size + 1) b w3) := fun b hb => by
    obtain ⟨h1, h2⟩ := hNd b hb
    have h3 := HZ.out
    have h4 := HSZ.out
    refine ⟨h2, by omega, by omega, fun v hv => ?_⟩
    obtain ⟨v2, bs, k1, k2, _⟩ := HO0.out
    rw [hb4.cell (p := ⟨w2.heap.size + 1, 0, none⟩) (by show w2.heap.size + 1 < _; omega), k1.cell] at hv
    cases hv
    intro e
    have := (k2.lt b e).2
    omega
  have HSQ := Lib.hid hSq
  have HZ4 : Hid (w2.heap.size + 2 ≤ w3.heap.size) := by have h5 := hb4.size; show _ ≤ _; rw [← HZ.out]; exact h5
  clear hNd hSq hb4 HMK HB3 HO0 HQN HZ hem hmm
  gi_wp2
  refine range_f (S := S) (Nd := Nd) (lo := w.heap.size) (w0 := w) (sw := sw) (Fr := Fq w.heap.size (w2.heap.size + 1)) (by omega) rfl heg (HSQ.out _) HND.out HB4.out.size rfl (fun i W => OutB w.heap.size (w2.heap.size + 1) sw (S.take i) W ∧ Below w.heap.size w W ∧ W.heap[w2.heap.size]? = some (.cells #[.int .i64 (sw : Int)] 3 (0, 0))) (fun i => OutB.priv (Nat.le_refl _) (by have := HZ4.out; omega) (by have := HZ4.out; omega) (by have := HSZ.out; omega)) ⟨HO3.out, HB4.out, HQ3.out⟩ (fun x => ⟨#[Value.agg #[Value.int IntKind.i64 kind, Value.slice sa N sc, Value.int IntKind.i64 hosts], Value.pointer (some (Addr.mk w.heap.size 0 none)), Value.slice none 0 0, Value.int IntKind.i64 0, Value.iface ty rcv, Value.int IntKind.i64 0, Value.pointer (some (Addr.mk w2.heap.size 0 none)), Value.int IntKind.i64 ho, Value.pointer (some (Addr.mk (w2.heap.size + 1) 0 none)), x, undef, undef, Value.tuple #[Value.iface ty rcv, Value.int IntKind.i64 0], Value.agg #[Value.int IntKind.i64 kind, Value.slice sa N sc, Value.int IntKind.i64 hosts], Value.tuple #[Value.iface ty rcv, Value.int IntKind.i64 0], Value.iface ty rcv, Value.int IntKind.i64 0, Value.int IntKind.i64 0, Value.bool false, undef, Value.tuple #[Value.int IntKind.i64 ↑sw, Value.int IntKind.i64 ho], Value.iface ty rcv, Value.tuple #[Value.int IntKind.i64 ↑sw, Value.int IntKind.i64 ho], Value.int IntKind.i64 ↑sw, Value.int IntKind.i64 ho, Value.iface ty rcv, Value.func (Fn.func gf) #[] lb, x, undef, undef, undef, undef, undef, undef, undef, undef, undef, undef, undef, undef, undef, undef, undef, undef, undef, undef, undef], []⟩) ?assign ?body ?done
  case assign =>
    intro q x W K hK
    gi_wp2
    exact hK
  case body =>
    rintro q i x Ks W hi ⟨i1, i2, i3⟩ hsf hks
    obtain ⟨f, caps, rfl, hef, hcf⟩ := hsf.ex
    have c6 := cellR 0 i3 rfl
    have HI := Lib.hid (And.intro i1 (And.intro i2 i3))
    have HMB := Lib.hid (make_bools sw (by have := HSL.out; omega) W)
    have hmb := HMB.out
    have HKS := Lib.hid hks
    have HCF := Lib.hid hcf
    have HIL := Lib.hid hi
    have HA : Hid (Below W.heap.size W (W.alloc (.cells (boolA (List.replicate sw false)) 4)) ∧ BAt (W.alloc (.cells (boolA (List.replicate sw false)) 4)) W.heap.size (rowB S[i] sw 0)) := ⟨(Below.refl _ _).alloc (Nat.le_refl _) _, by rw [rowB_zero]; exact heap_alloc_new W _⟩
    clear hsf hks hcf i1 i2 i3 HMB HSQ HND HO3 HB4 HQ3
    gi_wp2
    clear hmb c6
    gi_loopw [32] (fun a' wr => ∃ m : Nat, m ≤ sw ∧ a' = .int .i64 (m : Int) ∧ Hid (Below W.heap.size W wr ∧ BAt wr W.heap.size (rowB S[i] sw m))) (fun a' _ => sw - (intOf a').toNat)
    case atStart => exact ⟨0, Nat.zero_le _, rfl, HA.out⟩
    case round =>
      clear HA
      obtain ⟨m, hm, rfl, HC⟩ := hrel
      by_cases hlt : m < sw
      · have d1 : decide ((m : Int) < (sw : Int)) = true := decide_eq_true (by omega)
        have HCL : Hid (Calls Tryz.prog f (#[.int .i64 (m : Int)] ++ caps) wr fun e w' => e = .returned (.bool (S[i] m)) ∧ Below wr.heap.size wr w') := HCF.out wr (HI.out.2.1.trans (HC.out.1.mono HI.out.2.1.size)) (fun b hb => HC.out.1.block b (by obtain ⟨⟨ob, h1, _⟩, _⟩ := HKS.out b hb; exact (Array.getElem?_eq_some_iff.1 h1).1)) m hlt
        have HWI := Lib.hid (wrap_small ((m : Int) + 1) (by omega) (by have := HSL.out; omega))
        have HCS : Hid (((m : Int) + 1) = ((m + 1 : Nat) : Int)) := by show _ = _; rw [Int.natCast_add]; rfl
        have HME : Hid (sw - (intOf (.int .i64 ((m : Int) + 1))).toNat < sw - (intOf (.int .i64 (m : Int))).toNat) := by show _ < _; simp [intOf]; omega
        have HMO : Hid (sw - (intOf (.int .i64 (wrap64 ((m : Int) + 1)))).toNat < sw - (intOf (.int .i64 (m : Int))).toNat) := by show _ < _; rw [HWI.out]; exact HME.out
        have HK1 : Hid (m + 1 ≤ sw) := hlt
        have HST : Hid ((rowB S[i] sw m).set m (S[i] m) = rowB S[i] sw (m + 1)) := rowB_set _ _ _ hlt
        clear hm
        generalize S[i] m = bv at *
        gi_wp2
        refine ⟨trivial, CallsIn.inRound _ (callsIn_wide.2 (HCL.out.mono ?_))⟩
        rintro e w9 ⟨rfl, hb9⟩
        have hB9 : BAt w9 W.heap.size (rowB S[i] sw m) := heapB hb9 HC.out.2
        have HC9 : Hid (Below W.heap.size W (w9.setCell ⟨W.heap.size, m, none⟩ (.bool bv)) ∧ BAt (w9.setCell ⟨W.heap.size, m, none⟩ (.bool bv)) W.heap.size (rowB S[i] sw (m + 1))) := ⟨(HC.out.1.trans (hb9.mono HC.out.1.size)).setCell (p := ⟨W.heap.size, m, none⟩) (Nat.le_refl _) _, by rw [← HST.out]; exact hB9.set m bv⟩
        have ca := hB9.cell m (by rw [rowB_len _ _ _ (by omega)]; omega)
        have fa := hB9.open_ m
        have la := hB9.lt
        clear hB9 hb9 HC HCL
        gi_wp2
        go_roundw
        case rel => exact ⟨m + 1, HK1.out, by first | rw [HWI.out, HCS.out] | rw [HCS.out], HC9⟩
        case measure => first | exact HMO.out | exact HME.out
      · obtain rfl : m = sw := by omega
        have HBA : Hid (BAt wr W.heap.size ((List.range m).map S[i])) := by have h9 := HC.out.2; rw [rowB_full] at h9; exact h9
        have hno : ∀ (b : Nat), (∀ t fr cs, W.heap[b]? = some (.cells cs t fr) → t ≠ 49) → ∀ v, W.cell? ⟨w2.heap.size + 1, 0, none⟩ = some v → v.ownBlock ≠ some b := fun b hb9 v hv => by
          obtain ⟨v2, bs, k1, k2, _⟩ := HI.out.1
          rw [k1.cell] at hv
          cases hv
          rcases k2.2 with ⟨rfl, _⟩ | ⟨g, cap, cur, rfl, _, hgb, _⟩
          · simp [Value.ownBlock]
          · intro e
            obtain rfl : g = b := by simpa [Value.ownBlock] using e
            exact hb9 _ _ _ hgb rfl
        have hlo : w2.heap.size + 1 < W.heap.size := HI.out.1.lt
        have hFn : Fq w.heap.size (w2.heap.size + 1) w2.heap.size W := ⟨⟨_, HI.out.2.2, rfl⟩, HSZ.out, by omega, hno _ (fun t fr cs h9 => by rw [HI.out.2.2] at h9; cases h9; decide)⟩
        have hFr : Fq w.heap.size (w2.heap.size + 1) W.heap.size wr := by
          refine ⟨⟨_, HBA.out, rfl⟩, HI.out.2.1.size, by omega, fun v hv => hno _ (fun t fr cs h9 => ?_) v ?_⟩
          · have := (Array.getElem?_eq_some_iff.1 h9).1; omega
          · rw [← hv]; exact (HC.out.1.cell (p := ⟨w2.heap.size + 1, 0, none⟩) hlo).symm
        obtain ⟨v, g, cap, wA, hv, hvA, hrun, hO4, hk4, hq4⟩ := (HI.out.1.below HC.out.1).append S[i] W.heap.size HBA.out hFr (by have := HSS.out; simp; omega) (by have := HI.out.2.1.size; have := HC.out.1.size; omega) (by have := HSZ.out; omega)
        have hTk : S.take i ++ [S[i]] = S.take (i + 1) := (List.take_succ_eq_append_getElem hi).symm
        have hTl : (S.take i).length = i := by rw [List.length_take]; omega
        rw [hTk] at hO4
        rw [hTl] at hO4 hrun hk4 hq4
        have HEND : Hid (KeepsFrom w3.heap.size W _ ∧ Kx w.heap.size (Fq w.heap.size (w2.heap.size + 1)) W _ ∧ OutB w.heap.size (w2.heap.size + 1) m (S.take (i + 1)) _ ∧ Below w.heap.size w _ ∧ _) := ⟨KeepsFrom.trans ⟨HC.out.1.size, fun k o _ hk _ => (HC.out.1.block k (Array.getElem?_eq_some_iff.1 hk).1).trans hk⟩ (hk4.from _), ⟨(HC.out.1.mono HI.out.2.1.size).trans hq4.1, fun b hb => ⟨(hq4.2 b (hb.grow hlo HC.out.1)).1.trans (HC.out.1.block b (by obtain ⟨⟨ob, h1, _⟩, _⟩ := hb; exact (Array.getElem?_eq_some_iff.1 h1).1)), (hq4.2 b (hb.grow hlo HC.out.1)).2⟩⟩, hO4, (HI.out.2.1.trans (HC.out.1.mono HI.out.2.1.size)).trans hq4.1, ((hq4.2 _ (hFn.grow hlo HC.out.1)).1.trans (heapB HC.out.1 HI.out.2.2))⟩
        have cv := hv.cell
        have cA := hvA.cell
        have fA := hvA.frozen
        have lA := hvA.lt
        clear hTk hTl hno hlo hFn hFr hO4 hk4 hq4 hv hvA
        gi_wp2_with (gi_at_builtin; refine wpListIn_append_run rfl _ _ 54 rfl rfl rfl hrun ?_)
        exact HEND.out
  case done =>
    rintro D W hD ⟨⟨v, bs, h1, h2, h3, h4⟩, hB3, _⟩ hK
    have cv := h1.cell
    rw [List.take_length] at h2 h3 h4
    gi_wp2
    refine ⟨by simp, .inl ⟨_, _, rfl, run_takeDeferred hK, ?_⟩⟩
    have hsD := HB4.out.size
    refine ⟨.tuple #[v, .int .i64 0], ?_, v, bs, rfl, ownsRow_putObj h2 _ hK rfl, h3, fun i hi => ?_, hB3.trans ⟨rfl, rfl, rfl, by simp [World.putObj], fun k hk => World.putObj_heap_other (by omega)⟩⟩
    · simp [results, Tryz.results24, go_sem]
    · have hne : bs.getD i 0 ≠ D := by
        intro e
        have h9 := (h4 i hi).1
        unfold BAt at h9
        rw [e, hK] at h9
        cases h9
      exact (World.putObj_heap_other hne).trans (h4 i hi).1
end Go.Proofs.YtbhkenphcahifaaGreat
namespace Go.Proofs.YtbhkenphcahifaaGreat
open Go.RowKit Go.Shelf
set_option maxRecDepth 100000
set_option maxHeartbeats 4000000
/-- rows of bools that lie in memory, behind a slice of slices -/
structure RB (b0 z sw : Nat) (o0 : Obj) (w : World) (v : Value) (S : List (Nat → Bool)) (W : World) : Prop where
  q0 : W.heap[b0]? = some o0
  bl : Below b0 w W
  sz : z ≤ W.heap.size
  g0 : b0 = w.heap.size ∧ b0 < z
  ex : ∃ bs : List Nat, W.ownsRow z 49 1 v S.length (bs.map fun b => Value.slice (some ⟨b, 0, none⟩) sw sw) ∧ bs.length = S.length ∧ ∀ i, i < S.length → BAt W (bs.getD i 0) ((List.range sw).map (S.getD i fun _ => false))
theorem RB.keep {b0 z sw : Nat} {o0 : Obj} {w W W' : World} {v : Value} {S : List (Nat → Bool)} (h : RB b0 z sw o0 w v S W) (hb : Below W.heap.size W W') : RB b0 z sw o0 w v S W' := by
  have h1 := h.sz
  obtain ⟨e0, e1⟩ := h.g0
  obtain ⟨bs, k1, k2, k3⟩ := h.ex
  exact ⟨heapB hb h.q0, h.bl.trans (hb.mono (by omega)), Nat.le_trans h1 hb.size, h.g0, bs, ownsRow_bl k1 hb, k2, fun i hi => heapB hb (k3 i hi)⟩
theorem RB.nil {b0 z sw : Nat} {o0 : Obj} {w W : World} (q0 : W.heap[b0]? = some o0) (bl : Below b0 w W) (sz : z ≤ W.heap.size) (g0 : b0 = w.heap.size ∧ b0 < z) : RB b0 z sw o0 w (.slice none 0 0) [] W :=
  ⟨q0, bl, sz, g0, [], World.ownsRow_nil _ _ _ _, rfl, fun i hi => by simp at hi⟩
/-- one more row -/
theorem RB.app {b0 z sw : Nat} {o0 : Obj} {w W : World} {v : Value} {S : List (Nat → Bool)} (h : RB b0 z sw o0 w v S W) (T : Nat → Bool) (b : Nat) (hT : BAt W b ((List.range sw).map T)) (hl : S.length ≤ 200000) :
    ∃ v' w2, (Builtin.append_ #[54, 54] 54 #[v, .slice (some ⟨W.heap.size, 0, none⟩) 1 1]).run Tryz.prog (W.alloc (.cells #[.slice (some ⟨b, 0, none⟩) sw sw] 49)) = .ok v' w2 ∧ RB b0 z sw o0 w v' (S ++ [T]) w2 := by
  have hz := h.sz
  obtain ⟨e0, e1⟩ := h.g0
  obtain ⟨bs, h2, h3, h4⟩ := h.ex
  obtain ⟨i0, hi, hz0, hz1, hz2⟩ := info_parts Tryz.info49
  obtain ⟨g, cap, wA, hr, hown, hgrow, hat, hlt⟩ := run_append_lies (P := Tryz.prog) (W.alloc (.cells #[.slice (some ⟨b, 0, none⟩) sw sw] 49)) 54 54 z 49 i0 (.slice none 0 0) 1 24 Tryz.underlying54 hi hz0 hz1 hz2 rfl (by decide) v S.length _ (h2.alloc _) ⟨W.heap.size, 0, none⟩ 1 1 [.slice (some ⟨b, 0, none⟩) sw sw] (by simp)
    (World.news_of_block (cs := #[.slice (some ⟨b, 0, none⟩) sw sw]) (heap_alloc_new W (.cells #[.slice (some ⟨b, 0, none⟩) sw sw] 49))) (by intro u hu; simp at hu; subst hu; rfl) (by decide) (by unfold maxLen; omega) (by omega) (by simp; omega) _ rfl
  have hob : ∀ k, v.ownBlock = some k → ∃ cur, W.heap[k]? = some (.cells cur 49 (0, 0)) ∧ z ≤ k := by
    intro k hk
    rcases h2.2 with ⟨rfl, _⟩ | ⟨q, cap2, cur, rfl, hq, hr2, _⟩
    · simp [Value.ownBlock] at hk
    · have : q = k := by simpa [Value.ownBlock] using hk
      subst this
      exact ⟨cur, hr2, hq⟩
  have hbl : ∀ (k : Nat) (o : Obj), W.heap[k]? = some o → (∀ cur, o ≠ Obj.cells cur 49 (0, 0)) → wA.heap[k]? = some o := by
    intro k o hk ho
    have hlt := (Array.getElem?_eq_some_iff.1 hk).1
    refine (hgrow.block k (by simp; omega) (fun e => ?_)).trans ((Below.heap_alloc _ _ _ hlt).trans hk)
    obtain ⟨cur, hc, _⟩ := hob k e.symm
    rw [hc] at hk
    exact ho cur (Option.some.inj hk).symm
  have hlow : Below z W wA := ((Below.refl z W).alloc hz _).trans ⟨hgrow.os, hgrow.tape, hgrow.output, hgrow.size, fun k hk => hgrow.block k (by simp; omega) (fun e => by obtain ⟨_, _, hq⟩ := hob k e.symm; omega)⟩
  refine ⟨_, wA, hr, (hlow.block b0 e1).trans h.q0, h.bl.trans (hlow.mono (by omega)), Nat.le_trans hz hlow.size, h.g0, bs ++ [b], by simpa using hown, by simp [h3], fun i hi => ?_⟩
  have hcase : i < S.length ∨ i = S.length := by simp at hi; omega
  rcases hcase with hi | rfl
  · have e1 : (bs ++ [b]).getD i 0 = bs.getD i 0 := by simp [List.getD, List.getElem?_append_left (show i < bs.length by omega)]
    have e2 : (S ++ [T]).getD i (fun _ => false) = S.getD i fun _ => false := by simp [List.getD, List.getElem?_append_left hi]
    rw [e1, e2]
    exact hbl _ _ (h4 i hi) (fun cur e => by cases e)
  · have e1 : (bs ++ [b]).getD S.length 0 = b := by rw [← h3]; simp [List.getD]
    have e2 : (S ++ [T]).getD S.length (fun _ => false) = T := by simp [List.getD]
    rw [e1, e2]
    exact hbl _ _ hT (fun cur e => by cases e)
/-- rows that are read -/
structure RowsB (W : World) (v : Value) (sw : Nat) (S : List (Nat → Bool)) : Prop where
  ex : ∃ (a : Option Addr) (cap : Nat) (bs : List Nat), v = .slice a S.length cap ∧ (S ≠ [] → ∃ g, a = some ⟨g, 0, none⟩ ∧ ∀ i, i < S.length → W.cell? ⟨g, i, none⟩ = some (.slice (some ⟨bs.getD i 0, 0, none⟩) sw sw)) ∧ ∀ i, i < S.length → BAt W (bs.getD i 0) ((List.range sw).map (S.getD i fun _ => false))
theorem RowsB.keep {W W' : World} {v : Value} {sw : Nat} {S : List (Nat → Bool)} (h : RowsB W v sw S) (hb : Below W.heap.size W W') : RowsB W' v sw S := by
  obtain ⟨a, cap, bs, rfl, h1, h2⟩ := h.ex
  refine ⟨a, cap, bs, rfl, fun hs => ?_, fun i hi => heapB hb (h2 i hi)⟩
  obtain ⟨g, rfl, hc⟩ := h1 hs
  exact ⟨g, rfl, fun i hi => kcell hb (hc i hi)⟩
theorem rowsB_of {W : World} {z sw : Nat} {v : Value} {S : List (Nat → Bool)} {bs : List Nat} (h : W.ownsRow z 49 1 v S.length (bs.map fun b => Value.slice (some ⟨b, 0, none⟩) sw sw)) (hl : bs.length = S.length) (hb : ∀ i, i < S.length → BAt W (bs.getD i 0) ((List.range sw).map (S.getD i fun _ => false))) : RowsB W v sw S := by
  refine ⟨?_⟩
  have hc := fun {g} e => h.cells (g := g) e
  rcases h.2 with ⟨rfl, hn⟩ | ⟨g, cap, cur, rfl, _⟩
  · exact ⟨none, 0, bs, by rw [hn], fun hs => absurd (List.length_eq_zero_iff.1 hn) hs, hb⟩
  · refine ⟨_, cap, bs, rfl, fun _ => ⟨g, rfl, fun i hi => ?_⟩, hb⟩
    have := hc rfl i (.slice (some ⟨bs.getD i 0, 0, none⟩) sw sw) (by simp [List.getElem?_map, List.getD, show i < bs.length by omega])
    rw [show (⟨g, i, none⟩ : Addr) = (⟨g, 0, none⟩ : Addr).add i by simp only [Addr.add]; split <;> simp_all]
    exact this
theorem rowsB_nil (W : World) (sw : Nat) : RowsB W (.slice none 0 0) sw [] := ⟨none, 0, [], rfl, fun h => absurd rfl h, fun i hi => by simp at hi⟩
end Go.Proofs.YtbhkenphcahifaaGreat
namespace Go.Proofs.YtbhkenphcahifaaGreat
set_option maxRecDepth 100000
/-- in how many of the first coordinates two switches differ; is the last difference that of neighbors -/
def difK (a b : List Int) : Nat → Int
  | 0 => 0
  | k + 1 => if a.getD k 0 = b.getD k 0 then difK a b k else difK a b k + 1
def neaK (l a b : List Int) : Nat → Bool
  | 0 => true
  | k + 1 => if a.getD k 0 = b.getD k 0 then neaK l a b k else (max (a.getD k 0 - b.getD k 0) (b.getD k 0 - a.getD k 0) == 1 || max (a.getD k 0 - b.getD k 0) (b.getD k 0 - a.getD k 0) == l.getD k 0 - 1)
theorem dif_bound (a b : List Int) : ∀ k, 0 ≤ difK a b k ∧ difK a b k ≤ (k : Int)
  | 0 => by simp [difK]
  | k + 1 => by have := dif_bound a b k; rw [difK]; split <;> omega
theorem dif_zero {a b : List Int} : ∀ k, difK a b k = 0 ↔ ∀ j, j < k → a.getD j 0 = b.getD j 0
  | 0 => by simp [difK]
  | k + 1 => by
    rw [difK]
    have hb := dif_bound a b k
    by_cases h : a.getD k 0 = b.getD k 0
    · rw [if_pos h, dif_zero k]
      exact ⟨fun h1 j hj => by
        by_cases e : j = k
        · subst e; exact h
        · exact h1 j (by omega), fun h1 j hj => h1 j (by omega)⟩
    · rw [if_neg h]
      exact ⟨fun h1 => by omega, fun h1 => absurd (h1 k (by omega)) h⟩
theorem dif_one {l a b : List Int} : ∀ k, (difK a b k = 1 ∧ neaK l a b k = true) ↔ ∃ i, i < k ∧ a.getD i 0 ≠ b.getD i 0 ∧ (max (a.getD i 0 - b.getD i 0) (b.getD i 0 - a.getD i 0) = 1 ∨ max (a.getD i 0 - b.getD i 0) (b.getD i 0 - a.getD i 0) = l.getD i 0 - 1) ∧ ∀ j, j < k → j ≠ i → a.getD j 0 = b.getD j 0
  | 0 => by simp [difK]
  | k + 1 => by
    rw [difK, neaK]
    have hb := dif_bound a b k
    by_cases h : a.getD k 0 = b.getD k 0
    · rw [if_pos h, if_pos h, dif_one k]
      constructor
      · rintro ⟨i, i1, i2, i3, i4⟩
        exact ⟨i, by omega, i2, i3, fun j hj hji => by
          by_cases e : j = k
          · subst e; exact h
          · exact i4 j (by omega) hji⟩
      · rintro ⟨i, i1, i2, i3, i4⟩
        have hik : i ≠ k := by rintro rfl; exact i2 h
        exact ⟨i, by omega, i2, i3, fun j hj hji => i4 j (by omega) hji⟩
    · rw [if_neg h, if_neg h]
      constructor
      · rintro ⟨h1, h2⟩
        have h0 := (dif_zero k).1 (show difK a b k = 0 by omega)
        refine ⟨k, by omega, h, by simpa using h2, fun j hj hjk => h0 j (by omega)⟩
      · rintro ⟨i, i1, i2, i3, i4⟩
        have hik : i = k := by
          by_cases e : i = k
          · exact e
          · exact absurd (i4 k (by omega) (fun q => e q.symm)) h
        subst hik
        have h0 := (dif_zero (a := a) (b := b) i).2 (fun j hj => i4 j (by omega) (by omega))
        exact ⟨by omega, by simpa using i3⟩
end Go.Proofs.YtbhkenphcahifaaGreat
namespace Go.Proofs.YtbhkenphcahifaaGreat
open Go.RowKit Go.Shelf
attribute [local go_sem] Oper.semAt_some
set_option maxRecDepth 100000
set_option maxHeartbeats 4000000
theorem info34 : (Tryz.prog.info? 34).map (·.size) = some 3 := by kernel_rfl
/-- no switch is linked with itself -/
theorem rLinked_same {w : World} {sa : Option Addr} (N sc : Nat) (kind hosts x : Int) :
    Calls Tryz.prog 96 #[.agg #[.int .i64 kind, .slice sa N sc, .int .i64 hosts], .int .i64 x, .int .i64 x] w fun e w' => e = .returned (.bool false) ∧ Below w.heap.size w w' := by
  have HB := Lib.hid ((Below.refl w.heap.size w).alloc (Nat.le_refl _) (.cells #[.int .i64 kind, .slice sa N sc, .int .i64 hosts] 34))
  have hxx : (x == x) = true := by simp
  go_enter Tryz.func96, Tryz.ntmps96
  go_wp2_with fail
  go_ret
  exact ⟨rfl, HB.out⟩
/-- are two switches of a torus linked -/
theorem rLinked1_any {w : World} {sa : Option Addr} {l : List Int} (h : Ints w sa l) (hl : l.length ≤ 4) (hp : ∀ s ∈ l, 1 ≤ s ∧ s ≤ 64) (sc : Nat) (hosts x y : Int) (hx : 0 ≤ x) (hx2 : x ≤ 1000) (hy : 0 ≤ y) (hy2 : y ≤ 1000) (hne : x ≠ y) (hcx : ∀ i, i < l.length → 0 ≤ (coordsL l x).getD i 0 ∧ (coordsL l x).getD i 0 ≤ 1000) (hcy : ∀ i, i < l.length → 0 ≤ (coordsL l y).getD i 0 ∧ (coordsL l y).getD i 0 ≤ 1000) :
    Calls Tryz.prog 96 #[.agg #[.int .i64 1, .slice sa l.length sc, .int .i64 hosts], .int .i64 x, .int .i64 y] w fun e w' => e = .returned (.bool (difK (coordsL l x) (coordsL l y) l.length == 1 && neaK l (coordsL l x) (coordsL l y) l.length)) ∧ Below w.heap.size w w' := by
  have HB := Lib.hid ((Below.refl w.heap.size w).alloc (Nat.le_refl _) (.cells #[.int .i64 1, .slice sa l.length sc, .int .i64 hosts] 34))
  have Q0 := Lib.hid (heap_alloc_new w (.cells #[.int .i64 1, .slice sa l.length sc, .int .i64 hosts] 34))
  have c0 := cellR 0 Q0.out rfl
  have hxy : (x == y) = false := by simpa using hne
  have HC := Lib.hid (fun (W : World) (hb : Below w.heap.size w W) (z : Int) (h0 : 0 ≤ z) (h1 : z ≤ 1000) => rCoords_any (h.keep hb) hp sc 1 hosts z h0 h1)
  have HI := Lib.hid h
  have HCX := Lib.hid hcx
  have HCY := Lib.hid hcy
  have HPP := Lib.hid hp
  obtain ⟨N, hN⟩ : ∃ N, N = l.length := ⟨_, rfl⟩
  have HN := Lib.hid hN
  rw [← hN] at HB Q0 c0 HC ⊢
  have hN4 : N ≤ 4 := by omega
  clear h hN hp hl hne hcx hcy
  go_enter Tryz.func96, Tryz.ntmps96
  go_wp2_with fail
  generalize w.alloc (.cells #[.int .i64 1, .slice sa N sc, .int .i64 hosts] 34) = X at *
  clear c0 hxy
  refine (wpIn_wide (n := 0)).1 ?_
  refine region_det (by kernel_rfl) (I := fun listed a' w' => ∃ g1 g2 : Nat, Hid (Below X.heap.size X w') ∧ Hid (listed.getD 2 false = true → RowAt w' g1 (coordsL l x)) ∧ Hid (listed.getD 5 false = true → RowAt w' g2 (coordsL l y)) ∧ Hid (listed.getD 6 false = true → listed.getD 2 false = true) ∧ Hid (listed.getD 7 false = true → listed.getD 5 false = true) ∧ a' = ⟨#[Value.agg #[Value.int IntKind.i64 1, Value.slice sa N sc, Value.int IntKind.i64 hosts], Value.int IntKind.i64 x, Value.int IntKind.i64 y, Value.pointer (some (Addr.mk w.heap.size 0 none)), undef, undef, Value.bool false, (if listed.getD 6 false = true then Value.slice (some ⟨g1, 0, none⟩) N N else undef), (if listed.getD 7 false = true then Value.slice (some ⟨g2, 0, none⟩) N N else undef), undef, undef, undef, undef, undef, undef, undef, undef, undef, undef, undef, Value.int IntKind.i64 x, Value.int IntKind.i64 y, Value.bool false, Value.pointer (some (Addr.mk w.heap.size 0 none)), Value.int IntKind.i64 1, Value.bool true, Value.bool true, (if listed.getD 0 false = true then Value.agg #[.int .i64 1, .slice sa N sc, .int .i64 hosts] else undef), (if listed.getD 1 false = true then Value.int IntKind.i64 (x) else undef), (if listed.getD 2 false = true then Value.slice (some ⟨g1, 0, none⟩) N N else undef), (if listed.getD 3 false = true then Value.agg #[.int .i64 1, .slice sa N sc, .int .i64 hosts] else undef), (if listed.getD 4 false = true then Value.int IntKind.i64 (y) else undef), (if listed.getD 5 false = true then Value.slice (some ⟨g2, 0, none⟩) N N else undef), undef, undef, undef, undef, undef, undef, undef, undef, undef, undef, undef, undef, undef, undef, undef, undef, undef, undef, undef, undef, undef, undef, undef, undef, undef, undef, undef, undef, undef, undef, undef, undef, undef, undef, undef, undef, undef, undef, undef, undef, undef, undef, undef, undef, undef, undef, undef, undef, undef, undef, undef, undef, undef, undef, undef, undef, undef, undef, undef, undef, undef, undef, undef, undef, undef, undef, undef, undef, undef, undef, undef, undef, undef, undef, undef, undef, undef, undef, undef, undef, undef, undef, undef, undef, undef, undef, undef, undef, undef, undef, undef, undef, undef, undef, undef, undef, undef, undef, undef, undef, undef, undef, undef, undef, undef, undef, undef, undef, undef, undef, undef, undef, undef, undef, undef, undef, undef, undef, undef, undef, undef, undef, undef, undef, undef, undef, undef, undef, undef, undef, undef, undef, undef, undef, undef, undef, undef], []⟩) (hup_check (by kernel_rfl)) ?h0 ?step ?fin
  case h0 => exact ⟨0, 0, (Below.refl _ _).drew, (fun h => by simp at h), (fun h => by simp at h), (fun h => by simp at h), (fun h => by simp at h), rfl⟩
  case step =>
    intro listed a' w' i hs hbi hdep hi ⟨g1, g2, IB, I1, I2, J6, J7, ha⟩
    obtain ⟨ls⟩ := listed
    match ls, hs with
    | [x0, x1, x2, x3, x4, x5, x6, x7], _ =>
    subst ha
    have hi' : i = 0 ∨ i = 1 ∨ i = 2 ∨ i = 3 ∨ i = 4 ∨ i = 5 ∨ i = 6 ∨ i = 7 := by simp at hi; omega
    rcases hi' with rfl | rfl | rfl | rfl | rfl | rfl | rfl | rfl
    · obtain rfl : x0 = false := by simpa using hbi
      refine wpOpIn_load_row rfl rfl 34 _ rfl w.heap.size rfl 34 _ _ _ (heapB IB.out Q0.out) Tryz.underlying34 rfl info34 ?_
      exact ⟨g1, g2, IB, I1, I2, J6, J7, rfl⟩
    · obtain rfl : x1 = false := by simpa using hbi
      refine wpOpIn_plain rfl rfl rfl ?_
      exact ⟨g1, g2, IB, I1, I2, J6, J7, rfl⟩
    · obtain rfl : x2 = false := by simpa using hbi
      obtain rfl : x0 = true := hdep _ rfl ⟨0, .data⟩ (by simp) rfl
      obtain rfl : x1 = true := hdep _ rfl ⟨1, .data⟩ (by simp) rfl
      obtain rfl : x6 = false := Bool.eq_false_iff.2 fun h => by have := J6.out h; cases this
      refine wpOpIn_call (args := #[Value.agg #[.int .i64 1, .slice sa N sc, .int .i64 hosts], Value.int IntKind.i64 (x)]) rfl rfl (sem_call2 rfl rfl rfl (enters_of Tryz.func62 (by kernel_rfl) rfl)) (HC.out w' (HB.out.trans (IB.out.mono HB.out.size)) x hx hx2) ?_
      rintro e V ⟨ga, rfl, hga, hra, hb⟩
      exact ⟨_, rfl, ga, g2, (IB.out.trans (hb.mono IB.out.size)), (fun _ => hra), (fun h => (I2.out h).keep hb), (fun _ => rfl), J7, rfl⟩
    · obtain rfl : x3 = false := by simpa using hbi
      refine wpOpIn_load_row rfl rfl 34 _ rfl w.heap.size rfl 34 _ _ _ (heapB IB.out Q0.out) Tryz.underlying34 rfl info34 ?_
      exact ⟨g1, g2, IB, I1, I2, J6, J7, rfl⟩
    · obtain rfl : x4 = false := by simpa using hbi
      refine wpOpIn_plain rfl rfl rfl ?_
      exact ⟨g1, g2, IB, I1, I2, J6, J7, rfl⟩
    · obtain rfl : x5 = false := by simpa using hbi
      obtain rfl : x3 = true := hdep _ rfl ⟨3, .data⟩ (by simp) rfl
      obtain rfl : x4 = true := hdep _ rfl ⟨4, .data⟩ (by simp) rfl
      obtain rfl : x7 = false := Bool.eq_false_iff.2 fun h => by have := J7.out h; cases this
      refine wpOpIn_call (args := #[Value.agg #[.int .i64 1, .slice sa N sc, .int .i64 hosts], Value.int IntKind.i64 (y)]) rfl rfl (sem_call2 rfl rfl rfl (enters_of Tryz.func62 (by kernel_rfl) rfl)) (HC.out w' (HB.out.trans (IB.out.mono HB.out.size)) y hy hy2) ?_
      rintro e V ⟨ga, rfl, hga, hra, hb⟩
      exact ⟨_, rfl, g1, ga, (IB.out.trans (hb.mono IB.out.size)), (fun h => (I1.out h).keep hb), (fun _ => hra), J6, (fun _ => rfl), rfl⟩
    · obtain rfl : x6 = false := by simpa using hbi
      obtain rfl : x2 = true := hdep _ rfl ⟨2, .data⟩ (by simp) rfl
      refine wpOpIn_plain rfl rfl rfl ?_
      exact ⟨g1, g2, IB, I1, I2, (fun _ => rfl), J7, rfl⟩
    · obtain rfl : x7 = false := by simpa using hbi
      obtain rfl : x5 = true := hdep _ rfl ⟨5, .data⟩ (by simp) rfl
      refine wpOpIn_plain rfl rfl rfl ?_
      exact ⟨g1, g2, IB, I1, I2, J6, (fun _ => rfl), rfl⟩
  case fin =>
  intro listed a' w5 hs hall ⟨g1, g2, IB, I1, I2, J6, J7, ha⟩
  obtain ⟨ls⟩ := listed
  match ls, hs with
  | [x0, x1, x2, x3, x4, x5, x6, x7], _ =>
  obtain rfl : x0 = true := hall 0 (by simp)
  obtain rfl : x1 = true := hall 1 (by simp)
  obtain rfl : x2 = true := hall 2 (by simp)
  obtain rfl : x3 = true := hall 3 (by simp)
  obtain rfl : x4 = true := hall 4 (by simp)
  obtain rfl : x5 = true := hall 5 (by simp)
  obtain rfl : x6 = true := hall 6 (by simp)
  obtain rfl : x7 = true := hall 7 (by simp)
  subst ha
  have HR1 := I1.out rfl
  have HR2 := I2.out rfl
  have HBX := Lib.hid (IB.out)
  have HRS := Lib.hid (And.intro HR1 HR2)
  clear IB I1 I2 J6 J7 hs hall HR1 HR2 HC
  go_wp2_with fail
  have HLC : Hid ((coordsL l x).length = N ∧ (coordsL l y).length = N) := by rw [HN.out]; exact ⟨cfold_len _ _ _, cfold_len _ _ _⟩
  have HQ5 : Hid (Below w.heap.size w w5 ∧ w5.heap[w.heap.size]? = some (.cells #[.int .i64 1, .slice sa N sc, .int .i64 hosts] 34 (0, 0)) ∧ RowAt w5 g1 (coordsL l x) ∧ RowAt w5 g2 (coordsL l y)) := ⟨HB.out.trans (HBX.out.mono HB.out.size), heapB HBX.out Q0.out, HRS.out.1, HRS.out.2⟩
  clear HB Q0 HBX HRS
  go_loopw [9, 10, 11] (fun nv bv iv wr => ∃ k : Nat, k ≤ N ∧ iv = .int .i64 (k : Int) ∧ nv = .int .i64 (difK (coordsL l x) (coordsL l y) k) ∧ bv = .bool (neaK l (coordsL l x) (coordsL l y) k) ∧ Hid (Below w.heap.size w wr ∧ wr.heap[w.heap.size]? = some (.cells #[.int .i64 1, .slice sa N sc, .int .i64 hosts] 34 (0, 0)) ∧ RowAt wr g1 (coordsL l x) ∧ RowAt wr g2 (coordsL l y))) (fun _ _ iv _ => N - (intOf iv).toNat)
  case atStart => exact ⟨0, Nat.zero_le _, rfl, rfl, rfl, HQ5⟩
  case round =>
    clear HQ5
    obtain ⟨k, hk, rfl, rfl, rfl, HR⟩ := hrel
    obtain ⟨r1, r2, r3, r4⟩ := HR.out
    have hdb := dif_bound (coordsL l x) (coordsL l y) k
    by_cases hlt : k < N
    · have hkl : k < l.length := by rw [← HN.out]; exact hlt
      have cx := r3.cell k (by rw [HLC.out.1]; exact hlt)
      have cy := r4.cell k (by rw [HLC.out.2]; exact hlt)
      rw [show (coordsL l x)[k]'(by rw [HLC.out.1]; exact hlt) = (coordsL l x).getD k 0 by simp [List.getD, HLC.out.1, hlt]] at cx
      rw [show (coordsL l y)[k]'(by rw [HLC.out.2]; exact hlt) = (coordsL l y).getD k 0 by simp [List.getD, HLC.out.2, hlt]] at cy
      have HS1 : Hid (difK (coordsL l x) (coordsL l y) (k + 1) = if (coordsL l x).getD k 0 = (coordsL l y).getD k 0 then difK (coordsL l x) (coordsL l y) k else difK (coordsL l x) (coordsL l y) k + 1) := rfl
      have HS2 : Hid (neaK l (coordsL l x) (coordsL l y) (k + 1) = if (coordsL l x).getD k 0 = (coordsL l y).getD k 0 then neaK l (coordsL l x) (coordsL l y) k else (max ((coordsL l x).getD k 0 - (coordsL l y).getD k 0) ((coordsL l y).getD k 0 - (coordsL l x).getD k 0) == 1 || max ((coordsL l x).getD k 0 - (coordsL l y).getD k 0) ((coordsL l y).getD k 0 - (coordsL l x).getD k 0) == l.getD k 0 - 1)) := rfl
      obtain ⟨bx0, bx1⟩ := HCX.out k hkl
      obtain ⟨by0, by1⟩ := HCY.out k hkl
      obtain ⟨gs, os, rfl, hcs⟩ := HI.out.at_ (ne_nil_of_lt hkl)
      have cs := (r1.cell (p := ⟨gs, os + k, none⟩) (block_lt_of_cell (hcs k hkl))).trans (hcs k hkl)
      rw [show l[k] = l.getD k 0 by simp [List.getD, hkl]] at cs
      have hsd : 1 ≤ l.getD k 0 ∧ l.getD k 0 ≤ 64 := HPP.out (l.getD k 0) (by simp [List.getD, hkl])
      obtain ⟨sd0, sd1⟩ := hsd
      obtain ⟨db0, db1⟩ := hdb
      generalize difK (coordsL l x) (coordsL l y) k = dk at *
      generalize neaK l (coordsL l x) (coordsL l y) k = nk at *
      generalize (coordsL l x).getD k 0 = ax at *
      generalize (coordsL l y).getD k 0 = ay at *
      generalize l.getD k 0 = al at *
      clear hcs hkl r1 r3 r4
      go_wp2_with fail
      go_quiet (fail)
      have HR9 : Hid (Below w.heap.size w (wr.drewN nq) ∧ (wr.drewN nq).heap[w.heap.size]? = some (.cells #[.int .i64 1, .slice (some ⟨gs, os, none⟩) N sc, .int .i64 hosts] 34 (0, 0)) ∧ RowAt (wr.drewN nq) g1 (coordsL l x) ∧ RowAt (wr.drewN nq) g2 (coordsL l y)) := ⟨below_drewN HR.out.1 _, HR.out.2.1, HR.out.2.2.1, HR.out.2.2.2⟩
      have cx9 : (wr.drewN nq).cell? ⟨g1, k, none⟩ = some (.int .i64 ax) := cx
      have cy9 : (wr.drewN nq).cell? ⟨g2, k, none⟩ = some (.int .i64 ay) := cy
      have cs9 : (wr.drewN nq).cell? ⟨gs, os + k, none⟩ = some (.int .i64 al) := cs
      clear HR cx cy cs r2
      generalize wr.drewN nq = W9 at *
      by_cases he : ax = ay
      · subst he
        rw [if_pos rfl] at HS1 HS2
        have e1 : (ax == ax) = true := by simp
        go_wp2_with fail
        go_roundw
        case rel => exact ⟨k + 1, by omega, by go_num, by rw [HS1.out], by rw [HS2.out], HR9⟩
        case measure => simp [intOf]; omega
      · rw [if_neg he] at HS1 HS2
        have e1 : (ax == ay) = false := by simpa using he
        go_wp2_with fail
        go_quiet (fail)
        have HRa : Hid (Below w.heap.size w (W9.drewN nq) ∧ (W9.drewN nq).heap[w.heap.size]? = some (.cells #[.int .i64 1, .slice (some ⟨gs, os, none⟩) N sc, .int .i64 hosts] 34 (0, 0)) ∧ RowAt (W9.drewN nq) g1 (coordsL l x) ∧ RowAt (W9.drewN nq) g2 (coordsL l y)) := ⟨below_drewN HR9.out.1 _, HR9.out.2.1, HR9.out.2.2.1, HR9.out.2.2.2⟩
        clear HR9 cx9 cy9
        have cs2 : (W9.drewN nq).cell? ⟨gs, os + k, none⟩ = some (.int .i64 al) := cs9
        clear cs9
        obtain ⟨mx, hmx⟩ : ∃ mx, mx = max (ax - ay) (ay - ax) := ⟨_, rfl⟩
        rw [← hmx] at HS2
        first | rw [show (if ax - ay < ay - ax then ay - ax else ax - ay) = mx by rw [hmx]; split <;> omega] | rw [← hmx]
        have cS := cellR 1 HRa.out.2.1 rfl
        clear hmx
        generalize W9.drewN nq = Wb at *
        by_cases hm : mx = 1
        · have e2 : (mx == 1) = true := by simpa using hm
          go_wp2_with fail
          go_roundw
          case rel => exact ⟨k + 1, by omega, by go_num, by rw [HS1.out], by rw [HS2.out, e2]; rfl, HRa⟩
          case measure => simp [intOf]; omega
        · have e2 : (mx == 1) = false := by simpa using hm
          go_wp2_with fail
          go_roundw
          case rel => exact ⟨k + 1, by omega, by go_num, by rw [HS1.out], by rw [HS2.out, e2]; rfl, HRa⟩
          case measure => simp [intOf]; omega
    · have hkN : k = N := by omega
      subst hkN
      have HBF := Lib.hid r1
      clear r1 r2 r3 r4 HR
      generalize hdk : difK (coordsL l x) (coordsL l y) k = dk at *
      generalize hnk : neaK l (coordsL l x) (coordsL l y) k = nk at *
      have HDK := Lib.hid hdk
      have HNK := Lib.hid hnk
      clear hdk hnk
      by_cases hd : dk = 1
      · have e2 : (dk == 1) = true := by simpa using hd
        go_wp2_with fail
        go_ret
        exact ⟨by rw [HDK.out, HNK.out, e2]; rfl, HBF.out⟩
      · have e2 : (dk == 1) = false := by simpa using hd
        go_wp2_with fail
        go_ret
        exact ⟨by rw [HDK.out, HNK.out, e2]; rfl, HBF.out⟩
end Go.Proofs.YtbhkenphcahifaaGreat
namespace Go.Proofs.YtbhkenphcahifaaGreat
open Go.RowKit Go.Shelf
attribute [local go_sem] Oper.semAt_some
set_option maxRecDepth 100000
set_option maxHeartbeats 4000000
theorem sem_max {P : Program} {o : Oper} {a : Act} {w : World} {x y : Operand} {vx vy v : Value} (hop : o.op = .call { callee := .builtin .max, args := #[x, y], argTypes := #[3, 3] }) (hx : a.eval x = vx) (hy : a.eval y = vy)
    (h : (Builtin.max_ #[3, 3] o.type #[vx, vy]).run P w = .ok v w) : (o.semAt none a.eval).run P w = .ok (.value v) w := by
  simp [Oper.semAt, hop, execOp, resolve, invoke, builtin, hx, hy, h, Result.andThen]
theorem sem_min {P : Program} {o : Oper} {a : Act} {w : World} {x y : Operand} {vx vy v : Value} (hop : o.op = .call { callee := .builtin .min, args := #[x, y], argTypes := #[3, 3] }) (hx : a.eval x = vx) (hy : a.eval y = vy)
    (h : (Builtin.min_ #[3, 3] o.type #[vx, vy]).run P w = .ok v w) : (o.semAt none a.eval).run P w = .ok (.value v) w := by
  simp [Oper.semAt, hop, execOp, resolve, invoke, builtin, hx, hy, h, Result.andThen]
theorem run_max (x y : Int) (w : World) : (Builtin.max_ #[3, 3] 3 #[.int .i64 x, .int .i64 y]).run Tryz.prog w = .ok (.int .i64 (if x < y then y else x)) w := by
  simp [Builtin.max_, Builtin.max2, go_sem]
theorem run_min (x y : Int) (w : World) : (Builtin.min_ #[3, 3] 3 #[.int .i64 x, .int .i64 y]).run Tryz.prog w = .ok (.int .i64 (if y < x then y else x)) w := by
  simp [Builtin.min_, Builtin.min2, go_sem]
/-- are two switches of a tree linked -/
theorem rLinked2_any {w : World} {g o : Nat} (k lv : Nat) (hk : 1 ≤ k) (hk2 : k ≤ 16) (hlv : 1 ≤ lv) (hlv2 : lv ≤ 5) (ht : Two w g o k lv) (sc : Nat) (hosts x y : Int) (hx : 0 ≤ x) (hx2 : x ≤ 1000) (hy : 0 ≤ y) (hy2 : y ≤ 1000) (hne : x ≠ y) {ww L0 M0 V W0 : Int} (hww : wordsI [(k : Int), (lv : Int)] = ww) (hw1 : 1 ≤ ww)
    (hL : min x y / ww = L0) (hM : max x y / ww = M0) (hV : min x y % ww = V) (hW : max x y % ww = W0) (hL5 : L0 ≤ 5) (hM5 : M0 ≤ 5) :
    Calls Tryz.prog 96 #[.agg #[.int .i64 2, .slice (some ⟨g, o, none⟩) 2 sc, .int .i64 hosts], .int .i64 x, .int .i64 y] w fun e w' => e = .returned (.bool (M0 == L0 + 1 && wthI k L0.toNat V 0 == wthI k L0.toNat W0 0)) ∧ Below w.heap.size w w' := by
  have HB := Lib.hid ((Below.refl w.heap.size w).alloc (Nat.le_refl _) (.cells #[.int .i64 2, .slice (some ⟨g, o, none⟩) 2 sc, .int .i64 hosts] 34))
  have Q0 := Lib.hid (heap_alloc_new w (.cells #[.int .i64 2, .slice (some ⟨g, o, none⟩) 2 sc, .int .i64 hosts] 34))
  have c0 := cellR 0 Q0.out rfl
  have hxy : (x == y) = false := by simpa using hne
  have HWD : Hid (∀ W, Below w.heap.size w W → Calls Tryz.prog 95 #[.agg #[.int .i64 2, .slice (some ⟨g, o, none⟩) 2 sc, .int .i64 hosts]] W fun e w' => e = .returned (.int .i64 ww) ∧ Below W.heap.size W w') := fun W hb => by
    have := rWords_any k lv hk2 hlv hlv2 (ht.keep hb) sc 2 hosts
    rwa [hww] at this
  obtain ⟨mn, hmn⟩ : ∃ mn, mn = min x y := ⟨_, rfl⟩
  obtain ⟨mx, hmx⟩ : ∃ mx, mx = max x y := ⟨_, rfl⟩
  rw [← hmn] at hL hV
  rw [← hmx] at hM hW
  have hn0 : 0 ≤ mn := by omega
  have hn1 : mn ≤ 1000 := by omega
  have hm0 : 0 ≤ mx := by omega
  have hm1 : mx ≤ 1000 := by omega
  have L00 : 0 ≤ L0 := by rw [← hL]; exact Int.ediv_nonneg hn0 (by omega)
  have V0 : 0 ≤ V := by rw [← hV]; exact Int.emod_nonneg _ (by omega)
  have V1 : V ≤ 1000 := by rw [← hV]; have := Int.emod_lt_of_pos mn (show 0 < ww by omega); have := Int.emod_nonneg mn (show ww ≠ 0 by omega); have h9 := Int.mul_ediv_add_emod mn ww; have h8 := Int.mul_nonneg (show 0 ≤ ww by omega) (Int.ediv_nonneg hn0 (show 0 ≤ ww by omega)); omega
  have W00 : 0 ≤ W0 := by rw [← hW]; exact Int.emod_nonneg _ (by omega)
  have W01 : W0 ≤ 1000 := by rw [← hW]; have h9 := Int.mul_ediv_add_emod mx ww; have h8 := Int.mul_nonneg (show 0 ≤ ww by omega) (Int.ediv_nonneg hm0 (show 0 ≤ ww by omega)); omega
  have HMN : Hid (∀ W, (Builtin.min_ #[3, 3] 3 #[.int .i64 x, .int .i64 y]).run Tryz.prog W = .ok (.int .i64 mn) W) := fun W => by rw [run_min, hmn]; congr 2; split <;> omega
  have HMX : Hid (∀ W, (Builtin.max_ #[3, 3] 3 #[.int .i64 x, .int .i64 y]).run Tryz.prog W = .ok (.int .i64 mx) W) := fun W => by rw [run_max, hmx]; congr 2; split <;> omega
  have EQ1 := Lib.hid (fun W => i64_quo mn ww hn0 (by omega) hw1 W)
  have EQ2 := Lib.hid (fun W => i64_quo mx ww hm0 (by omega) hw1 W)
  have ER1 := Lib.hid (fun W => i64_rem mn ww hn0 hw1 W)
  have ER2 := Lib.hid (fun W => i64_rem mx ww hm0 hw1 W)
  rw [hL] at EQ1
  rw [hM] at EQ2
  rw [hV] at ER1
  rw [hW] at ER2
  obtain ⟨l0, rfl⟩ := Int.eq_ofNat_of_zero_le L00
  have HWI : Hid (∀ W, Below w.heap.size w W → ∀ v : Int, 0 ≤ v → v ≤ 1000 → Calls Tryz.prog 118 #[.agg #[.int .i64 2, .slice (some ⟨g, o, none⟩) 2 sc, .int .i64 hosts], .int .i64 v, .int .i64 (l0 : Int), .int .i64 0] W fun e w' => e = .returned (.int .i64 (wthI k l0 v 0)) ∧ Below W.heap.size W w') := fun W hb v v0 v1 => rWith_any k l0 lv hk hk2 (by omega) (ht.keep hb) sc 2 hosts v 0 v0 v1 (by decide) (by decide)
  have HES := Lib.hid (fun W => i64_add (l0 : Int) 1 (by omega) (by omega) W)
  rw [Int.toNat_natCast]
  clear hmn hmx hL hM hV hW hne ht hww
  go_enter Tryz.func96, Tryz.ntmps96
  go_wp2_with fail
  generalize w.alloc (.cells #[.int .i64 2, .slice (some ⟨g, o, none⟩) 2 sc, .int .i64 hosts] 34) = X at *
  clear c0 hxy
  refine (wpIn_wide (n := 0)).1 ?_
  refine region_det (by kernel_rfl) (I := fun listed a' w' => Hid (Below X.heap.size X w') ∧ a' = ⟨#[Value.agg #[Value.int IntKind.i64 2, Value.slice (some (Addr.mk g o none)) 2 sc, Value.int IntKind.i64 hosts], Value.int IntKind.i64 x, Value.int IntKind.i64 y, Value.pointer (some (Addr.mk w.heap.size 0 none)), undef, undef, Value.bool false, undef, undef, undef, undef, undef, undef, (if listed.getD 12 false = true then Value.int IntKind.i64 ((l0 : Int)) else undef), (if listed.getD 13 false = true then Value.int IntKind.i64 (M0) else undef), undef, undef, undef, undef, undef, Value.int IntKind.i64 x, Value.int IntKind.i64 y, Value.bool false, Value.pointer (some (Addr.mk w.heap.size 0 none)), Value.int IntKind.i64 2, Value.bool false, Value.bool false, undef, undef, undef, undef, undef, undef, undef, undef, undef, undef, undef, undef, undef, undef, undef, undef, undef, undef, undef, undef, undef, undef, undef, undef, undef, undef, undef, undef, undef, undef, undef, undef, undef, undef, undef, undef, undef, undef, undef, undef, undef, undef, undef, undef, undef, undef, undef, undef, undef, undef, undef, undef, undef, undef, undef, undef, undef, undef, undef, Value.bool true, Value.bool true, (if listed.getD 0 false = true then Value.int IntKind.i64 (x) else undef), (if listed.getD 1 false = true then Value.int IntKind.i64 (y) else undef), (if listed.getD 2 false = true then Value.int IntKind.i64 (mn) else undef), (if listed.getD 3 false = true then Value.agg #[.int .i64 2, .slice (some ⟨g, o, none⟩) 2 sc, .int .i64 hosts] else undef), (if listed.getD 4 false = true then Value.int IntKind.i64 (ww) else undef), (if listed.getD 5 false = true then Value.int IntKind.i64 ((l0 : Int)) else undef), (if listed.getD 6 false = true then Value.int IntKind.i64 (x) else undef), (if listed.getD 7 false = true then Value.int IntKind.i64 (y) else undef), (if listed.getD 8 false = true then Value.int IntKind.i64 (mx) else undef), (if listed.getD 9 false = true then Value.agg #[.int .i64 2, .slice (some ⟨g, o, none⟩) 2 sc, .int .i64 hosts] else undef), (if listed.getD 10 false = true then Value.int IntKind.i64 (ww) else undef), (if listed.getD 11 false = true then Value.int IntKind.i64 (M0) else undef), undef, undef, undef, undef, undef, undef, undef, undef, undef, undef, undef, undef, undef, undef, undef, undef, undef, undef, undef, undef, undef, undef, undef, undef, undef, undef, undef, undef, undef, undef, undef, undef, undef, undef, undef, undef, undef, undef, undef, undef, undef, undef, undef, undef, undef, undef, undef, undef, undef, undef, undef, undef, undef, undef, undef, undef, undef, undef, undef, undef, undef, undef, undef, undef, undef, undef, undef, undef, undef, undef], []⟩) (hup_check (by kernel_rfl)) ?h0 ?step ?fin
  case h0 => exact ⟨(Below.refl _ _).drew, rfl⟩
  case step =>
    intro listed a' w' i hs hbi hdep hi ⟨IB, ha⟩
    obtain ⟨ls⟩ := listed
    match ls, hs with
    | [x0, x1, x2, x3, x4, x5, x6, x7, x8, x9, x10, x11, x12, x13], _ =>
    subst ha
    have hi' : i = 0 ∨ i = 1 ∨ i = 2 ∨ i = 3 ∨ i = 4 ∨ i = 5 ∨ i = 6 ∨ i = 7 ∨ i = 8 ∨ i = 9 ∨ i = 10 ∨ i = 11 ∨ i = 12 ∨ i = 13 := by simp at hi; omega
    rcases hi' with rfl | rfl | rfl | rfl | rfl | rfl | rfl | rfl | rfl | rfl | rfl | rfl | rfl | rfl
    · obtain rfl : x0 = false := by simpa using hbi
      refine wpOpIn_plain rfl rfl rfl ?_
      exact ⟨IB, rfl⟩
    · obtain rfl : x1 = false := by simpa using hbi
      refine wpOpIn_plain rfl rfl rfl ?_
      exact ⟨IB, rfl⟩
    · obtain rfl : x2 = false := by simpa using hbi
      obtain rfl : x0 = true := hdep _ rfl ⟨0, .data⟩ (by simp) rfl
      obtain rfl : x1 = true := hdep _ rfl ⟨1, .data⟩ (by simp) rfl
      refine wpOpIn_plain (v := Value.int IntKind.i64 (mn)) (w' := w') rfl rfl (sem_min (vx := Value.int IntKind.i64 (x)) (vy := Value.int IntKind.i64 (y)) rfl rfl rfl (HMN.out w')) ?_
      exact ⟨IB, rfl⟩
    · obtain rfl : x3 = false := by simpa using hbi
      refine wpOpIn_load_row rfl rfl 34 _ rfl w.heap.size rfl 34 _ _ _ (heapB IB.out Q0.out) Tryz.underlying34 rfl info34 ?_
      exact ⟨IB, rfl⟩
    · obtain rfl : x4 = false := by simpa using hbi
      obtain rfl : x3 = true := hdep _ rfl ⟨3, .data⟩ (by simp) rfl
      refine wpOpIn_call (args := #[Value.agg #[.int .i64 2, .slice (some ⟨g, o, none⟩) 2 sc, .int .i64 hosts]]) rfl rfl (sem_call1 rfl rfl (enters_of Tryz.func95 (by kernel_rfl) rfl)) (HWD.out w' (HB.out.trans (IB.out.mono HB.out.size))) ?_
      rintro e V ⟨rfl, hb⟩
      exact ⟨_, rfl, (IB.out.trans (hb.mono IB.out.size)), rfl⟩
    · obtain rfl : x5 = false := by simpa using hbi
      obtain rfl : x2 = true := hdep _ rfl ⟨2, .data⟩ (by simp) rfl
      obtain rfl : x4 = true := hdep _ rfl ⟨4, .data⟩ (by simp) rfl
      refine wpOpIn_plain (v := Value.int IntKind.i64 ((l0 : Int))) (w' := w') rfl rfl (sem_bin (vx := Value.int IntKind.i64 (mn)) (vy := Value.int IntKind.i64 (ww)) rfl rfl rfl rfl (EQ1.out w')) ?_
      exact ⟨IB, rfl⟩
    · obtain rfl : x6 = false := by simpa using hbi
      refine wpOpIn_plain rfl rfl rfl ?_
      exact ⟨IB, rfl⟩
    · obtain rfl : x7 = false := by simpa using hbi
      refine wpOpIn_plain rfl rfl rfl ?_
      exact ⟨IB, rfl⟩
    · obtain rfl : x8 = false := by simpa using hbi
      obtain rfl : x6 = true := hdep _ rfl ⟨6, .data⟩ (by simp) rfl
      obtain rfl : x7 = true := hdep _ rfl ⟨7, .data⟩ (by simp) rfl
      refine wpOpIn_plain (v := Value.int IntKind.i64 (mx)) (w' := w') rfl rfl (sem_max (vx := Value.int IntKind.i64 (x)) (vy := Value.int IntKind.i64 (y)) rfl rfl rfl (HMX.out w')) ?_
      exact ⟨IB, rfl⟩
    · obtain rfl : x9 = false := by simpa using hbi
      refine wpOpIn_load_row rfl rfl 34 _ rfl w.heap.size rfl 34 _ _ _ (heapB IB.out Q0.out) Tryz.underlying34 rfl info34 ?_
      exact ⟨IB, rfl⟩
    · obtain rfl : x10 = false := by simpa using hbi
      obtain rfl : x9 = true := hdep _ rfl ⟨9, .data⟩ (by simp) rfl
      refine wpOpIn_call (args := #[Value.agg #[.int .i64 2, .slice (some ⟨g, o, none⟩) 2 sc, .int .i64 hosts]]) rfl rfl (sem_call1 rfl rfl (enters_of Tryz.func95 (by kernel_rfl) rfl)) (HWD.out w' (HB.out.trans (IB.out.mono HB.out.size))) ?_
      rintro e V ⟨rfl, hb⟩
      exact ⟨_, rfl, (IB.out.trans (hb.mono IB.out.size)), rfl⟩
    · obtain rfl : x11 = false := by simpa using hbi
      obtain rfl : x8 = true := hdep _ rfl ⟨8, .data⟩ (by simp) rfl
      obtain rfl : x10 = true := hdep _ rfl ⟨10, .data⟩ (by simp) rfl
      refine wpOpIn_plain (v := Value.int IntKind.i64 (M0)) (w' := w') rfl rfl (sem_bin (vx := Value.int IntKind.i64 (mx)) (vy := Value.int IntKind.i64 (ww)) rfl rfl rfl rfl (EQ2.out w')) ?_
      exact ⟨IB, rfl⟩
    · obtain rfl : x12 = false := by simpa using hbi
      obtain rfl : x5 = true := hdep _ rfl ⟨5, .data⟩ (by simp) rfl
      refine wpOpIn_plain rfl rfl rfl ?_
      exact ⟨IB, rfl⟩
    · obtain rfl : x13 = false := by simpa using hbi
      obtain rfl : x11 = true := hdep _ rfl ⟨11, .data⟩ (by simp) rfl
      refine wpOpIn_plain rfl rfl rfl ?_
      exact ⟨IB, rfl⟩
  case fin =>
  intro listed a' w5 hs hall ⟨IB, ha⟩
  obtain ⟨ls⟩ := listed
  match ls, hs with
  | [x0, x1, x2, x3, x4, x5, x6, x7, x8, x9, x10, x11, x12, x13], _ =>
  obtain rfl : x0 = true := hall 0 (by simp)
  obtain rfl : x1 = true := hall 1 (by simp)
  obtain rfl : x2 = true := hall 2 (by simp)
  obtain rfl : x3 = true := hall 3 (by simp)
  obtain rfl : x4 = true := hall 4 (by simp)
  obtain rfl : x5 = true := hall 5 (by simp)
  obtain rfl : x6 = true := hall 6 (by simp)
  obtain rfl : x7 = true := hall 7 (by simp)
  obtain rfl : x8 = true := hall 8 (by simp)
  obtain rfl : x9 = true := hall 9 (by simp)
  obtain rfl : x10 = true := hall 10 (by simp)
  obtain rfl : x11 = true := hall 11 (by simp)
  obtain rfl : x12 = true := hall 12 (by simp)
  obtain rfl : x13 = true := hall 13 (by simp)
  subst ha
  clear hs hall
  clear EQ1 EQ2
  go_wp2_with fail
  refine (wpIn_wide (n := 0)).1 ?_
  refine region_det (by kernel_rfl) (I := fun listed a' w' => Hid (Below X.heap.size X w') ∧ a' = ⟨#[Value.agg #[Value.int IntKind.i64 2, Value.slice (some (Addr.mk g o none)) 2 sc, Value.int IntKind.i64 hosts], Value.int IntKind.i64 x, Value.int IntKind.i64 y, Value.pointer (some (Addr.mk w.heap.size 0 none)), undef, undef, Value.bool false, undef, undef, undef, undef, undef, undef, Value.int IntKind.i64 ↑l0, Value.int IntKind.i64 M0, (if listed.getD 12 false = true then Value.int IntKind.i64 (V) else undef), (if listed.getD 13 false = true then Value.int IntKind.i64 (W0) else undef), undef, undef, undef, Value.int IntKind.i64 x, Value.int IntKind.i64 y, Value.bool false, Value.pointer (some (Addr.mk w.heap.size 0 none)), Value.int IntKind.i64 2, Value.bool false, Value.bool false, undef, undef, undef, undef, undef, undef, undef, undef, undef, undef, undef, undef, undef, undef, undef, undef, undef, undef, undef, undef, undef, undef, undef, undef, undef, undef, undef, undef, undef, undef, undef, undef, undef, undef, undef, undef, undef, undef, undef, undef, undef, undef, undef, undef, undef, undef, undef, undef, undef, undef, undef, undef, undef, undef, undef, undef, undef, undef, undef, Value.bool true, Value.bool true, Value.int IntKind.i64 x, Value.int IntKind.i64 y, Value.int IntKind.i64 mn, Value.agg #[Value.int IntKind.i64 2, Value.slice (some (Addr.mk g o none)) 2 sc, Value.int IntKind.i64 hosts], Value.int IntKind.i64 ww, Value.int IntKind.i64 ↑l0, Value.int IntKind.i64 x, Value.int IntKind.i64 y, Value.int IntKind.i64 mx, Value.agg #[Value.int IntKind.i64 2, Value.slice (some (Addr.mk g o none)) 2 sc, Value.int IntKind.i64 hosts], Value.int IntKind.i64 ww, Value.int IntKind.i64 M0, (if listed.getD 0 false = true then Value.int IntKind.i64 (x) else undef), (if listed.getD 1 false = true then Value.int IntKind.i64 (y) else undef), (if listed.getD 2 false = true then Value.int IntKind.i64 (mn) else undef), (if listed.getD 3 false = true then Value.agg #[.int .i64 2, .slice (some ⟨g, o, none⟩) 2 sc, .int .i64 hosts] else undef), (if listed.getD 4 false = true then Value.int IntKind.i64 (ww) else undef), (if listed.getD 5 false = true then Value.int IntKind.i64 (V) else undef), (if listed.getD 6 false = true then Value.int IntKind.i64 (x) else undef), (if listed.getD 7 false = true then Value.int IntKind.i64 (y) else undef), (if listed.getD 8 false = true then Value.int IntKind.i64 (mx) else undef), (if listed.getD 9 false = true then Value.agg #[.int .i64 2, .slice (some ⟨g, o, none⟩) 2 sc, .int .i64 hosts] else undef), (if listed.getD 10 false = true then Value.int IntKind.i64 (ww) else undef), (if listed.getD 11 false = true then Value.int IntKind.i64 (W0) else undef), undef, undef, undef, undef, undef, undef, undef, undef, undef, undef, undef, undef, undef, undef, undef, undef, undef, undef, undef, undef, undef, undef, undef, undef, undef, undef, undef, undef, undef, undef, undef, undef, undef, undef, undef, undef, undef, undef, undef, undef, undef, undef, undef, undef, undef, undef, undef, undef, undef, undef, undef, undef, undef, undef, undef, undef, undef, undef], []⟩) (hup_check (by kernel_rfl)) ?h0 ?step ?fin
  case h0 => exact ⟨IB.out.drew, rfl⟩
  case step =>
    intro listed a' w' i hs hbi hdep hi ⟨IB, ha⟩
    obtain ⟨ls⟩ := listed
    match ls, hs with
    | [x0, x1, x2, x3, x4, x5, x6, x7, x8, x9, x10, x11, x12, x13], _ =>
    subst ha
    have hi' : i = 0 ∨ i = 1 ∨ i = 2 ∨ i = 3 ∨ i = 4 ∨ i = 5 ∨ i = 6 ∨ i = 7 ∨ i = 8 ∨ i = 9 ∨ i = 10 ∨ i = 11 ∨ i = 12 ∨ i = 13 := by simp at hi; omega
    rcases hi' with rfl | rfl | rfl | rfl | rfl | rfl | rfl | rfl | rfl | rfl | rfl | rfl | rfl | rfl
    · obtain rfl : x0 = false := by simpa using hbi
      refine wpOpIn_plain rfl rfl rfl ?_
      exact ⟨IB, rfl⟩
    · obtain rfl : x1 = false := by simpa using hbi
      refine wpOpIn_plain rfl rfl rfl ?_
      exact ⟨IB, rfl⟩
    · obtain rfl : x2 = false := by simpa using hbi
      obtain rfl : x0 = true := hdep _ rfl ⟨0, .data⟩ (by simp) rfl
      obtain rfl : x1 = true := hdep _ rfl ⟨1, .data⟩ (by simp) rfl
      refine wpOpIn_plain (v := Value.int IntKind.i64 (mn)) (w' := w') rfl rfl (sem_min (vx := Value.int IntKind.i64 (x)) (vy := Value.int IntKind.i64 (y)) rfl rfl rfl (HMN.out w')) ?_
      exact ⟨IB, rfl⟩
    · obtain rfl : x3 = false := by simpa using hbi
      refine wpOpIn_load_row rfl rfl 34 _ rfl w.heap.size rfl 34 _ _ _ (heapB IB.out Q0.out) Tryz.underlying34 rfl info34 ?_
      exact ⟨IB, rfl⟩
    · obtain rfl : x4 = false := by simpa using hbi
      obtain rfl : x3 = true := hdep _ rfl ⟨3, .data⟩ (by simp) rfl
      refine wpOpIn_call (args := #[Value.agg #[.int .i64 2, .slice (some ⟨g, o, none⟩) 2 sc, .int .i64 hosts]]) rfl rfl (sem_call1 rfl rfl (enters_of Tryz.func95 (by kernel_rfl) rfl)) (HWD.out w' (HB.out.trans (IB.out.mono HB.out.size))) ?_
      rintro e V ⟨rfl, hb⟩
      exact ⟨_, rfl, (IB.out.trans (hb.mono IB.out.size)), rfl⟩
    · obtain rfl : x5 = false := by simpa using hbi
      obtain rfl : x2 = true := hdep _ rfl ⟨2, .data⟩ (by simp) rfl
      obtain rfl : x4 = true := hdep _ rfl ⟨4, .data⟩ (by simp) rfl
      refine wpOpIn_plain (v := Value.int IntKind.i64 (V)) (w' := w') rfl rfl (sem_bin (vx := Value.int IntKind.i64 (mn)) (vy := Value.int IntKind.i64 (ww)) rfl rfl rfl rfl (ER1.out w')) ?_
      exact ⟨IB, rfl⟩
    · obtain rfl : x6 = false := by simpa using hbi
      refine wpOpIn_plain rfl rfl rfl ?_
      exact ⟨IB, rfl⟩
    · obtain rfl : x7 = false := by simpa using hbi
      refine wpOpIn_plain rfl rfl rfl ?_
      exact ⟨IB, rfl⟩
    · obtain rfl : x8 = false := by simpa using hbi
      obtain rfl : x6 = true := hdep _ rfl ⟨6, .data⟩ (by simp) rfl
      obtain rfl : x7 = true := hdep _ rfl ⟨7, .data⟩ (by simp) rfl
      refine wpOpIn_plain (v := Value.int IntKind.i64 (mx)) (w' := w') rfl rfl (sem_max (vx := Value.int IntKind.i64 (x)) (vy := Value.int IntKind.i64 (y)) rfl rfl rfl (HMX.out w')) ?_
      exact ⟨IB, rfl⟩
    · obtain rfl : x9 = false := by simpa using hbi
      refine wpOpIn_load_row rfl rfl 34 _ rfl w.heap.size rfl 34 _ _ _ (heapB IB.out Q0.out) Tryz.underlying34 rfl info34 ?_
      exact ⟨IB, rfl⟩
    · obtain rfl : x10 = false := by simpa using hbi
      obtain rfl : x9 = true := hdep _ rfl ⟨9, .data⟩ (by simp) rfl
      refine wpOpIn_call (args := #[Value.agg #[.int .i64 2, .slice (some ⟨g, o, none⟩) 2 sc, .int .i64 hosts]]) rfl rfl (sem_call1 rfl rfl (enters_of Tryz.func95 (by kernel_rfl) rfl)) (HWD.out w' (HB.out.trans (IB.out.mono HB.out.size))) ?_
      rintro e V ⟨rfl, hb⟩
      exact ⟨_, rfl, (IB.out.trans (hb.mono IB.out.size)), rfl⟩
    · obtain rfl : x11 = false := by simpa using hbi
      obtain rfl : x8 = true := hdep _ rfl ⟨8, .data⟩ (by simp) rfl
      obtain rfl : x10 = true := hdep _ rfl ⟨10, .data⟩ (by simp) rfl
      refine wpOpIn_plain (v := Value.int IntKind.i64 (W0)) (w' := w') rfl rfl (sem_bin (vx := Value.int IntKind.i64 (mx)) (vy := Value.int IntKind.i64 (ww)) rfl rfl rfl rfl (ER2.out w')) ?_
      exact ⟨IB, rfl⟩
    · obtain rfl : x12 = false := by simpa using hbi
      obtain rfl : x5 = true := hdep _ rfl ⟨5, .data⟩ (by simp) rfl
      refine wpOpIn_plain rfl rfl rfl ?_
      exact ⟨IB, rfl⟩
    · obtain rfl : x13 = false := by simpa using hbi
      obtain rfl : x11 = true := hdep _ rfl ⟨11, .data⟩ (by simp) rfl
      refine wpOpIn_plain rfl rfl rfl ?_
      exact ⟨IB, rfl⟩
  case fin =>
  intro listed a' w6 hs hall ⟨IB, ha⟩
  obtain ⟨ls⟩ := listed
  match ls, hs with
  | [x0, x1, x2, x3, x4, x5, x6, x7, x8, x9, x10, x11, x12, x13], _ =>
  obtain rfl : x0 = true := hall 0 (by simp)
  obtain rfl : x1 = true := hall 1 (by simp)
  obtain rfl : x2 = true := hall 2 (by simp)
  obtain rfl : x3 = true := hall 3 (by simp)
  obtain rfl : x4 = true := hall 4 (by simp)
  obtain rfl : x5 = true := hall 5 (by simp)
  obtain rfl : x6 = true := hall 6 (by simp)
  obtain rfl : x7 = true := hall 7 (by simp)
  obtain rfl : x8 = true := hall 8 (by simp)
  obtain rfl : x9 = true := hall 9 (by simp)
  obtain rfl : x10 = true := hall 10 (by simp)
  obtain rfl : x11 = true := hall 11 (by simp)
  obtain rfl : x12 = true := hall 12 (by simp)
  obtain rfl : x13 = true := hall 13 (by simp)
  subst ha
  clear hs hall
  clear ER1 ER2 HMN HMX HWD
  have HW1 : Hid (∀ W, Below w.heap.size w W → Calls Tryz.prog 118 #[.agg #[.int .i64 2, .slice (some ⟨g, o, none⟩) 2 sc, .int .i64 hosts], .int .i64 (V), .int .i64 (l0 : Int), .int .i64 0] W fun e w' => e = .returned (.int .i64 (wthI k l0 (V) 0)) ∧ Below W.heap.size W w') := fun W hb => HWI.out W hb V V0 V1
  have HW2 : Hid (∀ W, Below w.heap.size w W → Calls Tryz.prog 118 #[.agg #[.int .i64 2, .slice (some ⟨g, o, none⟩) 2 sc, .int .i64 hosts], .int .i64 (W0), .int .i64 (l0 : Int), .int .i64 0] W fun e w' => e = .returned (.int .i64 (wthI k l0 (W0) 0)) ∧ Below W.heap.size W w') := fun W hb => HWI.out W hb W0 W00 W01
  clear HWI V1 W01
  generalize hp1 : wthI k l0 V 0 = p1 at *
  generalize hp2 : wthI k l0 W0 0 = p2 at *
  by_cases hml : ¬ M0 = (l0 : Int) + 1
  · have e1 : (M0 == (l0 : Int) + 1) = false := by simpa using hml
    have e2 := HES.out
    go_wp2_with fail
    go_quiet (fail)
    go_wp2_with fail
    go_ret
    exact ⟨by rw [e1]; rfl, HB.out.trans (below_drewN (IB.out.mono HB.out.size) _)⟩
  obtain rfl := Decidable.not_not.1 hml
  clear hml
  have hrf : ((l0 : Int) + 1 == (l0 : Int) + 1) = true := by simp
  go_wp2_with fail
  refine (wpIn_wide (n := 0)).1 ?_
  refine region_det (by kernel_rfl) (I := fun listed a' w' => Hid (Below X.heap.size X w') ∧ a' = ⟨#[Value.agg #[Value.int IntKind.i64 2, Value.slice (some (Addr.mk g o none)) 2 sc, Value.int IntKind.i64 hosts], Value.int IntKind.i64 x, Value.int IntKind.i64 y, Value.pointer (some (Addr.mk w.heap.size 0 none)), undef, undef, (if listed.getD 15 false = true then Value.bool (p1 == p2) else Value.bool false), undef, undef, undef, undef, undef, undef, Value.int IntKind.i64 ↑l0, Value.int IntKind.i64 (↑l0 + 1), Value.int IntKind.i64 V, Value.int IntKind.i64 W0, undef, undef, undef, Value.int IntKind.i64 x, Value.int IntKind.i64 y, Value.bool false, Value.pointer (some (Addr.mk w.heap.size 0 none)), Value.int IntKind.i64 2, Value.bool false, Value.bool false, undef, undef, undef, undef, undef, undef, undef, undef, undef, undef, undef, undef, undef, undef, undef, undef, undef, undef, undef, undef, undef, undef, undef, undef, undef, undef, undef, undef, undef, undef, undef, undef, undef, undef, undef, undef, undef, undef, undef, undef, undef, undef, undef, undef, undef, undef, undef, undef, undef, undef, undef, undef, undef, undef, undef, undef, undef, undef, undef, Value.bool true, Value.bool true, Value.int IntKind.i64 x, Value.int IntKind.i64 y, Value.int IntKind.i64 mn, Value.agg #[Value.int IntKind.i64 2, Value.slice (some (Addr.mk g o none)) 2 sc, Value.int IntKind.i64 hosts], Value.int IntKind.i64 ww, Value.int IntKind.i64 ↑l0, Value.int IntKind.i64 x, Value.int IntKind.i64 y, Value.int IntKind.i64 mx, Value.agg #[Value.int IntKind.i64 2, Value.slice (some (Addr.mk g o none)) 2 sc, Value.int IntKind.i64 hosts], Value.int IntKind.i64 ww, Value.int IntKind.i64 (↑l0 + 1), Value.int IntKind.i64 x, Value.int IntKind.i64 y, Value.int IntKind.i64 mn, Value.agg #[Value.int IntKind.i64 2, Value.slice (some (Addr.mk g o none)) 2 sc, Value.int IntKind.i64 hosts], Value.int IntKind.i64 ww, Value.int IntKind.i64 V, Value.int IntKind.i64 x, Value.int IntKind.i64 y, Value.int IntKind.i64 mx, Value.agg #[Value.int IntKind.i64 2, Value.slice (some (Addr.mk g o none)) 2 sc, Value.int IntKind.i64 hosts], Value.int IntKind.i64 ww, Value.int IntKind.i64 W0, (if listed.getD 0 false = true then Value.int IntKind.i64 ((l0 : Int) + 1) else undef), (if listed.getD 1 false = true then Value.int IntKind.i64 ((l0 : Int)) else undef), (if listed.getD 2 false = true then Value.int IntKind.i64 ((l0 : Int) + 1) else undef), (if listed.getD 3 false = true then Value.bool true else undef), (if listed.getD 4 false = true then Value.bool true else undef), (if listed.getD 5 false = true then Value.agg #[.int .i64 2, .slice (some ⟨g, o, none⟩) 2 sc, .int .i64 hosts] else undef), (if listed.getD 6 false = true then Value.int IntKind.i64 (V) else undef), (if listed.getD 7 false = true then Value.int IntKind.i64 ((l0 : Int)) else undef), (if listed.getD 8 false = true then Value.int IntKind.i64 (p1) else undef), (if listed.getD 9 false = true then Value.agg #[.int .i64 2, .slice (some ⟨g, o, none⟩) 2 sc, .int .i64 hosts] else undef), (if listed.getD 10 false = true then Value.int IntKind.i64 (W0) else undef), (if listed.getD 11 false = true then Value.int IntKind.i64 ((l0 : Int)) else undef), (if listed.getD 12 false = true then Value.int IntKind.i64 (p2) else undef), (if listed.getD 13 false = true then Value.bool (p1 == p2) else undef), (if listed.getD 14 false = true then Value.bool (p1 == p2) else undef), undef, undef, undef, undef, undef, undef, undef, undef, undef, undef, undef, undef, undef, undef, undef, undef, undef, undef, undef, undef, undef, undef, undef, undef, undef, undef, undef, undef, undef, undef, undef, undef, undef, undef, undef, undef, undef, undef, undef, undef, undef, undef, undef], []⟩) (hup_check (by kernel_rfl)) ?h0 ?step ?fin
  case h0 => exact ⟨IB.out.drew, rfl⟩
  case step =>
    intro listed a' w' i hs hbi hdep hi ⟨IB, ha⟩
    obtain ⟨ls⟩ := listed
    match ls, hs with
    | [x0, x1, x2, x3, x4, x5, x6, x7, x8, x9, x10, x11, x12, x13, x14, x15], _ =>
    subst ha
    have hi' : i = 0 ∨ i = 1 ∨ i = 2 ∨ i = 3 ∨ i = 4 ∨ i = 5 ∨ i = 6 ∨ i = 7 ∨ i = 8 ∨ i = 9 ∨ i = 10 ∨ i = 11 ∨ i = 12 ∨ i = 13 ∨ i = 14 ∨ i = 15 := by simp at hi; omega
    rcases hi' with rfl | rfl | rfl | rfl | rfl | rfl | rfl | rfl | rfl | rfl | rfl | rfl | rfl | rfl | rfl | rfl
    · obtain rfl : x0 = false := by simpa using hbi
      refine wpOpIn_plain rfl rfl rfl ?_
      exact ⟨IB, rfl⟩
    · obtain rfl : x1 = false := by simpa using hbi
      refine wpOpIn_plain rfl rfl rfl ?_
      exact ⟨IB, rfl⟩
    · obtain rfl : x2 = false := by simpa using hbi
      obtain rfl : x1 = true := hdep _ rfl ⟨1, .data⟩ (by simp) rfl
      refine wpOpIn_plain (v := Value.int IntKind.i64 ((l0 : Int) + 1)) (w' := w') rfl rfl (sem_bin (vx := Value.int IntKind.i64 ((l0 : Int))) (vy := Value.int IntKind.i64 (1)) rfl rfl rfl rfl (HES.out w')) ?_
      exact ⟨IB, rfl⟩
    · obtain rfl : x3 = false := by simpa using hbi
      obtain rfl : x0 = true := hdep _ rfl ⟨0, .data⟩ (by simp) rfl
      obtain rfl : x2 = true := hdep _ rfl ⟨2, .data⟩ (by simp) rfl
      refine wpOpIn_plain (v := Value.bool true) (w' := w') rfl rfl (by simp [Oper.semAt, execOp, go_sem]) ?_
      exact ⟨IB, rfl⟩
    · obtain rfl : x4 = false := by simpa using hbi
      obtain rfl : x3 = true := hdep _ rfl ⟨3, .data⟩ (by simp) rfl
      refine wpOpIn_plain rfl rfl rfl ?_
      exact ⟨IB, rfl⟩
    · obtain rfl : x5 = false := by simpa using hbi
      obtain rfl : x4 = true := hdep _ rfl ⟨4, .guard⟩ (by simp) rfl
      refine wpOpIn_rowg rfl rfl rfl 34 _ rfl w.heap.size rfl 34 _ _ _ (heapB IB.out Q0.out) Tryz.underlying34 rfl info34 ?_
      exact ⟨IB, rfl⟩
    · obtain rfl : x6 = false := by simpa using hbi
      obtain rfl : x4 = true := hdep _ rfl ⟨4, .guard⟩ (by simp) rfl
      refine wpOpIn_guard (v := Value.int IntKind.i64 (V)) (w' := w') rfl rfl rfl (by simp [Oper.semAt, execOp, go_sem]) ?_
      exact ⟨IB, rfl⟩
    · obtain rfl : x7 = false := by simpa using hbi
      obtain rfl : x4 = true := hdep _ rfl ⟨4, .guard⟩ (by simp) rfl
      refine wpOpIn_guard (v := Value.int IntKind.i64 ((l0 : Int))) (w' := w') rfl rfl rfl (by simp [Oper.semAt, execOp, go_sem]) ?_
      exact ⟨IB, rfl⟩
    · obtain rfl : x8 = false := by simpa using hbi
      obtain rfl : x5 = true := hdep _ rfl ⟨5, .data⟩ (by simp) rfl
      obtain rfl : x6 = true := hdep _ rfl ⟨6, .data⟩ (by simp) rfl
      obtain rfl : x7 = true := hdep _ rfl ⟨7, .data⟩ (by simp) rfl
      obtain rfl : x4 = true := hdep _ rfl ⟨4, .guard⟩ (by simp) rfl
      refine wpOpIn_callg (args := #[Value.agg #[.int .i64 2, .slice (some ⟨g, o, none⟩) 2 sc, .int .i64 hosts], Value.int IntKind.i64 (V), Value.int IntKind.i64 ((l0 : Int)), Value.int IntKind.i64 (0)]) rfl rfl rfl (sem_call4 rfl rfl rfl rfl rfl (enters_of Tryz.func118 (by kernel_rfl) rfl)) (HW1.out w' (HB.out.trans (IB.out.mono HB.out.size))) ?_
      rintro e V9 ⟨rfl, hb⟩
      exact ⟨_, rfl, (IB.out.trans (hb.mono IB.out.size)), rfl⟩
    · obtain rfl : x9 = false := by simpa using hbi
      obtain rfl : x4 = true := hdep _ rfl ⟨4, .guard⟩ (by simp) rfl
      refine wpOpIn_rowg rfl rfl rfl 34 _ rfl w.heap.size rfl 34 _ _ _ (heapB IB.out Q0.out) Tryz.underlying34 rfl info34 ?_
      exact ⟨IB, rfl⟩
    · obtain rfl : x10 = false := by simpa using hbi
      obtain rfl : x4 = true := hdep _ rfl ⟨4, .guard⟩ (by simp) rfl
      refine wpOpIn_guard (v := Value.int IntKind.i64 (W0)) (w' := w') rfl rfl rfl (by simp [Oper.semAt, execOp, go_sem]) ?_
      exact ⟨IB, rfl⟩
    · obtain rfl : x11 = false := by simpa using hbi
      obtain rfl : x4 = true := hdep _ rfl ⟨4, .guard⟩ (by simp) rfl
      refine wpOpIn_guard (v := Value.int IntKind.i64 ((l0 : Int))) (w' := w') rfl rfl rfl (by simp [Oper.semAt, execOp, go_sem]) ?_
      exact ⟨IB, rfl⟩
    · obtain rfl : x12 = false := by simpa using hbi
      obtain rfl : x9 = true := hdep _ rfl ⟨9, .data⟩ (by simp) rfl
      obtain rfl : x10 = true := hdep _ rfl ⟨10, .data⟩ (by simp) rfl
      obtain rfl : x11 = true := hdep _ rfl ⟨11, .data⟩ (by simp) rfl
      obtain rfl : x4 = true := hdep _ rfl ⟨4, .guard⟩ (by simp) rfl
      refine wpOpIn_callg (args := #[Value.agg #[.int .i64 2, .slice (some ⟨g, o, none⟩) 2 sc, .int .i64 hosts], Value.int IntKind.i64 (W0), Value.int IntKind.i64 ((l0 : Int)), Value.int IntKind.i64 (0)]) rfl rfl rfl (sem_call4 rfl rfl rfl rfl rfl (enters_of Tryz.func118 (by kernel_rfl) rfl)) (HW2.out w' (HB.out.trans (IB.out.mono HB.out.size))) ?_
      rintro e V9 ⟨rfl, hb⟩
      exact ⟨_, rfl, (IB.out.trans (hb.mono IB.out.size)), rfl⟩
    · obtain rfl : x13 = false := by simpa using hbi
      obtain rfl : x8 = true := hdep _ rfl ⟨8, .data⟩ (by simp) rfl
      obtain rfl : x12 = true := hdep _ rfl ⟨12, .data⟩ (by simp) rfl
      obtain rfl : x4 = true := hdep _ rfl ⟨4, .guard⟩ (by simp) rfl
      refine wpOpIn_guard (v := Value.bool (p1 == p2)) (w' := w') rfl rfl rfl (by simp [Oper.semAt, execOp, go_sem]) ?_
      exact ⟨IB, rfl⟩
    · obtain rfl : x14 = false := by simpa using hbi
      obtain rfl : x4 = true := hdep _ rfl ⟨4, .data⟩ (by simp) rfl
      obtain rfl : x13 = true := hdep _ rfl ⟨13, .data⟩ (by simp) rfl
      refine wpOpIn_plain (v := Value.bool (p1 == p2)) (w' := w') rfl rfl (by simp [Oper.semAt, execOp, go_sem]) ?_
      exact ⟨IB, rfl⟩
    · obtain rfl : x15 = false := by simpa using hbi
      obtain rfl : x14 = true := hdep _ rfl ⟨14, .data⟩ (by simp) rfl
      refine wpOpIn_plain rfl rfl rfl ?_
      exact ⟨IB, rfl⟩
  case fin =>
  intro listed a' w7 hs hall ⟨IB, ha⟩
  obtain ⟨ls⟩ := listed
  match ls, hs with
  | [x0, x1, x2, x3, x4, x5, x6, x7, x8, x9, x10, x11, x12, x13, x14, x15], _ =>
  obtain rfl : x0 = true := hall 0 (by simp)
  obtain rfl : x1 = true := hall 1 (by simp)
  obtain rfl : x2 = true := hall 2 (by simp)
  obtain rfl : x3 = true := hall 3 (by simp)
  obtain rfl : x4 = true := hall 4 (by simp)
  obtain rfl : x5 = true := hall 5 (by simp)
  obtain rfl : x6 = true := hall 6 (by simp)
  obtain rfl : x7 = true := hall 7 (by simp)
  obtain rfl : x8 = true := hall 8 (by simp)
  obtain rfl : x9 = true := hall 9 (by simp)
  obtain rfl : x10 = true := hall 10 (by simp)
  obtain rfl : x11 = true := hall 11 (by simp)
  obtain rfl : x12 = true := hall 12 (by simp)
  obtain rfl : x13 = true := hall 13 (by simp)
  obtain rfl : x14 = true := hall 14 (by simp)
  obtain rfl : x15 = true := hall 15 (by simp)
  subst ha
  clear hs hall
  go_wp2_with fail
  go_ret
  exact ⟨by subst hp1; subst hp2; rfl, HB.out.trans (IB.out.mono HB.out.size)⟩
end Go.Proofs.YtbhkenphcahifaaGreat
