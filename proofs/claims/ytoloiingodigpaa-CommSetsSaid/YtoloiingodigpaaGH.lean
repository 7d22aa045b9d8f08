import Derived.Test.YtoloiingodigpaaGG
namespace Go.Proofs.Ytoloiingodigpaa
open Go.RowKit Go.Shelf
attribute [local go_sem] Oper.semAt_some
set_option maxRecDepth 100000
set_option maxHeartbeats 2000000

theorem few_two {w : World} (a b : Option Addr) (n n' cap cap' : Nat) (hn : n ≤ 17592186044416) (hn' : n' ≤ 17592186044416) :
    Calls Try.prog 13 #[.slice (some ⟨w.heap.size, 0, none⟩) 2 2] (w.alloc (.cells #[.slice a n cap, .slice b n' cap'] 22)) fun e w' => e = .returned (.bool (decide (n ≤ 100) && decide (n' ≤ 100))) ∧ w.alloc (.cells #[.slice a n cap, .slice b n' cap'] 22) = w' := by
  have h := few_any (w := w.alloc (.cells #[.slice a n cap, .slice b n' cap'] 22)) w.heap.size [(a, n, cap), (b, n', cap')] (by simp) (fun j hj => by match j, hj with | 0, _ => simp | 1, _ => simp) (by intro x hx; simp at hx; rcases hx with rfl | rfl <;> assumption)
  simpa using h

theorem CommGroups_walk {w : World} {a b : Option Addr} {l m : List Int} (h : Ints w a l) (cap : Nat) (hc : l.length ≤ cap) (hn : a = none → cap = 0) (_ : ∀ n ∈ l, (Lit.int .i64 n).wf = true) (hm : Ints w b m) (cap' : Nat) (hc' : m.length ≤ cap') (hn' : b = none → cap' = 0) (_ : ∀ n ∈ m, (Lit.int .i64 n).wf = true) :
    Calls Try.prog 3 #[.slice a l.length cap, .slice b m.length cap'] w fun e w' => e = .returned (.bool true) ∧ Below w.heap.size w w' := by
  have hf := few_two (w := w) a b l.length m.length cap cap' h.len hm.len
  have b0 : Below w.heap.size w (w.alloc (.cells #[.slice a l.length cap, .slice b m.length cap'] 22)) := (Below.refl _ _).alloc (Nat.le_refl _) _
  have HA := Lib.hid (h.keep b0)
  have HB := Lib.hid (hm.keep b0)
  have HQ := Lib.hid b0
  clear h hm b0
  cases hd : (decide (l.length ≤ 100) && decide (m.length ≤ 100)) with
  | false =>
    rw [hd] at hf
    go_enter Try.func3, Try.ntmps3
    go_wp2_with fail
    refine hf.mono ?_
    generalize w.alloc (.cells #[.slice a l.length cap, .slice b m.length cap'] 22) = W0 at *
    rintro e w' ⟨rfl, rfl⟩
    go_wp2_with fail
    refine (works_true W0).mono ?_
    rintro e w1 ⟨rfl, b1⟩
    go_wp2_with fail
    go_ret
    exact ⟨rfl, HQ.out.trans (b1.mono HQ.out.size)⟩
  | true =>
    rw [hd] at hf
    have HE : Hid (pairErr l m = pairErr l m) := rfl
    go_enter Try.func3, Try.ntmps3
    go_wp2_with fail
    refine hf.mono ?_
    generalize w.alloc (.cells #[.slice a l.length cap, .slice b m.length cap'] 22) = W0 at *
    rintro e w' ⟨rfl, rfl⟩
    clear hf
    go_wp2_with fail
    refine (union_any HA.out HB.out cap cap' hn hn').mono ?_
    rintro e W1 ⟨vx, rfl, n1, b1⟩
    replace HQ := Lib.hid (HQ.out.trans (b1.mono HQ.out.size))
    replace HA := Lib.hid (HA.out.keep b1)
    replace HB := Lib.hid (HB.out.keep b1)
    rw [union_eq] at n1
    obtain ⟨ax, cx, rfl, j1⟩ := n1.ints
    have Hx := Lib.hid j1
    clear n1 j1 b1
    go_wp2_with fail
    refine (Union_ref HA.out HB.out cap cap' hc hc' hn).mono ?_
    rintro e W2 ⟨vy, rfl, n1, b1⟩
    replace HQ := Lib.hid (HQ.out.trans (b1.mono HQ.out.size))
    replace HA := Lib.hid (HA.out.keep b1)
    replace HB := Lib.hid (HB.out.keep b1)
    replace Hx := Lib.hid (Hx.out.keep b1)
    obtain ⟨ay, cy, rfl, j1⟩ := n1.ints
    have Hy := Lib.hid j1
    clear n1 j1 b1
    go_wp2_with fail
    have hs := is_any Hx.out Hy.out cx cy (pairErr l m) (pairErr l m)
    rw [show (decide (pairErr l m = pairErr l m) && decide (refL l m (l ++ chosenL m l false) = refL l m (l ++ chosenL m l false))) = true by simp] at hs
    refine hs.mono ?_
    rintro e W3 ⟨rfl, b1⟩
    replace HQ := Lib.hid (HQ.out.trans (b1.mono HQ.out.size))
    replace HA := Lib.hid (HA.out.keep b1)
    replace HB := Lib.hid (HB.out.keep b1)
    clear b1 hs Hx Hy
    go_wp2_with fail
    refine (check_any HA.out cap).mono ?_
    rintro e W4 ⟨rfl, b1⟩
    replace HQ := Lib.hid (HQ.out.trans (b1.mono HQ.out.size))
    replace HA := Lib.hid (HA.out.keep b1)
    replace HB := Lib.hid (HB.out.keep b1)
    clear b1
    go_wp2_with fail
    refine (check_ref HA.out cap hc).mono ?_
    rintro e W5 ⟨rfl, b1⟩
    replace HQ := Lib.hid (HQ.out.trans (b1.mono HQ.out.size))
    replace HA := Lib.hid (HA.out.keep b1)
    replace HB := Lib.hid (HB.out.keep b1)
    clear b1
    go_wp2_with fail
    refine (inter_any HA.out HB.out cap cap').mono ?_
    rintro e W6 ⟨vz, rfl, n1, b1⟩
    replace HQ := Lib.hid (HQ.out.trans (b1.mono HQ.out.size))
    replace HA := Lib.hid (HA.out.keep b1)
    replace HB := Lib.hid (HB.out.keep b1)
    rw [inter_eq] at n1
    obtain ⟨az, cz, rfl, j1⟩ := n1.ints
    have Hz := Lib.hid j1
    clear n1 j1 b1
    go_wp2_with fail
    refine (Inter_ref HA.out HB.out cap cap' hc hc').mono ?_
    rintro e W7 ⟨vu, rfl, n1, b1⟩
    replace HQ := Lib.hid (HQ.out.trans (b1.mono HQ.out.size))
    replace HA := Lib.hid (HA.out.keep b1)
    replace HB := Lib.hid (HB.out.keep b1)
    replace Hz := Lib.hid (Hz.out.keep b1)
    obtain ⟨au, cu, rfl, j1⟩ := n1.ints
    have Hu := Lib.hid j1
    clear n1 j1 b1
    go_wp2_with fail
    have hs := is_any Hz.out Hu.out cz cu (pairErr l m) (pairErr l m)
    rw [show (decide (pairErr l m = pairErr l m) && decide (refL l m (chosenL l m true) = refL l m (chosenL l m true))) = true by simp] at hs
    refine hs.mono ?_
    rintro e W8 ⟨rfl, b1⟩
    replace HQ := Lib.hid (HQ.out.trans (b1.mono HQ.out.size))
    replace HA := Lib.hid (HA.out.keep b1)
    replace HB := Lib.hid (HB.out.keep b1)
    clear b1 hs Hz Hu
    go_wp2_with fail
    refine (diff_any HA.out HB.out cap cap').mono ?_
    rintro e W9 ⟨vp, rfl, n1, b1⟩
    replace HQ := Lib.hid (HQ.out.trans (b1.mono HQ.out.size))
    replace HA := Lib.hid (HA.out.keep b1)
    replace HB := Lib.hid (HB.out.keep b1)
    rw [diff_eq] at n1
    obtain ⟨ap, cp, rfl, j1⟩ := n1.ints
    have Hp := Lib.hid j1
    clear n1 j1 b1
    go_wp2_with fail
    refine (Diff_ref HA.out HB.out cap cap' hc hc').mono ?_
    rintro e W10 ⟨vq, rfl, n1, b1⟩
    replace HQ := Lib.hid (HQ.out.trans (b1.mono HQ.out.size))
    replace HA := Lib.hid (HA.out.keep b1)
    replace HB := Lib.hid (HB.out.keep b1)
    replace Hp := Lib.hid (Hp.out.keep b1)
    obtain ⟨aq, cq, rfl, j1⟩ := n1.ints
    have Hq := Lib.hid j1
    clear n1 j1 b1
    go_wp2_with fail
    have hcq : (if pairErr l m = 0 then cmpC l m else 0) = (if pairErr l m = 0 then cmpR l m else 0) := by
      by_cases e : pairErr l m = 0
      · rw [if_pos e, if_pos e, cmp_eq e]
      · rw [if_neg e, if_neg e]
    have hcr := Compare_any HA.out HB.out cap cap'
    rw [hcq] at hcr
    refine hcr.mono ?_
    rintro e W11 ⟨rfl, b1⟩
    have hcs := Compare_ref (HA.out.keep b1) (HB.out.keep b1) cap cap' hc hc'
    replace HQ := Lib.hid (HQ.out.trans (b1.mono HQ.out.size))
    replace HA := Lib.hid (HA.out.keep b1)
    replace HB := Lib.hid (HB.out.keep b1)
    replace Hp := Lib.hid (Hp.out.keep b1)
    replace Hq := Lib.hid (Hq.out.keep b1)
    clear b1 hcr hcq
    generalize (if pairErr l m = 0 then cmpR l m else 0) = cr at *
    go_wp2_with fail
    refine hcs.mono ?_
    rintro e W12 ⟨rfl, b1⟩
    replace HQ := Lib.hid (HQ.out.trans (b1.mono HQ.out.size))
    replace HA := Lib.hid (HA.out.keep b1)
    replace HB := Lib.hid (HB.out.keep b1)
    replace Hp := Lib.hid (Hp.out.keep b1)
    replace Hq := Lib.hid (Hq.out.keep b1)
    clear b1 hcs
    go_wp2_with fail
    have hs := is_any Hp.out Hq.out cp cq (pairErr l m) (pairErr l m)
    rw [show (decide (pairErr l m = pairErr l m) && decide (refL l m (chosenL l m false) = refL l m (chosenL l m false))) = true by simp] at hs
    refine hs.mono ?_
    rintro e W13 ⟨rfl, b1⟩
    replace HQ := Lib.hid (HQ.out.trans (b1.mono HQ.out.size))
    replace HA := Lib.hid (HA.out.keep b1)
    replace HB := Lib.hid (HB.out.keep b1)
    clear b1 hs Hp Hq
    go_wp2_with fail
    refine (works_true W13).mono ?_
    rintro e W14 ⟨rfl, b1⟩
    go_wp2_with fail
    go_ret
    exact ⟨rfl, HQ.out.trans (b1.mono HQ.out.size)⟩
end Go.Proofs.Ytoloiingodigpaa
