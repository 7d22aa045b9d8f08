import Derived.Test.YtoloiingodigpaaGL
namespace Go.Proofs.Ytoloiingodigpaa
open Go.RowKit Go.Shelf
attribute [local go_sem] Oper.semAt_some
set_option maxRecDepth 100000
set_option maxHeartbeats 2000000

theorem few_three {w : World} (a b c : Option Addr) (n n' n2 cap cap' cap2 : Nat) (hn : n ≤ 17592186044416) (hn' : n' ≤ 17592186044416) (hn2 : n2 ≤ 17592186044416) :
    Calls Try.prog 13 #[.slice (some ⟨w.heap.size, 0, none⟩) 3 3] (w.alloc (.cells #[.slice a n cap, .slice b n' cap', .slice c n2 cap2] 22)) fun e w' => e = .returned (.bool (decide (n ≤ 100) && (decide (n' ≤ 100) && decide (n2 ≤ 100)))) ∧ w.alloc (.cells #[.slice a n cap, .slice b n' cap', .slice c n2 cap2] 22) = w' := by
  have h := few_any (w := w.alloc (.cells #[.slice a n cap, .slice b n' cap', .slice c n2 cap2] 22)) w.heap.size [(a, n, cap), (b, n', cap'), (c, n2, cap2)] (by simp) (fun j hj => by match j, hj with | 0, _ => simp | 1, _ => simp | 2, _ => simp) (by intro x hx; simp at hx; rcases hx with rfl | rfl | rfl <;> assumption)
  simpa using h

theorem CommRanks_walk {w : World} {a b c : Option Addr} {l r m : List Int} (h : Ints w a l) (cap : Nat) (hc : l.length ≤ cap) (_ : a = none → cap = 0) (_ : ∀ n ∈ l, (Lit.int .i64 n).wf = true) (hr : Ints w b r) (cap1 : Nat) (hc1 : r.length ≤ cap1) (_ : b = none → cap1 = 0) (_ : ∀ n ∈ r, (Lit.int .i64 n).wf = true) (hm : Ints w c m) (cap' : Nat) (hc' : m.length ≤ cap') (_ : c = none → cap' = 0) (_ : ∀ n ∈ m, (Lit.int .i64 n).wf = true) :
    Calls Try.prog 4 #[.slice a l.length cap, .slice b r.length cap1, .slice c m.length cap'] w fun e w' => e = .returned (.bool true) ∧ Below w.heap.size w w' := by
  have hf := few_three (w := w) a b c l.length r.length m.length cap cap1 cap' h.len hr.len hm.len
  have b0 : Below w.heap.size w (w.alloc (.cells #[.slice a l.length cap, .slice b r.length cap1, .slice c m.length cap'] 22)) := (Below.refl _ _).alloc (Nat.le_refl _) _
  have HA := Lib.hid (h.keep b0)
  have HB := Lib.hid (hm.keep b0)
  have HR := Lib.hid (hr.keep b0)
  have HQ := Lib.hid b0
  clear h hm hr b0
  cases hd : (decide (l.length ≤ 100) && (decide (r.length ≤ 100) && decide (m.length ≤ 100))) with
  | false =>
    rw [hd] at hf
    go_enter Try.func4, Try.ntmps4
    go_wp2_with fail
    refine hf.mono ?_
    generalize w.alloc (.cells #[.slice a l.length cap, .slice b r.length cap1, .slice c m.length cap'] 22) = W0 at *
    rintro e w' ⟨rfl, rfl⟩
    go_wp2_with fail
    refine (works_true W0).mono ?_
    rintro e w1 ⟨rfl, b1⟩
    go_wp2_with fail
    go_ret
    exact ⟨rfl, HQ.out.trans (b1.mono HQ.out.size)⟩
  | true =>
    rw [hd] at hf
    go_enter Try.func4, Try.ntmps4
    go_wp2_with fail
    refine hf.mono ?_
    generalize w.alloc (.cells #[.slice a l.length cap, .slice b r.length cap1, .slice c m.length cap'] 22) = W0 at *
    rintro e w' ⟨rfl, rfl⟩
    clear hf
    go_wp2_with fail
    refine (Incl_any HA.out HR.out cap cap1).mono ?_
    rintro e W1 ⟨vx, rfl, n1, b1⟩
    replace HQ := Lib.hid (HQ.out.trans (b1.mono HQ.out.size))
    replace HA := Lib.hid (HA.out.keep b1)
    replace HB := Lib.hid (HB.out.keep b1)
    replace HR := Lib.hid (HR.out.keep b1)
    obtain ⟨ax, cx, rfl, j1⟩ := n1.ints
    have Hx := Lib.hid j1
    clear n1 j1 b1
    go_wp2_with fail
    refine (Incl_ref HA.out HR.out cap cap1 hc hc1).mono ?_
    rintro e W2 ⟨vy, rfl, n1, b1⟩
    replace HQ := Lib.hid (HQ.out.trans (b1.mono HQ.out.size))
    replace HA := Lib.hid (HA.out.keep b1)
    replace HB := Lib.hid (HB.out.keep b1)
    replace HR := Lib.hid (HR.out.keep b1)
    replace Hx := Lib.hid (Hx.out.keep b1)
    obtain ⟨ay, cy, rfl, j1⟩ := n1.ints
    have Hy := Lib.hid j1
    clear n1 j1 b1
    go_wp2_with fail
    have hs := is_any Hx.out Hy.out cx cy (rankErr l r) (rankErr l r)
    rw [show (decide (rankErr l r = rankErr l r) && decide (inclL l r = inclL l r)) = true by simp] at hs
    refine hs.mono ?_
    rintro e W3 ⟨rfl, b1⟩
    replace HQ := Lib.hid (HQ.out.trans (b1.mono HQ.out.size))
    replace HA := Lib.hid (HA.out.keep b1)
    replace HB := Lib.hid (HB.out.keep b1)
    replace HR := Lib.hid (HR.out.keep b1)
    clear b1 hs Hx Hy
    go_wp2_with fail
    refine (Excl_any HA.out HR.out cap cap1).mono ?_
    rintro e W4 ⟨vz, rfl, n1, b1⟩
    replace HQ := Lib.hid (HQ.out.trans (b1.mono HQ.out.size))
    replace HA := Lib.hid (HA.out.keep b1)
    replace HB := Lib.hid (HB.out.keep b1)
    replace HR := Lib.hid (HR.out.keep b1)
    obtain ⟨az, cz, rfl, j1⟩ := n1.ints
    have Hz := Lib.hid j1
    clear n1 j1 b1
    go_wp2_with fail
    refine (Excl_ref HA.out HR.out cap cap1 hc hc1).mono ?_
    rintro e W5 ⟨vu, rfl, n1, b1⟩
    replace HQ := Lib.hid (HQ.out.trans (b1.mono HQ.out.size))
    replace HA := Lib.hid (HA.out.keep b1)
    replace HB := Lib.hid (HB.out.keep b1)
    replace HR := Lib.hid (HR.out.keep b1)
    replace Hz := Lib.hid (Hz.out.keep b1)
    obtain ⟨au, cu, rfl, j1⟩ := n1.ints
    have Hu := Lib.hid j1
    clear n1 j1 b1
    go_wp2_with fail
    have hs := is_any Hz.out Hu.out cz cu (rankErr l r) (rankErr l r)
    rw [show (decide (rankErr l r = rankErr l r) && decide (exclL l r = exclL l r)) = true by simp] at hs
    refine hs.mono ?_
    rintro e W6 ⟨rfl, b1⟩
    replace HQ := Lib.hid (HQ.out.trans (b1.mono HQ.out.size))
    replace HA := Lib.hid (HA.out.keep b1)
    replace HB := Lib.hid (HB.out.keep b1)
    replace HR := Lib.hid (HR.out.keep b1)
    clear b1 hs Hz Hu
    go_wp2_with fail
    refine (Translate_any HA.out HR.out HB.out cap cap1 cap').mono ?_
    rintro e W7 ⟨vp, rfl, n1, b1⟩
    replace HQ := Lib.hid (HQ.out.trans (b1.mono HQ.out.size))
    replace HA := Lib.hid (HA.out.keep b1)
    replace HB := Lib.hid (HB.out.keep b1)
    replace HR := Lib.hid (HR.out.keep b1)
    obtain ⟨ap, cp, rfl, j1⟩ := n1.ints
    have Hp := Lib.hid j1
    clear n1 j1 b1
    go_wp2_with fail
    refine (Translate_ref HA.out HR.out HB.out cap cap1 cap' hc hc').mono ?_
    rintro e W8 ⟨vq, rfl, n1, b1⟩
    replace HQ := Lib.hid (HQ.out.trans (b1.mono HQ.out.size))
    replace HA := Lib.hid (HA.out.keep b1)
    replace HB := Lib.hid (HB.out.keep b1)
    replace HR := Lib.hid (HR.out.keep b1)
    replace Hp := Lib.hid (Hp.out.keep b1)
    obtain ⟨aq, cq, rfl, j1⟩ := n1.ints
    have Hq := Lib.hid j1
    clear n1 j1 b1
    go_wp2_with fail
    have hs := is_any Hp.out Hq.out cp cq (trE l m r) (trE l m r)
    rw [show (decide (trE l m r = trE l m r) && decide (trV l m r = trV l m r)) = true by simp] at hs
    refine hs.mono ?_
    rintro e W9 ⟨rfl, b1⟩
    replace HQ := Lib.hid (HQ.out.trans (b1.mono HQ.out.size))
    replace HA := Lib.hid (HA.out.keep b1)
    replace HB := Lib.hid (HB.out.keep b1)
    replace HR := Lib.hid (HR.out.keep b1)
    clear b1 hs Hp Hq
    go_wp2_with fail
    refine (works_true W9).mono ?_
    rintro e W10 ⟨rfl, b1⟩
    go_wp2_with fail
    go_ret
    exact ⟨rfl, HQ.out.trans (b1.mono HQ.out.size)⟩
end Go.Proofs.Ytoloiingodigpaa
