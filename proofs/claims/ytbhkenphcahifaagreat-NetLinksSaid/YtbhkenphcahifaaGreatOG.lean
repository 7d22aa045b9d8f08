import Derived.Test.YtbhkenphcahifaaGreatOF
import Derived.Test.YtbhkenphcahifaaGreatOA
namespace Go.Proofs.YtbhkenphcahifaaGreat
open Go.RowKit Go.Shelf
attribute [local go_sem] Oper.semAt_some
set_option maxRecDepth 100000
set_option maxHeartbeats 4000000

/-- the steps of a route: each switch with its class -/
def stepsL (kind : Int) (l : List Int) (x y : Int) : List (Int × Int) := if kind = 1 then torusL l x y else if kind = 2 then treeSteps l x y else dragSteps l x y
def rteL (kind : Int) (l : List Int) (hosts x y : Int) : List Int := if rteE kind l hosts x y = 0 then x :: (stepsL kind l x y).map (·.1) else []
def rteC (kind : Int) (l : List Int) (hosts x y : Int) : List Int := if rteE kind l hosts x y = 0 then (stepsL kind l x y).map (·.2) else []
theorem rte_ok {kind : Int} {l : List Int} {hosts x y : Int} (h : rteE kind l hosts x y = 0) : vOk kind l hosts ∧ inB (swI kind l) [x, y] = true ∧ y < hoI kind l := by
  unfold rteE at h
  by_cases h1 : vOk kind l hosts
  · rw [if_pos h1] at h
    by_cases h2 : inB (swI kind l) [x, y] = true
    · rw [if_pos h2] at h
      by_cases h3 : y < hoI kind l
      · exact ⟨h1, h2, h3⟩
      · rw [if_neg h3] at h; cases h
    · rw [if_neg h2] at h; cases h
  · rw [if_neg h1] at h; cases h
theorem Route_all {w : World} {sa : Option Addr} {l : List Int} (h : Ints w sa l) (sc : Nat) (kind hosts x y : Int) :
    Calls Tryz.prog 87 #[.agg #[.int .i64 kind, .slice sa l.length sc, .int .i64 hosts], .int .i64 x, .int .i64 y] w fun e w' => (∃ a c, e = .returned (.tuple #[.slice a (rteL kind l hosts x y).length c, .int .i64 (rteE kind l hosts x y)]) ∧ Ints w' a (rteL kind l hosts x y)) ∧ Below w.heap.size w w' := by
  by_cases hE : rteE kind l hosts x y = 0
  · obtain ⟨hv, hin, hy⟩ := rte_ok hE
    have hl : rteL kind l hosts x y = x :: (stepsL kind l x y).map (·.1) := if_pos hE
    rw [hl, hE]
    have key : Calls Tryz.prog 87 #[.agg #[.int .i64 kind, .slice sa l.length sc, .int .i64 hosts], .int .i64 x, .int .i64 y] w fun e w' => ∃ v, e = .returned (.tuple #[v, .int .i64 0]) ∧ NewInts w.heap.size w' v (x :: (stepsL kind l x y).map (·.1)) ∧ Below w.heap.size w w' := by
      rcases v_kind hv with rfl | rfl | rfl
      · exact Route_torus h sc hosts x y hv hin hy
      · exact Route_tree h sc hosts x y hv hin hy
      · exact Route_drag h sc hosts x y hv hin hy
    refine key.mono ?_
    rintro e w' ⟨v, rfl, hn, hb⟩
    obtain ⟨a, c, rfl, hi⟩ := hn.ints
    exact ⟨⟨a, c, rfl, hi⟩, hb⟩
  · have hl : rteL kind l hosts x y = [] := if_neg hE
    rw [hl]
    refine (Route_bad h sc kind hosts x y hE).mono ?_
    rintro e w' ⟨rfl, hb⟩
    exact ⟨⟨none, 0, rfl, ints_nil _⟩, hb⟩
theorem Classes_all {w : World} {sa : Option Addr} {l : List Int} (h : Ints w sa l) (sc : Nat) (kind hosts x y : Int) :
    Calls Tryz.prog 88 #[.agg #[.int .i64 kind, .slice sa l.length sc, .int .i64 hosts], .int .i64 x, .int .i64 y] w fun e w' => (∃ a c, e = .returned (.tuple #[.slice a (rteC kind l hosts x y).length c, .int .i64 (rteE kind l hosts x y)]) ∧ Ints w' a (rteC kind l hosts x y)) ∧ Below w.heap.size w w' := by
  by_cases hE : rteE kind l hosts x y = 0
  · obtain ⟨hv, hin, hy⟩ := rte_ok hE
    have hl : rteC kind l hosts x y = (stepsL kind l x y).map (·.2) := if_pos hE
    rw [hl, hE]
    have key : Calls Tryz.prog 88 #[.agg #[.int .i64 kind, .slice sa l.length sc, .int .i64 hosts], .int .i64 x, .int .i64 y] w fun e w' => ∃ v, e = .returned (.tuple #[v, .int .i64 0]) ∧ NewInts w.heap.size w' v ((stepsL kind l x y).map (·.2)) ∧ Below w.heap.size w w' := by
      rcases v_kind hv with rfl | rfl | rfl
      · exact Classes_torus h sc hosts x y hv hin hy
      · exact Classes_tree h sc hosts x y hv hin hy
      · exact Classes_drag h sc hosts x y hv hin hy
    refine key.mono ?_
    rintro e w' ⟨v, rfl, hn, hb⟩
    obtain ⟨a, c, rfl, hi⟩ := hn.ints
    exact ⟨⟨a, c, rfl, hi⟩, hb⟩
  · have hl : rteC kind l hosts x y = [] := if_neg hE
    rw [hl]
    refine (Classes_bad h sc kind hosts x y hE).mono ?_
    rintro e w' ⟨rfl, hb⟩
    exact ⟨⟨none, 0, rfl, ints_nil _⟩, hb⟩
theorem tree_spec (w : World) : Calls Tryz.prog 42 #[] w fun e w' => ∃ g, e = .returned (.agg #[.int .i64 2, .slice (some ⟨g, 0, none⟩) 2 2, .int .i64 2]) ∧ Ints w' (some ⟨g, 0, none⟩) [2, 3] ∧ Below w.heap.size w w' := by
  obtain ⟨hbx, q0, q1, hz⟩ := twoN w (.cells #[.int .i64 0, .slice none 0 0, .int .i64 0] 24) (.cells #[.int .i64 2, .int .i64 3] 3)
  have HB := Lib.hid hbx
  have Q0 := Lib.hid q0
  have HI := Lib.hid (ints_pair (w.alloc (.cells #[.int .i64 0, .slice none 0 0, .int .i64 0] 24)) 2 3)
  rw [show (w.alloc (.cells #[.int .i64 0, .slice none 0 0, .int .i64 0] 24)).heap.size = w.heap.size + 1 by simp] at HI
  have d0 := cellR 0 q0 rfl
  have d1 := cellR 1 q0 rfl
  have d2 := cellR 2 q0 rfl
  have f0 := frozen_of_row _ _ 0 _ _ q0
  have f1 := frozen_of_row _ _ 1 _ _ q0
  have f2 := frozen_of_row _ _ 2 _ _ q0
  have l1 := (Array.getElem?_eq_some_iff.1 q0).1
  clear hbx q0 q1 hz HI
  obtain ⟨hb9, hr, _, _⟩ := twoN w (.cells #[.int .i64 2, .slice (some ⟨w.heap.size + 1, 0, none⟩) 2 2, .int .i64 2] 24) (.cells #[.int .i64 2, .int .i64 3] 3)
  have hi9 := ints_pair (w.alloc (.cells #[.int .i64 2, .slice (some ⟨w.heap.size + 1, 0, none⟩) 2 2, .int .i64 2] 24)) 2 3
  rw [show (w.alloc (.cells #[.int .i64 2, .slice (some ⟨w.heap.size + 1, 0, none⟩) 2 2, .int .i64 2] 24)).heap.size = w.heap.size + 1 by simp] at hi9
  have HB9 := Lib.hid hb9
  have HR := Lib.hid hr
  have HI9 := Lib.hid hi9
  clear hb9 hr hi9
  go_enter Tryz.func42, Tryz.ntmps42
  go_wp2_with fail
  have hr := HR.out
  refine bodyPost_ret (v := .agg #[.int .i64 2, .slice (some ⟨w.heap.size + 1, 0, none⟩) 2 2, .int .i64 2]) ?_ rfl ⟨_, rfl, HI9.out, HB9.out⟩
  simp [results, Act.put, run_loadVar_row _ _ 24 24 _ _ _ hr Tryz.underlying24 rfl info24, Tryz.results42, asAddr]
theorem torus_spec (w : World) : Calls Tryz.prog 44 #[] w fun e w' => ∃ g, e = .returned (.agg #[.int .i64 1, .slice (some ⟨g, 0, none⟩) 2 2, .int .i64 1]) ∧ Ints w' (some ⟨g, 0, none⟩) [3, 4] ∧ Below w.heap.size w w' := by
  obtain ⟨hbx, q0, q1, hz⟩ := twoN w (.cells #[.int .i64 0, .slice none 0 0, .int .i64 0] 24) (.cells #[.int .i64 3, .int .i64 4] 3)
  have HB := Lib.hid hbx
  have Q0 := Lib.hid q0
  have HI := Lib.hid (ints_pair (w.alloc (.cells #[.int .i64 0, .slice none 0 0, .int .i64 0] 24)) 3 4)
  rw [show (w.alloc (.cells #[.int .i64 0, .slice none 0 0, .int .i64 0] 24)).heap.size = w.heap.size + 1 by simp] at HI
  have d0 := cellR 0 q0 rfl
  have d1 := cellR 1 q0 rfl
  have d2 := cellR 2 q0 rfl
  have f0 := frozen_of_row _ _ 0 _ _ q0
  have f1 := frozen_of_row _ _ 1 _ _ q0
  have f2 := frozen_of_row _ _ 2 _ _ q0
  have l1 := (Array.getElem?_eq_some_iff.1 q0).1
  clear hbx q0 q1 hz HI
  obtain ⟨hb9, hr, _, _⟩ := twoN w (.cells #[.int .i64 1, .slice (some ⟨w.heap.size + 1, 0, none⟩) 2 2, .int .i64 1] 24) (.cells #[.int .i64 3, .int .i64 4] 3)
  have hi9 := ints_pair (w.alloc (.cells #[.int .i64 1, .slice (some ⟨w.heap.size + 1, 0, none⟩) 2 2, .int .i64 1] 24)) 3 4
  rw [show (w.alloc (.cells #[.int .i64 1, .slice (some ⟨w.heap.size + 1, 0, none⟩) 2 2, .int .i64 1] 24)).heap.size = w.heap.size + 1 by simp] at hi9
  have HB9 := Lib.hid hb9
  have HR := Lib.hid hr
  have HI9 := Lib.hid hi9
  clear hb9 hr hi9
  go_enter Tryz.func44, Tryz.ntmps44
  go_wp2_with fail
  have hr := HR.out
  refine bodyPost_ret (v := .agg #[.int .i64 1, .slice (some ⟨w.heap.size + 1, 0, none⟩) 2 2, .int .i64 1]) ?_ rfl ⟨_, rfl, HI9.out, HB9.out⟩
  simp [results, Act.put, run_loadVar_row _ _ 24 24 _ _ _ hr Tryz.underlying24 rfl info24, Tryz.results44, asAddr]
theorem dragon_spec (w : World) : Calls Tryz.prog 46 #[] w fun e w' => ∃ g, e = .returned (.agg #[.int .i64 3, .slice (some ⟨g, 0, none⟩) 2 2, .int .i64 1]) ∧ Ints w' (some ⟨g, 0, none⟩) [2, 1] ∧ Below w.heap.size w w' := by
  obtain ⟨hbx, q0, q1, hz⟩ := twoN w (.cells #[.int .i64 0, .slice none 0 0, .int .i64 0] 24) (.cells #[.int .i64 2, .int .i64 1] 3)
  have HB := Lib.hid hbx
  have Q0 := Lib.hid q0
  have HI := Lib.hid (ints_pair (w.alloc (.cells #[.int .i64 0, .slice none 0 0, .int .i64 0] 24)) 2 1)
  rw [show (w.alloc (.cells #[.int .i64 0, .slice none 0 0, .int .i64 0] 24)).heap.size = w.heap.size + 1 by simp] at HI
  have d0 := cellR 0 q0 rfl
  have d1 := cellR 1 q0 rfl
  have d2 := cellR 2 q0 rfl
  have f0 := frozen_of_row _ _ 0 _ _ q0
  have f1 := frozen_of_row _ _ 1 _ _ q0
  have f2 := frozen_of_row _ _ 2 _ _ q0
  have l1 := (Array.getElem?_eq_some_iff.1 q0).1
  clear hbx q0 q1 hz HI
  obtain ⟨hb9, hr, _, _⟩ := twoN w (.cells #[.int .i64 3, .slice (some ⟨w.heap.size + 1, 0, none⟩) 2 2, .int .i64 1] 24) (.cells #[.int .i64 2, .int .i64 1] 3)
  have hi9 := ints_pair (w.alloc (.cells #[.int .i64 3, .slice (some ⟨w.heap.size + 1, 0, none⟩) 2 2, .int .i64 1] 24)) 2 1
  rw [show (w.alloc (.cells #[.int .i64 3, .slice (some ⟨w.heap.size + 1, 0, none⟩) 2 2, .int .i64 1] 24)).heap.size = w.heap.size + 1 by simp] at hi9
  have HB9 := Lib.hid hb9
  have HR := Lib.hid hr
  have HI9 := Lib.hid hi9
  clear hb9 hr hi9
  go_enter Tryz.func46, Tryz.ntmps46
  go_wp2_with fail
  have hr := HR.out
  refine bodyPost_ret (v := .agg #[.int .i64 3, .slice (some ⟨w.heap.size + 1, 0, none⟩) 2 2, .int .i64 1]) ?_ rfl ⟨_, rfl, HI9.out, HB9.out⟩
  simp [results, Act.put, run_loadVar_row _ _ 24 24 _ _ _ hr Tryz.underlying24 rfl info24, Tryz.results46, asAddr]
theorem routes_any {w : World} {sa pa qa : Option Addr} {l P C : List Int} (h : Ints w sa l) (hp : Ints w pa P) (hc : Ints w qa C) (sc pc qc : Nat) (kind hosts x y : Int) (hE : rteE kind l hosts x y = 0) (hP : rteL kind l hosts x y = P) (hC : rteC kind l hosts x y = C) :
    Calls Tryz.prog 45 #[.agg #[.int .i64 kind, .slice sa l.length sc, .int .i64 hosts], .int .i64 x, .int .i64 y, .slice pa P.length pc, .slice qa C.length qc] w fun e w' => e = .returned (.bool true) ∧ Below w.heap.size w w' := by
  have H21 := Lib.hid (fun W (hb : Below w.heap.size w W) => Route_all (h.keep hb) sc kind hosts x y)
  have H23 := Lib.hid (fun W (hb : Below w.heap.size w W) => Classes_all (h.keep hb) sc kind hosts x y)
  rw [hE, hP] at H21
  rw [hE, hC] at H23
  have H20 := Lib.hid (fun (W : World) (a b : Option Addr) (m : List Int) (ha : Ints W a m) (hb : Ints W b m) (ca cb : Nat) => equal_any ha hb ca cb)
  have HPP := Lib.hid hp
  have HCC := Lib.hid hc
  have hPd : decide (P = P) = true := decide_eq_true rfl
  have hCd : decide (C = C) = true := decide_eq_true rfl
  have HB := Lib.hid ((Below.refl w.heap.size w).alloc (Nat.le_refl _) (.cells #[.int .i64 kind, .slice sa l.length sc, .int .i64 hosts] 24))
  have Q0 := Lib.hid (heap_alloc_new w (.cells #[.int .i64 kind, .slice sa l.length sc, .int .i64 hosts] 24))
  have c0 := cellR 0 Q0.out rfl
  have c1 := cellR 1 Q0.out rfl
  have c2 := cellR 2 Q0.out rfl
  clear h hp hc hE hP hC
  generalize l.length = N at *
  go_enter Tryz.func45, Tryz.ntmps45
  go_wp2_with fail
  generalize w.alloc (.cells #[.int .i64 kind, .slice sa N sc, .int .i64 hosts] 24) = X at *
  refine (H21.out _ HB.out).mono ?_
  rintro e w1 ⟨⟨a1, k1, rfl, i1⟩, hb⟩
  have I1 := Lib.hid i1
  replace Q0 := Lib.hid (heapB hb Q0.out)
  replace HB := Lib.hid (HB.out.trans (hb.mono HB.out.size))
  clear H21 hb i1 c0 c1 c2
  have c0 := cellR 0 Q0.out rfl
  have c1 := cellR 1 Q0.out rfl
  have c2 := cellR 2 Q0.out rfl
  go_wp2_with fail
  refine (H23.out _ HB.out).mono ?_
  rintro e w2 ⟨⟨a2, k2, rfl, i2⟩, hb⟩
  have I2 := Lib.hid i2
  replace I1 := Lib.hid (I1.out.keep hb)
  replace HB := Lib.hid (HB.out.trans (hb.mono HB.out.size))
  clear H23 hb i2 c0 c1 c2 Q0
  go_wp2_with fail
  refine (H20.out _ _ _ _ I1.out (HPP.out.keep HB.out) _ _).mono ?_
  rintro e w3 ⟨rfl, hb⟩
  rw [hPd]
  replace I2 := Lib.hid (I2.out.keep hb)
  replace HB := Lib.hid (HB.out.trans (hb.mono HB.out.size))
  clear hb I1 HPP
  go_wp2_with fail
  refine (H20.out _ _ _ _ I2.out (HCC.out.keep HB.out) _ _).mono ?_
  rintro e w4 ⟨rfl, hb⟩
  rw [hCd]
  replace HB := Lib.hid (HB.out.trans (hb.mono HB.out.size))
  clear hb I2 HCC H20
  go_wp2_with fail
  go_ret
  exact ⟨rfl, HB.out⟩
end Go.Proofs.YtbhkenphcahifaaGreat
