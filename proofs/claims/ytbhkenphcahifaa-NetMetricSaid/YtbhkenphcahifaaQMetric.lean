/-
  NetMetric returns true at every description of a network and switches, and its arguments read afterwards as they read before. Conditions: none.
-/
import Derived.Test.YtbhkenphcahifaaQNC
import Derived.Test.YtbhkenphcahifaaPI
import Derived.Test.YtbhkenphcahifaaRows
import Derived.Test.YtbhkenphcahifaaOI
import Derived.WalkKit
import Derived.ProofKit
import Derived.OpenShut
import Derived.Carry
import Derived.SizedLaws
namespace Go.Proofs.Ytbhkenphcahifaa
open Go.RowKit Go.Shelf
attribute [local go_sem] Oper.semAt_some
set_option maxRecDepth 100000
set_option maxHeartbeats 4000000

theorem NetPaths_bad {w : World} {sa : Option Addr} {l : List Int} (h : Ints w sa l) (sc : Nat) (kind hosts a b : Int) (hv : ¬ vOk kind l hosts) :
    Calls Try.prog 6 #[.agg #[.int .i64 kind, .slice sa l.length sc, .int .i64 hosts], .int .u8 a, .int .u8 b] w fun e w' => e = .returned (.bool true) ∧ Below w.heap.size w w' := by
  have HB := Lib.hid ((Below.refl w.heap.size w).alloc (Nat.le_refl _) (.cells #[.int .i64 kind, .slice sa l.length sc, .int .i64 hosts] 24))
  have Q0 := Lib.hid (heap_alloc_new w (.cells #[.int .i64 kind, .slice sa l.length sc, .int .i64 hosts] 24))
  have c0 := cellR 0 Q0.out rfl
  have c1 := cellR 1 Q0.out rfl
  have c2 := cellR 2 Q0.out rfl
  have H25 := Lib.hid (size_any (h.keep HB.out) sc kind hosts 256)
  rw [show szM kind l hosts 256 = 0 from if_neg fun h => hv h.1, show hoM kind l hosts 256 = 0 from if_neg fun h => hv h.1] at H25
  have H21 := Lib.hid (fun (W : World) (hb : Below w.heap.size w W) => Route_all (h.keep hb) sc kind hosts 0 0)
  rw [show rteE kind l hosts 0 0 = 2 from if_neg hv] at H21
  have HWK := Lib.hid works_any
  clear h hv
  generalize (rteL kind l hosts 0 0) = RL at *
  generalize l.length = N at *
  go_enter Try.func6, Try.ntmps6
  go_wp2_with fail
  generalize w.alloc (.cells #[.int .i64 kind, .slice sa N sc, .int .i64 hosts] 24) = X at *
  clear c0 c1 c2
  refine H25.out.mono ?_
  rintro e w1 ⟨rfl, hb1⟩
  have HB1 := Lib.hid (HB.out.trans (hb1.mono HB.out.size))
  have q1 := heapB hb1 Q0.out
  have c0 := cellR 0 q1 rfl
  have c1 := cellR 1 q1 rfl
  have c2 := cellR 2 q1 rfl
  have H21b := Lib.hid (H21.out w1 HB1.out)
  clear H25 hb1 Q0 HB H21
  go_wp2_with fail
  refine H21b.out.mono ?_
  rintro e w2 ⟨⟨av, cv, rfl, _⟩, hb2⟩
  have HB2 := Lib.hid (HB1.out.trans (hb2.mono HB1.out.size))
  clear H21b hb2 c0 c1 c2 q1
  generalize RL.length = RN at *
  go_wp2_with fail
  refine (HWK.out w2).mono ?_
  rintro e w3 ⟨rfl, hb3⟩
  have HB3 := Lib.hid (HB2.out.trans (hb3.mono HB2.out.size))
  clear hb3
  go_wp2_with fail
  go_ret
  exact ⟨rfl, HB3.out⟩
theorem NetPaths_ok {w : World} {sa : Option Addr} {l : List Int} (h : Ints w sa l) (sc : Nat) (kind hosts a b : Int) (hv : vOk kind l hosts) (ha : 0 ≤ a) (hb : 0 ≤ b) (ha2 : a ≤ 255) (hb2 : b ≤ 255) :
    Calls Try.prog 6 #[.agg #[.int .i64 kind, .slice sa l.length sc, .int .i64 hosts], .int .u8 a, .int .u8 b] w fun e w' => e = .returned (.bool true) ∧ Below w.heap.size w w' := by
  have HB := Lib.hid ((Below.refl w.heap.size w).alloc (Nat.le_refl _) (.cells #[.int .i64 kind, .slice sa l.length sc, .int .i64 hosts] 24))
  have Q0 := Lib.hid (heap_alloc_new w (.cells #[.int .i64 kind, .slice sa l.length sc, .int .i64 hosts] 24))
  have c0 := cellR 0 Q0.out rfl
  have c1 := cellR 1 Q0.out rfl
  have c2 := cellR 2 Q0.out rfl
  have H25 := Lib.hid (size_any (h.keep HB.out) sc kind hosts 256)
  have hsm := sw_max hv
  obtain ⟨b1, b2, b3, b4, b5, b6⟩ := v_bound hv
  rw [show szM kind l hosts 256 = swI kind l from if_pos ⟨hv, hsm⟩, show hoM kind l hosts 256 = hoI kind l from if_pos ⟨hv, hsm⟩] at H25
  obtain ⟨x, hx⟩ : ∃ x, x = a % swI kind l := ⟨_, rfl⟩
  obtain ⟨y, hy⟩ : ∃ y, y = b % hoI kind l := ⟨_, rfl⟩
  have hx0 : 0 ≤ x := by rw [hx]; exact Int.emod_nonneg _ (by omega)
  have hx1 : x < swI kind l := by rw [hx]; exact Int.emod_lt_of_pos _ (by omega)
  have hy0 : 0 ≤ y := by rw [hy]; exact Int.emod_nonneg _ (by omega)
  have hy1 : y < hoI kind l := by rw [hy]; exact Int.emod_lt_of_pos _ (by omega)
  have hE : rteE kind l hosts x y = 0 := by
    obtain ⟨xn, rfl⟩ := Int.eq_ofNat_of_zero_le hx0
    obtain ⟨yn, rfl⟩ := Int.eq_ofNat_of_zero_le hy0
    exact rte_zero hv hx1 hy1
  obtain ⟨r1, r2, r3⟩ := net_route hv hx0 hx1 hy0 hy1
  have hlen := stepsL_len hE
  have H21 := Lib.hid (fun (W : World) (hb : Below w.heap.size w W) => Route_new (h.keep hb) sc kind hosts x y hE)
  have H23 := Lib.hid (fun (W : World) (hb : Below w.heap.size w W) => Classes_new (h.keep hb) sc kind hosts x y hE)
  have H26 := Lib.hid (fun (W : World) (hb : Below w.heap.size w W) => Distance_ok (h.keep hb) sc kind hosts (x := x) (y := y) hv hx0 hx1 hy0 (by omega))
  have H31 := Lib.hid (fun (W : World) (hb : Below w.heap.size w W) (pa : Option Addr) (pc : Nat) (hp : Ints W pa (x :: (stepsL kind l x y).map (·.1))) => path_ok (h.keep hb) sc kind hosts hv hp pc hx0 hx1 (by simpa using hlen) r1)
  have HWK := Lib.hid works_any
  have HD : Hid (∀ d, DistAt (nbS kind l) y x d → (kind = 3 → ((stepsL kind l x y).length : Int) ≤ 3 ∧ ((stepsL kind l x y).length : Int) ≤ d + 1) ∧ (kind ≠ 3 → ((stepsL kind l x y).length : Int) = d) ∧ 0 ≤ d ∧ d ≤ ((stepsL kind l x y).length : Int)) := by
    intro d hd
    have hw := Chain.back (P := fun z => 0 ≤ z ∧ z < swI kind l) (fun a ha z hz => net_sym hv ha.1 ha.2 z hz) _ x ⟨hx0, hx1⟩ r1
    rw [List.length_map] at hw
    have hdb : 0 ≤ d ∧ d ≤ ((stepsL kind l x y).length : Int) := by
      rcases hd with ⟨_, hno⟩ | ⟨k, rfl, hwk, hmin⟩
      · exact absurd hw (hno _)
      · exact ⟨by omega, by have := hmin _ hw; omega⟩
    refine ⟨fun hk => ?_, fun hk => (r2 hk).unique hd, hdb⟩
    obtain ⟨q1, q2⟩ := r3 hk
    refine ⟨by omega, ?_⟩
    rcases hd with ⟨_, hno⟩ | ⟨k, rfl, hwk, _⟩
    · exact absurd hw (hno _)
    · have := q2 k hwk; omega
  simp only [List.length_map] at H31
  have hne1 : swI kind l ≠ 0 := by omega
  have hne2 : hoI kind l ≠ 0 := by omega
  have d1 : (swI kind l == 0) = false := by simp; omega
  have d2 : decide (hoI kind l < 1) = false := decide_eq_false (by omega)
  have HX := Lib.hid hx
  have HY := Lib.hid hy
  have hln : (stepsL kind l x y).length ≤ 100000 := hlen
  have hxs : x ≤ 1000 := by omega
  have hys : y ≤ 1000 := by omega
  clear h hv r1 r2 r3 hE hlen hx hy hx1 hy1 hsm b1 b2 b3 b4 b5 b6
  generalize (stepsL kind l x y).length = SL at *
  generalize swI kind l = n at *
  generalize hoI kind l = m at *
  generalize l.length = N at *
  go_enter Try.func6, Try.ntmps6
  go_wp2_with fail
  generalize w.alloc (.cells #[.int .i64 kind, .slice sa N sc, .int .i64 hosts] 24) = X at *
  clear c0 c1 c2
  refine H25.out.mono ?_
  rintro e w1 ⟨rfl, hb1⟩
  have HB1 := Lib.hid (HB.out.trans (hb1.mono HB.out.size))
  have Q1 := Lib.hid (heapB hb1 Q0.out)
  clear H25 hb1 Q0 HB
  go_wp2_with fail
  go_quiet (fail)
  rw [← HX.out, ← HY.out]
  have HB2 : Hid (Below w.heap.size w (w1.drewN nq)) := below_drewN HB1.out _
  have Q2 : Hid ((w1.drewN nq).heap[w.heap.size]? = some (.cells #[.int .i64 kind, .slice sa N sc, .int .i64 hosts] 24 (0, 0))) := Q1.out
  clear HB1 Q1 HX HY ha hb ha2 hb2
  generalize w1.drewN nq = W2 at *
  have c0 := cellR 0 Q2.out rfl
  have c1 := cellR 1 Q2.out rfl
  have c2 := cellR 2 Q2.out rfl
  have K21 := Lib.hid (H21.out W2 HB2.out)
  clear H21
  go_wp2_with fail
  refine K21.out.mono ?_
  rintro e w3 ⟨⟨pa, pc, rfl, hpi, _⟩, hb3⟩
  have HB3 := Lib.hid (HB2.out.trans (hb3.mono HB2.out.size))
  have Q3 := Lib.hid (heapB hb3 Q2.out)
  have HPI := Lib.hid hpi
  clear K21 hb3 hpi c0 c1 c2 Q2 HB2
  have c0 := cellR 0 Q3.out rfl
  have c1 := cellR 1 Q3.out rfl
  have c2 := cellR 2 Q3.out rfl
  have K23 := Lib.hid (H23.out w3 HB3.out)
  clear H23
  go_wp2_with fail
  refine K23.out.mono ?_
  rintro e w4 ⟨⟨qa, qc, rfl, _, _⟩, hb4⟩
  have HB4 := Lib.hid (HB3.out.trans (hb4.mono HB3.out.size))
  have Q4 := Lib.hid (heapB hb4 Q3.out)
  have HP4 := Lib.hid (HPI.out.keep hb4)
  clear K23 hb4 c0 c1 c2 Q3 HB3 HPI
  have c0 := cellR 0 Q4.out rfl
  have c1 := cellR 1 Q4.out rfl
  have c2 := cellR 2 Q4.out rfl
  have K26 := Lib.hid (H26.out w4 HB4.out)
  clear H26
  go_wp2_with fail
  refine K26.out.mono ?_
  rintro e w5 ⟨d, rfl, hd, hb5⟩
  have HB5 := Lib.hid (HB4.out.trans (hb5.mono HB4.out.size))
  have Q5 := Lib.hid (heapB hb5 Q4.out)
  have HP5 := Lib.hid (HP4.out.keep hb5)
  have HDD := Lib.hid (HD.out d hd)
  clear K26 hb5 c0 c1 c2 Q4 HB4 HP4 hd HD
  have c0 := cellR 0 Q5.out rfl
  have c1 := cellR 1 Q5.out rfl
  have c2 := cellR 2 Q5.out rfl
  have K31 := Lib.hid (H31.out w5 HB5.out pa pc HP5.out)
  clear H31
  go_wp2_with fail
  refine K31.out.mono ?_
  rintro e w6 ⟨rfl, hb6⟩
  have HB6 := Lib.hid (HB5.out.trans (hb6.mono HB5.out.size))
  have Q6 := Lib.hid (heapB hb6 Q5.out)
  clear K31 hb6 c0 c1 c2 Q5 HB5 HP5
  have c0 := cellR 0 Q6.out rfl
  have hss : ((SL : Int) != (SL : Int)) = false := by simp
  have g3 := HDD.out.2.2.1
  have g4 := HDD.out.2.2.2
  have K10 := Lib.hid (HWK.out w6)
  clear HWK
  by_cases hk : kind = 3
  · subst hk
    obtain ⟨g1, g2⟩ := HDD.out.1 rfl
    go_wp2_with fail
    refine K10.out.mono ?_
    rintro e w7 ⟨rfl, hb7⟩
    have HB7 := Lib.hid (HB6.out.trans (hb7.mono HB6.out.size))
    clear hb7
    go_wp2_with fail
    go_ret
    exact ⟨rfl, HB7.out⟩
  · have g1 := HDD.out.2.1 hk
    have e1 : (kind == 3) = false := by simpa using hk
    have e2 : ((SL : Int) == d) = true := by simp [g1]
    go_wp2_with fail
    refine K10.out.mono ?_
    rintro e w7 ⟨rfl, hb7⟩
    have HB7 := Lib.hid (HB6.out.trans (hb7.mono HB6.out.size))
    clear hb7
    go_wp2_with fail
    go_ret
    exact ⟨rfl, HB7.out⟩
theorem u8_range {a : Int} (h : (Lit.int .u8 a).wf = true) : 0 ≤ a ∧ a ≤ 255 := by
  simp only [Lit.wf, Bool.and_eq_true, decide_eq_true_eq] at h; exact h
theorem NetPaths_walk {w : World} {sa : Option Addr} {l : List Int} (h : Ints w sa l) (sc : Nat) (kind hosts : Int) {a b : Int} (ha : (Lit.int .u8 a).wf = true) (hb : (Lit.int .u8 b).wf = true) :
    Calls Try.prog 6 #[.agg #[.int .i64 kind, .slice sa l.length sc, .int .i64 hosts], .int .u8 a, .int .u8 b] w fun e w' => e = .returned (.bool true) ∧ Below w.heap.size w w' := by
  by_cases hv : vOk kind l hosts
  · exact NetPaths_ok h sc kind hosts a b hv (u8_range ha).1 (u8_range hb).1 (u8_range ha).2 (u8_range hb).2
  · exact NetPaths_bad h sc kind hosts a b hv
end Go.Proofs.Ytbhkenphcahifaa

namespace Go.Proofs.Ytbhkenphcahifaa
open Go.RowKit Go.Shelf
attribute [local go_sem] Oper.semAt_some
set_option maxRecDepth 100000
set_option maxHeartbeats 4000000

theorem nbS_len {kind : Int} {l : List Int} {hosts : Int} (hv : vOk kind l hosts) (x : Int) : (nbS kind l x).length ≤ 100000 := by
  rcases v_kind hv with rfl | rfl | rfl
  · obtain ⟨⟨k1, k2⟩, hs⟩ := tOk_sides (torus_v hv)
    have e : nbS 1 l x = nbL l x := by simp [nbS]
    rw [e]
    have h2 : (nbL l x).length ≤ (sortL (nbK l x l.length)).length := Lib.compact_length_le _
    rw [sort_len, nbK_len] at h2
    omega
  · have e : nbS 2 l x = nbT (l.getD 0 0).toNat (l.getD 1 0).toNat x := by unfold nbS; rw [if_neg (by decide), if_pos rfl]
    rw [e]
    obtain ⟨k, lv, hk, hlv, e0, e1, e2, e3⟩ := tree_nums hv
    have hr : rOk l hosts := by
      rcases hv with ⟨q0, q1⟩ | ⟨q0, q1⟩ | ⟨q0, q1⟩
      · cases q0
      · exact q1
      · cases q0
    have hk8 := hr.2.1
    rw [e0, e1]
    rw [e0] at hk8
    simp only [Int.toNat_natCast]
    unfold nbT lvT
    rw [List.length_append]
    have a1 : (if 0 < (x / ((k ^ (lv - 1) : Nat) : Int)).toNat then dnT k ((k ^ (lv - 1) : Nat) : Int) ((x / ((k ^ (lv - 1) : Nat) : Int)).toNat - 1) (x % ((k ^ (lv - 1) : Nat) : Int)) k else []).length ≤ k := by
      split
      · rw [dnT_len]; exact Nat.le_refl _
      · simp
    have a2 : (if (x / ((k ^ (lv - 1) : Nat) : Int)).toNat < lv - 1 then upT k ((k ^ (lv - 1) : Nat) : Int) (x / ((k ^ (lv - 1) : Nat) : Int)).toNat (x % ((k ^ (lv - 1) : Nat) : Int)) k else []).length ≤ k := by
      split
      · rw [upT_len]; exact Nat.le_refl _
      · simp
    omega
  · have e : nbS 3 l x = nbD (l.getD 0 0).toNat (l.getD 1 0).toNat x := by unfold nbS; rw [if_neg (by decide), if_neg (by decide)]
    rw [e]
    obtain ⟨a, hh, _, _, e0, e1, _, _⟩ := drag_nums hv
    have hr : dOk l hosts := by
      rcases hv with ⟨q0, q1⟩ | ⟨q0, q1⟩ | ⟨q0, q1⟩
      · cases q0
      · cases q0
      · exact q1
    have h8 := hr.2.2.1
    have h9 := hr.2.2.2.1
    rw [e0] at h8
    rw [e1] at h9
    rw [e0, e1]
    simp only [Int.toNat_natCast]
    unfold nbD
    rw [sort_len, List.length_append, dgB_len]
    have := dgA_len a (x / (a : Int)) (x % (a : Int)) a
    omega
/-- networks are connected -/
theorem net_walk {kind : Int} {l : List Int} {hosts : Int} (hv : vOk kind l hosts) {x y : Int} (h0 : 0 ≤ x) (h1 : x < swI kind l) (g0 : 0 ≤ y) (g1 : y < swI kind l) : ∃ k, k ≤ 200000 ∧ Walk (nbS kind l) y x k := by
  have hb := v_bound hv
  have hS : ∀ a, (0 ≤ a ∧ a < swI kind l) → ∀ z ∈ nbS kind l a, (0 ≤ z ∧ z < swI kind l) ∧ a ∈ nbS kind l z := fun a ha z hz => net_sym hv ha.1 ha.2 z hz
  have key : ∀ a, 0 ≤ a → a < swI kind l → ∃ k, k ≤ 100000 ∧ Walk (nbS kind l) 0 a k := fun a a0 a1 => by
    obtain ⟨an, rfl⟩ := Int.eq_ofNat_of_zero_le a0
    have hE := rte_zero hv (x := an) (y := 0) a1 (by omega)
    have hr := (net_route hv (x := (an : Int)) (y := 0) a0 a1 (by omega) (by omega)).1
    have hw := Chain.back hS _ (an : Int) ⟨a0, a1⟩ hr
    rw [List.length_map] at hw
    exact ⟨_, stepsL_len hE, hw⟩
  obtain ⟨k, hk, wk⟩ := key x h0 h1
  obtain ⟨j, hj, wj⟩ := key y g0 g1
  exact ⟨j + k, by omega, (wj.turn hS ⟨by omega, by omega⟩).trans wk⟩
theorem dist_small {kind : Int} {l : List Int} {hosts : Int} (hv : vOk kind l hosts) {x y d : Int} (h0 : 0 ≤ x) (h1 : x < swI kind l) (g0 : 0 ≤ y) (g1 : y < swI kind l) (hd : DistAt (nbS kind l) y x d) : ∃ k : Nat, d = (k : Int) ∧ k ≤ 200000 ∧ Walk (nbS kind l) y x k ∧ ∀ j, Walk (nbS kind l) y x j → k ≤ j := by
  obtain ⟨k, hk, wk⟩ := net_walk hv h0 h1 g0 g1
  rcases hd with ⟨_, hno⟩ | ⟨j, rfl, hj, hm⟩
  · exact absurd wk (hno _)
  · exact ⟨j, rfl, by have := hm _ wk; omega, hj, hm⟩
/-- the neighbors that are nearer -/
def nearL (dl : List Int) (x : Nat) (L : List Int) : List Int := L.filter fun z => dl.getD z.toNat 0 == dl.getD x 0 - 1
theorem nearL_snoc (dl : List Int) (x : Nat) (L : List Int) (z : Int) : nearL dl x (L ++ [z]) = nearL dl x L ++ (if (dl.getD z.toNat 0 == dl.getD x 0 - 1) = true then [z] else []) := by
  unfold nearL
  rw [List.filter_append]
  congr 1
  by_cases h : (dl.getD z.toNat 0 == dl.getD x 0 - 1) = true
  · simp only [h, List.filter_cons, List.filter_nil, if_true]
  · simp only [h, List.filter_cons, List.filter_nil, if_false]
theorem Hops_ok {w : World} {sa : Option Addr} {l : List Int} (h : Ints w sa l) (sc : Nat) (kind hosts : Int) {xn yn : Nat} (hv : vOk kind l hosts) (h1 : (xn : Int) < swI kind l) (g1 : (yn : Int) < swI kind l) :
    Calls Try.prog 28 #[.agg #[.int .i64 kind, .slice sa l.length sc, .int .i64 hosts], .int .i64 (xn : Int), .int .i64 (yn : Int)] w fun e w' => ∃ v dl, e = .returned (.tuple #[v, .int .i64 0]) ∧ (∀ a : Nat, (a : Int) < swI kind l → DistAt (nbS kind l) (yn : Int) (a : Int) (dl.getD a 0)) ∧ NewInts w.heap.size w' v (nearL dl xn (nbS kind l (xn : Int))) ∧ Below w.heap.size w w' := by
  obtain ⟨X, hX⟩ : ∃ X, X = ((w.alloc (.cells #[.int .i64 kind, .slice sa l.length sc, .int .i64 hosts] 24)).alloc (.cells #[.int .i64 (xn : Int)] 3)).alloc (.cells #[.int .i64 (xn : Int), .int .i64 (yn : Int)] 3) := ⟨_, rfl⟩
  have hb2 : Below w.heap.size w ((w.alloc (.cells #[.int .i64 kind, .slice sa l.length sc, .int .i64 hosts] 24)).alloc (.cells #[.int .i64 (xn : Int)] 3)) := ((Below.refl _ _).alloc (Nat.le_refl _) _).alloc (by simp) _
  have hbx : Below w.heap.size w X := by rw [hX]; exact hb2.alloc (by simp <;> omega) _
  have q0 : ((w.alloc (.cells #[.int .i64 kind, .slice sa l.length sc, .int .i64 hosts] 24)).alloc (.cells #[.int .i64 (xn : Int)] 3)).heap[w.heap.size]? = some (.cells #[.int .i64 kind, .slice sa l.length sc, .int .i64 hosts] 24 (0, 0)) := (Below.heap_alloc _ _ _ (by simp)).trans (heap_alloc_new w _)
  have q1 : ((w.alloc (.cells #[.int .i64 kind, .slice sa l.length sc, .int .i64 hosts] 24)).alloc (.cells #[.int .i64 (xn : Int)] 3)).heap[w.heap.size + 1]? = some (.cells #[.int .i64 (xn : Int)] 3 (0, 0)) := by
    have := heap_alloc_new (w.alloc (.cells #[.int .i64 kind, .slice sa l.length sc, .int .i64 hosts] 24)) (.cells #[.int .i64 (xn : Int)] 3)
    rwa [World.size_alloc] at this
  have p1 : X.heap[w.heap.size + 1]? = some (.cells #[.int .i64 (xn : Int)] 3 (0, 0)) := by rw [hX]; exact (Below.heap_alloc _ _ _ (by simp)).trans q1
  have p2 : X.heap[w.heap.size + 2]? = some (.cells #[.int .i64 (xn : Int), .int .i64 (yn : Int)] 3 (0, 0)) := by
    rw [hX]
    have := heap_alloc_new ((w.alloc (.cells #[.int .i64 kind, .slice sa l.length sc, .int .i64 hosts] 24)).alloc (.cells #[.int .i64 (xn : Int)] 3)) (.cells #[.int .i64 (xn : Int), .int .i64 (yn : Int)] 3)
    rwa [World.size_alloc, World.size_alloc] at this
  have c0 := cellR 0 (heap_alloc_new w (.cells #[.int .i64 kind, .slice sa l.length sc, .int .i64 hosts] 24)) rfl
  have k0 := cellR 0 q0 rfl
  have k1 := cellR 1 q0 rfl
  have k2 := cellR 2 q0 rfl
  have k3 := cellR 0 q1 rfl
  obtain ⟨ty, fs, fn, rcv, sw, hnv, hse, hsl, hnk⟩ := netK (h.keep hbx) sc hv
  have hin : inB (swI kind l) [(xn : Int), (yn : Int)] = true := by simp [inB]; omega
  have hi : Ints X (some ⟨w.heap.size + 2, 0, none⟩) [(xn : Int), (yn : Int)] := by
    have hra : RowAt X (w.heap.size + 2) [(xn : Int), (yn : Int)] := by
      unfold RowAt; rw [p2]; rw [show rowA [(xn : Int), (yn : Int)] = #[.int .i64 (xn : Int), .int .i64 (yn : Int)] by unfold rowA; rfl]
    exact hra.ints (by simp)
  have HC := Lib.hid (networkWith_any (h.keep hbx) hi sc 2 kind hosts)
  rw [show withV kind sa sc l hosts [(xn : Int), (yn : Int)] = .tuple #[.iface ty rcv, .int .i64 0] by unfold withV; rw [if_pos hv, if_pos hin, hnv]] at HC
  have hsy : ∀ a : Nat, a < sw → ∀ z ∈ nbS kind l (a : Int), 0 ≤ z ∧ z < (sw : Int) := fun a ha z hz => by
    have := (net_sym hv (x := (a : Int)) (by omega) (by omega) z hz).1
    omega
  rw [← hse] at h1 g1
  have HXL : Hid (xn < sw) := by show _ < _; omega
  have HYL : Hid (yn < sw) := by show _ < _; omega
  have HK := Lib.hid hnk
  have HSY := Lib.hid hsy
  have HSL := Lib.hid hsl
  have HB := Lib.hid hbx
  have HP1 := Lib.hid p1
  have hmn := hnk.mn
  have hen := hnk.en
  have HSE := Lib.hid hse
  have HLN := Lib.hid (nbS_len hv (xn : Int))
  have HDS : Hid (∀ (a : Nat) d, a < sw → DistAt (nbS kind l) (yn : Int) (a : Int) d → 0 ≤ d ∧ d ≤ 200000) := fun a d ha hd => by
    obtain ⟨k, rfl, hk, _⟩ := dist_small hv (x := (a : Int)) (y := (yn : Int)) (by omega) (by omega) (by omega) (by omega) hd
    omega
  have hz : Hid (X.heap.size = w.heap.size + 3) := by show _ = _; rw [hX]; simp
  simp only [List.length_cons, List.length_nil, Nat.reduceAdd] at HC
  rw [hX] at HC
  have HXE := Lib.hid hX
  clear h hbx q0 q1 hi hv hin hnv hse hnk hsy h1 g1 hsl hb2 p1 p2 hX
  generalize l.length = M at *
  refine (callsIn_wide (n := 4)).1 ?_
  refine callsIn_of_wp_marks Try.func28 rfl trivial ?_ rfl
  simp only [Try.ntmps28, List.size_toArray, List.length_cons, List.length_nil, Nat.reduceAdd, Nat.reduceSub, Array.replicate_succ, Array.replicate_zero, List.push_toArray, List.append_toArray, List.nil_append, List.cons_append]
  gi_wp2
  refine ⟨trivial, callsIn_wide.2 (HC.out.mono ?_)⟩
  rw [← HXE.out]
  rintro e w1 ⟨rfl, hb1⟩
  have HB1 := Lib.hid (HB.out.trans (hb1.mono (by rw [hz.out]; omega)))
  have HP2 := Lib.hid (heapB hb1 HP1.out)
  have HK1 := Lib.hid (HK.out.later hb1)
  have HZ1 : Hid (X.heap.size ≤ w1.heap.size) := hb1.size
  have HD := Lib.hid (distances_any (lo := X.heap.size) hb1.size (by have := HSL.out; omega) (HK.out.later hb1) HSY.out HYL.out)
  clear HC hb1 c0 k0 k1 k2 k3 HP1 HXE
  gi_wp2
  refine ⟨trivial, callsIn_wide.2 (HD.out.mono ?_)⟩
  rintro e w2 ⟨g, dl, rfl, hr, hg, hlen, hdi, hb2⟩
  obtain ⟨b4, hb4⟩ : ∃ b, b = w2.heap.size := ⟨_, rfl⟩
  obtain ⟨Y, hY⟩ : ∃ Y, Y = (w2.alloc (.cells #[.slice (some ⟨g, 0, none⟩) sw sw] 22)).alloc (.cells #[.slice none 0 0] 22) := ⟨_, rfl⟩
  have hbY : Below w2.heap.size w2 Y := by rw [hY]; exact ((Below.refl _ _).alloc (Nat.le_refl _) _).alloc (by simp) _
  have r1 : Y.heap[b4]? = some (.cells #[.slice (some ⟨g, 0, none⟩) sw sw] 22 (0, 0)) := by rw [hY, hb4]; exact (Below.heap_alloc _ _ _ (by simp)).trans (heap_alloc_new w2 _)
  have r2 : Y.heap[b4 + 1]? = some (.cells #[.slice none 0 0] 22 (0, 0)) := by
    rw [hY, hb4]
    have := heap_alloc_new (w2.alloc (.cells #[.slice (some ⟨g, 0, none⟩) sw sw] 22)) (.cells #[.slice none 0 0] 22)
    rwa [World.size_alloc] at this
  have r3 : Y.heap[w.heap.size + 1]? = some (.cells #[.int .i64 (xn : Int)] 3 (0, 0)) := heapB hbY (heapB hb2 HP2.out)
  have HYF : Hid (RowAt Y g dl ∧ Y.heap[b4]? = some (.cells #[.slice (some ⟨g, 0, none⟩) sw sw] 22 (0, 0)) ∧ Y.heap[b4 + 1]? = some (.cells #[.slice none 0 0] 22 (0, 0)) ∧ Y.heap[w.heap.size + 1]? = some (.cells #[.int .i64 (xn : Int)] 3 (0, 0)) ∧ Below w.heap.size w Y ∧ w1.heap.size ≤ g ∧ g < b4 ∧ w.heap.size + 1 < g ∧ NetK Y X.heap.size ty fs fn rcv sw (hoI kind l) (nbS kind l) ∧ Below X.heap.size Y Y ∧ X.heap.size ≤ Y.heap.size ∧ b4 + 1 < Y.heap.size) := by
    have h7 := HZ1.out
    have h8 := hz.out
    refine ⟨(hr.keep hbY), r1, r2, r3, HB1.out.trans ((hb2.mono HB1.out.size).trans (hbY.mono (by have := HB1.out.size; have := hb2.size; omega))), hg, by rw [hb4]; exact hr.lt, by omega, HK1.out.later ((hb2.mono h7).trans (hbY.mono (by have := hb2.size; omega))), Below.refl _ _, by have := hb2.size; have := hbY.size; omega, (Array.getElem?_eq_some_iff.1 r2).1⟩
  have HDI := Lib.hid (And.intro hlen hdi)
  have kx : Y.cell? ⟨w.heap.size + 1, 0, none⟩ = some (.int .i64 (xn : Int)) := cellR 0 r3 rfl
  rw [hY] at kx
  have HYE := Lib.hid hY
  have HB4 := Lib.hid hb4
  clear HD hr hg hlen hdi hb2 hbY r1 r2 r3 hY HK1 HB1 HP2 hb4
  gi_wp2
  rw [← HYE.out, ← HB4.out]
  clear kx
  refine ⟨trivial, callsIn_wide.2 ((HYF.out.2.2.2.2.2.2.2.2.1.nb xn HXL.out Y (Below.refl _ _)).mono ?_)⟩
  rintro e w3 ⟨gf, lb, rfl, ⟨heg, Nd, hNd, hSq⟩, hb3⟩
  have HDF : Hid (∀ b ∈ g :: b4 :: (w.heap.size + 1) :: Nd, Fq w.heap.size (b4 + 1) b w3) := by
    obtain ⟨y1, y2, y3, y4, y5, y6, y7, y8, y9, y10, y11, y12⟩ := HYF.out
    have hown : w3.cell? ⟨b4 + 1, 0, none⟩ = some (.slice none 0 0) := cellR 0 (heapB hb3 y3) rfl
    have hfq : ∀ b, w.heap.size ≤ b → b ≠ b4 + 1 → (∃ o, w3.heap[b]? = some o ∧ o.isCells = true) → Fq w.heap.size (b4 + 1) b w3 := fun b h1 h2 h3 => ⟨h3, h1, h2, fun v hv => by rw [hown] at hv; cases hv; simp [Value.ownBlock]⟩
    intro b hb
    simp only [List.mem_cons] at hb
    rcases hb with rfl | rfl | rfl | hb
    · exact hfq _ (by omega) (by omega) ⟨_, heapB hb3 y1, rfl⟩
    · exact hfq _ (by omega) (by omega) ⟨_, heapB hb3 y2, rfl⟩
    · exact hfq _ (by omega) (by omega) ⟨_, heapB hb3 y4, rfl⟩
    · obtain ⟨h1, h2⟩ := hNd b hb
      exact hfq _ (by omega) (by omega) h2
  have H3 : Hid (OutI w.heap.size (b4 + 1) (nearL dl xn []) w3 ∧ Below w.heap.size w w3 ∧ RowAt w3 g dl ∧ w3.heap[b4]? = some (.cells #[.slice (some ⟨g, 0, none⟩) sw sw] 22 (0, 0)) ∧ w3.heap[w.heap.size + 1]? = some (.cells #[.int .i64 (xn : Int)] 3 (0, 0)) ∧ b4 + 1 < w3.heap.size ∧ g < b4 ∧ w.heap.size + 1 < g) := by
    obtain ⟨y1, y2, y3, y4, y5, y6, y7, y8, y9, y10, y11, y12⟩ := HYF.out
    exact ⟨⟨_, heapB hb3 y3, ⟨rfl, .inl ⟨rfl, rfl⟩⟩, by simp [nearL]⟩, y5.trans (hb3.mono y5.size), y1.keep hb3, heapB hb3 y2, heapB hb3 y4, Nat.lt_of_lt_of_le y12 hb3.size, y7, y8⟩
  obtain ⟨NX, hNX⟩ : ∃ NX, NX = g :: b4 :: (w.heap.size + 1) :: Nd := ⟨_, rfl⟩
  have HNX : Hid (g ∈ NX ∧ b4 ∈ NX ∧ w.heap.size + 1 ∈ NX ∧ ∀ b ∈ Nd, b ∈ NX) := by rw [hNX]; exact ⟨by simp, by simp, by simp, fun b hb => by simp [hb]⟩
  rw [← hNX] at HDF
  clear hNX
  have HNL : Hid (∀ b ∈ NX, b < w3.heap.size) := fun b hb => by
    obtain ⟨ob, h1, _⟩ := (HDF.out b hb).1
    exact (Array.getElem?_eq_some_iff.1 h1).1
  have HSQ := Lib.hid (fun n => hSq n)
  have HLS : Hid ((nbS kind l (xn : Int)).length ≤ 100000) := HLN.out
  clear HYF hNd hSq hb3 HYE HB4 HK hmn hen
  gi_wp2
  refine range_r (L := nbS kind l (xn : Int)) (Nd := Nd) (by omega) rfl heg (HSQ.out _) (fun b hb => HNL.out b (HNX.out.2.2.2 b hb)) (fun _ => rfl) (fun pre W9 => ((OutI w.heap.size (b4 + 1) (nearL dl xn pre) W9 ∧ Below w.heap.size w W9) ∧ (b4 + 1 < W9.heap.size ∧ ∀ b ∈ NX, Fq w.heap.size (b4 + 1) b W9)) ∧ (RowAt W9 g dl ∧ W9.heap[b4]? = some (.cells #[.slice (some ⟨g, 0, none⟩) sw sw] 22 (0, 0)) ∧ W9.heap[w.heap.size + 1]? = some (.cells #[.int .i64 (xn : Int)] 3 (0, 0)))) ?hI ?grow ⟨⟨⟨H3.out.1, H3.out.2.1⟩, H3.out.2.2.2.2.2.1, HDF.out⟩, H3.out.2.2.1, H3.out.2.2.2.1, H3.out.2.2.2.2.1⟩ (fun z => ⟨#[Value.agg #[Value.int IntKind.i64 kind, Value.slice sa M sc, Value.int IntKind.i64 hosts], Value.int IntKind.i64 ((xn : Int)), Value.int IntKind.i64 ((yn : Int)), Value.pointer (some ⟨w.heap.size, 0, none⟩), Value.pointer (some ⟨w.heap.size + 1, 0, none⟩), undef, Value.slice none 0 0, Value.int IntKind.i64 (0), Value.iface ty rcv, Value.int IntKind.i64 (0), Value.pointer (some ⟨b4, 0, none⟩), Value.pointer (some ⟨b4 + 1, 0, none⟩), Value.int IntKind.i64 (z), Value.tuple #[Value.iface ty rcv, Value.int IntKind.i64 0], Value.agg #[Value.int IntKind.i64 kind, Value.slice sa M sc, Value.int IntKind.i64 hosts], Value.int IntKind.i64 ((xn : Int)), Value.int IntKind.i64 ((yn : Int)), Value.slice (some ⟨w.heap.size + 1 + 1, 0, none⟩) 2 2, Value.tuple #[Value.iface ty rcv, Value.int IntKind.i64 0], Value.iface ty rcv, Value.int IntKind.i64 (0), Value.int IntKind.i64 (0), Value.bool false, undef, Value.iface ty rcv, Value.int IntKind.i64 ((yn : Int)), Value.slice (some ⟨g, 0, none⟩) sw sw, Value.iface ty rcv, Value.int IntKind.i64 ((xn : Int)), Value.func (Fn.func gf) #[] lb, Value.int IntKind.i64 (z), undef, undef, undef, undef, undef, undef, undef, undef, undef, undef, undef, undef, undef, undef, undef], []⟩) ?assign ?body ?done
  case hI =>
    have h7 := H3.out.2.2.2.2.2.1
    have h8 := H3.out.2.1.size
    refine OwnFrom.and (OwnFrom.and (OwnFrom.and (OutI.own fun pre : List Int => nearL dl xn pre) (ownFrom_below (by omega) (by omega))) (Fq.own _ (by omega))) (own_of ?_ ?_)
    · rintro pre A B ⟨i1, i2, i3⟩ hb
      exact ⟨i1.keep hb, heapB hb i2, heapB hb i3⟩
    · rintro pre A b o o' ⟨i1, i2, i3⟩ hB ho hc
      have h9 := H3.out.2.2.2.2.2.2
      exact ⟨(World.putObj_heap_other (by omega)).trans i1, (World.putObj_heap_other (by omega)).trans i2, (World.putObj_heap_other (by omega)).trans i3⟩
  case grow =>
    rintro pre A B ⟨⟨⟨j1, j2⟩, j3, j4⟩, i1, i2, i3⟩ hb
    exact ⟨⟨⟨j1.below hb, j2.trans (hb.mono (by have := j2.size; omega))⟩, Nat.lt_of_lt_of_le j3 hb.size, fun b hm => (j4 b hm).grow j3 hb⟩, i1.keep hb, heapB hb i2, heapB hb i3⟩
  case assign =>
    intro q9 z W9 K hK
    gi_wp2
    exact hK
  case body =>
    rintro q9 pre z W8 ⟨⟨⟨j1, j2⟩, j3, j4⟩, i1, i2, i3⟩ hpre
    have hzm : z ∈ nbS kind l (xn : Int) := by obtain ⟨r, hr⟩ := hpre; rw [← hr]; simp
    obtain ⟨z0, z1⟩ := HSY.out xn HXL.out z hzm
    obtain ⟨zn, rfl⟩ := Int.eq_ofNat_of_zero_le z0
    have hzl : zn < sw := by omega
    have hxl := HXL.out
    obtain ⟨hdl, hdi⟩ := HDI.out
    obtain ⟨dx, hdx⟩ : ∃ dx, dx = dl.getD xn 0 := ⟨_, rfl⟩
    obtain ⟨dz, hdz⟩ : ∃ dz, dz = dl.getD zn 0 := ⟨_, rfl⟩
    have hb9 := HDS.out xn dx hxl (by rw [hdx]; exact hdi xn hxl)
    have cz := i1.cell zn (by rw [hdl]; exact hzl)
    have cx := i1.cell xn (by rw [hdl]; exact hxl)
    rw [show dl[zn]'(by rw [hdl]; exact hzl) = dz by rw [hdz]; simp [List.getD, hdl, hzl]] at cz
    rw [show dl[xn]'(by rw [hdl]; exact hxl) = dx by rw [hdx]; simp [List.getD, hdl, hxl]] at cx
    have HNS : Hid (nearL dl xn (pre ++ [(zn : Int)]) = nearL dl xn pre ++ (if (dz == dx - 1) = true then [(zn : Int)] else [])) := by
      show _ = _
      rw [nearL_snoc, hdx, hdz]; rfl
    have HES := Lib.hid (fun W => i64_sub dx 1 (by omega) (by omega) W)
    have HRL : Hid ((nearL dl xn pre).length ≤ 200000) := by
      have h1 : (nearL dl xn pre).length ≤ pre.length := List.length_filter_le _ _
      have h2 := hpre.length_le
      have h3 := HLS.out
      simp at h2
      show _ ≤ _
      omega
    have c4 := cellR 0 i2 rfl
    have cX := cellR 0 i3 rfl
    have HALL := Lib.hid (And.intro (And.intro (And.intro j1 j2) (And.intro j3 j4)) (And.intro i1 (And.intro i2 i3)))
    clear j1 j2 j3 j4 i1 i2 i3 hpre hzm z0 z1 hdx hdz hdi hdl hb9
    gi_wp2
    refine region_det (by kernel_rfl) (I := fun listed a' w' => w' = W8.drew ∧ a' = ⟨#[Value.agg #[Value.int IntKind.i64 kind, Value.slice sa M sc, Value.int IntKind.i64 hosts], Value.int IntKind.i64 ((xn : Int)), Value.int IntKind.i64 ((yn : Int)), Value.pointer (some ⟨w.heap.size, 0, none⟩), Value.pointer (some ⟨w.heap.size + 1, 0, none⟩), undef, Value.slice none 0 0, Value.int IntKind.i64 (0), Value.iface ty rcv, Value.int IntKind.i64 (0), Value.pointer (some ⟨b4, 0, none⟩), Value.pointer (some ⟨b4 + 1, 0, none⟩), Value.int IntKind.i64 ((zn : Int)), Value.tuple #[Value.iface ty rcv, Value.int IntKind.i64 0], Value.agg #[Value.int IntKind.i64 kind, Value.slice sa M sc, Value.int IntKind.i64 hosts], Value.int IntKind.i64 ((xn : Int)), Value.int IntKind.i64 ((yn : Int)), Value.slice (some ⟨w.heap.size + 1 + 1, 0, none⟩) 2 2, Value.tuple #[Value.iface ty rcv, Value.int IntKind.i64 0], Value.iface ty rcv, Value.int IntKind.i64 (0), Value.int IntKind.i64 (0), Value.bool false, undef, Value.iface ty rcv, Value.int IntKind.i64 ((yn : Int)), Value.slice (some ⟨g, 0, none⟩) sw sw, Value.iface ty rcv, Value.int IntKind.i64 ((xn : Int)), Value.func (Fn.func gf) #[] lb, Value.int IntKind.i64 ((zn : Int)), (if listed.getD 0 false = true then Value.slice (some ⟨g, 0, none⟩) sw sw else undef), (if listed.getD 1 false = true then Value.int IntKind.i64 ((zn : Int)) else undef), (if listed.getD 2 false = true then Value.pointer (some ⟨g, zn, none⟩) else undef), (if listed.getD 3 false = true then Value.int IntKind.i64 (dz) else undef), (if listed.getD 4 false = true then Value.slice (some ⟨g, 0, none⟩) sw sw else undef), (if listed.getD 5 false = true then Value.int IntKind.i64 ((xn : Int)) else undef), (if listed.getD 6 false = true then Value.pointer (some ⟨g, xn, none⟩) else undef), (if listed.getD 7 false = true then Value.int IntKind.i64 (dx) else undef), (if listed.getD 8 false = true then Value.int IntKind.i64 (dx - 1) else undef), (if listed.getD 9 false = true then Value.bool (dz == dx - 1) else undef), undef, undef, undef, undef, undef], []⟩) (hup_check (by kernel_rfl)) ?h0 ?step ?fin
    case h0 => exact ⟨rfl, rfl⟩
    case step =>
      intro listed a' w' i hs hbi hdep hi ⟨IW, ha⟩
      obtain ⟨ls⟩ := listed
      match ls, hs with
      | [x0, x1, x2, x3, x4, x5, x6, x7, x8, x9], _ =>
      subst ha
      have hi' : i = 0 ∨ i = 1 ∨ i = 2 ∨ i = 3 ∨ i = 4 ∨ i = 5 ∨ i = 6 ∨ i = 7 ∨ i = 8 ∨ i = 9 := by simp at hi; omega
      subst IW
      rcases hi' with rfl | rfl | rfl | rfl | rfl | rfl | rfl | rfl | rfl | rfl
      · obtain rfl : x0 = false := by simpa using hbi
        refine wpOpR_plain (v := Value.slice (some ⟨g, 0, none⟩) sw sw) (w' := W8.drew) rfl rfl (fun c hc => by cases hc) ?_ ?_
        · go_simp
        exact ⟨rfl, rfl⟩
      · obtain rfl : x1 = false := by simpa using hbi
        refine wpOpR_plain (v := Value.int IntKind.i64 ((zn : Int))) (w' := W8.drew) rfl rfl (fun c hc => by cases hc) ?_ ?_
        · go_simp
        exact ⟨rfl, rfl⟩
      · obtain rfl : x2 = false := by simpa using hbi
        obtain rfl : x0 = true := hdep _ rfl ⟨0, .data⟩ (by simp) rfl
        obtain rfl : x1 = true := hdep _ rfl ⟨1, .data⟩ (by simp) rfl
        refine wpOpR_plain (v := Value.pointer (some ⟨g, zn, none⟩)) (w' := W8.drew) rfl rfl (fun c hc => by cases hc) ?_ ?_
        · go_simp
        exact ⟨rfl, rfl⟩
      · obtain rfl : x3 = false := by simpa using hbi
        obtain rfl : x2 = true := hdep _ rfl ⟨2, .data⟩ (by simp) rfl
        refine wpOpR_plain (v := Value.int IntKind.i64 (dz)) (w' := W8.drew) rfl rfl (fun c hc => by cases hc) ?_ ?_
        · go_simp
        exact ⟨rfl, rfl⟩
      · obtain rfl : x4 = false := by simpa using hbi
        refine wpOpR_plain (v := Value.slice (some ⟨g, 0, none⟩) sw sw) (w' := W8.drew) rfl rfl (fun c hc => by cases hc) ?_ ?_
        · go_simp
        exact ⟨rfl, rfl⟩
      · obtain rfl : x5 = false := by simpa using hbi
        refine wpOpR_plain (v := Value.int IntKind.i64 ((xn : Int))) (w' := W8.drew) rfl rfl (fun c hc => by cases hc) ?_ ?_
        · go_simp
        exact ⟨rfl, rfl⟩
      · obtain rfl : x6 = false := by simpa using hbi
        obtain rfl : x4 = true := hdep _ rfl ⟨4, .data⟩ (by simp) rfl
        obtain rfl : x5 = true := hdep _ rfl ⟨5, .data⟩ (by simp) rfl
        refine wpOpR_plain (v := Value.pointer (some ⟨g, xn, none⟩)) (w' := W8.drew) rfl rfl (fun c hc => by cases hc) ?_ ?_
        · go_simp
        exact ⟨rfl, rfl⟩
      · obtain rfl : x7 = false := by simpa using hbi
        obtain rfl : x6 = true := hdep _ rfl ⟨6, .data⟩ (by simp) rfl
        refine wpOpR_plain (v := Value.int IntKind.i64 (dx)) (w' := W8.drew) rfl rfl (fun c hc => by cases hc) ?_ ?_
        · go_simp
        exact ⟨rfl, rfl⟩
      · obtain rfl : x8 = false := by simpa using hbi
        obtain rfl : x7 = true := hdep _ rfl ⟨7, .data⟩ (by simp) rfl
        refine wpOpR_plain (v := Value.int IntKind.i64 (dx - 1)) (w' := W8.drew) rfl rfl (fun c hc => by cases hc) (sem_bin (vx := Value.int IntKind.i64 (dx)) (vy := Value.int IntKind.i64 (1)) rfl rfl rfl rfl (HES.out _)) ?_
        exact ⟨rfl, rfl⟩
      · obtain rfl : x9 = false := by simpa using hbi
        obtain rfl : x3 = true := hdep _ rfl ⟨3, .data⟩ (by simp) rfl
        obtain rfl : x8 = true := hdep _ rfl ⟨8, .data⟩ (by simp) rfl
        refine wpOpR_plain (v := Value.bool (dz == dx - 1)) (w' := W8.drew) rfl rfl (fun c hc => by cases hc) ?_ ?_
        · go_simp
        exact ⟨rfl, rfl⟩
    case fin =>
    intro listed a' W9 hs hall ⟨IW, ha⟩
    obtain ⟨ls⟩ := listed
    match ls, hs with
    | [x0, x1, x2, x3, x4, x5, x6, x7, x8, x9], _ =>
    obtain rfl : x0 = true := hall 0 (by simp)
    obtain rfl : x1 = true := hall 1 (by simp)
    obtain rfl : x2 = true := hall 2 (by simp)
    obtain rfl : x3 = true := hall 3 (by simp)
    obtain rfl : x4 = true := hall 4 (by simp)
    obtain rfl : x5 = true := hall 5 (by simp)
    obtain rfl : x6 = true := hall 6 (by simp)
    obtain rfl : x7 = true := hall 7 (by simp)
    obtain rfl : x8 = true := hall 8 (by simp)
    obtain rfl : x9 = true := hall 9 (by simp)
    subst ha
    subst IW
    have HD8 : Hid (((OutI w.heap.size (b4 + 1) (nearL dl xn pre) W8.drew ∧ Below w.heap.size w W8.drew) ∧ (b4 + 1 < W8.drew.heap.size ∧ ∀ b ∈ NX, Fq w.heap.size (b4 + 1) b W8.drew)) ∧ (RowAt W8.drew g dl ∧ W8.drew.heap[b4]? = some (.cells #[.slice (some ⟨g, 0, none⟩) sw sw] 22 (0, 0)) ∧ W8.drew.heap[w.heap.size + 1]? = some (.cells #[.int .i64 (xn : Int)] 3 (0, 0)))) := by
      obtain ⟨⟨⟨j1, j2⟩, j3, j4⟩, i1, i2, i3⟩ := HALL.out
      have hb : Below W8.heap.size W8 W8.drew := (Below.refl _ _).drew
      exact ⟨⟨⟨j1.below hb, j2.drew⟩, j3, fun b hm => (j4 b hm).grow j3 hb⟩, i1, i2, i3⟩
    have HKD : Hid (KeepsFrom w3.heap.size W8 W8.drew ∧ ∀ b : Nat, W8.drew.heap[b]? = W8.heap[b]?) := ⟨(KeepsOthers.drew W8).from _, fun _ => rfl⟩
    clear HALL c4 cX cz cx hs hall
    by_cases hq : (dz == dx - 1) = true
    · rw [if_pos hq] at HNS
      generalize W8.drew = W9 at *
      obtain ⟨⟨⟨j1, j2⟩, j3, j4⟩, i1, i2, i3⟩ := HD8.out
      obtain ⟨v, gA, cap, wA, hv, hvA, hrun, hO4, hk4, hq4⟩ := j1.append (zn : Int) HRL.out (by have := j2.size; omega) (by have := H3.out.2.2.2.2.2.2; omega)
      have cv := hv.cell
      have cA := hvA.cell
      have fA := hvA.frozen
      have lA := hvA.lt
      rw [← HNS.out] at hO4
      have HFI := Lib.hid (And.intro hk4 (And.intro hq4 hO4))
      clear hk4 hq4 hO4 j1 j2 j3 j4 i1 i2 i3
      gi_wp2_with (gi_at_builtin; refine wpListIn_append_run rfl _ _ 22 rfl rfl rfl hrun ?_)
      obtain ⟨⟨⟨j1, j2⟩, j3, j4⟩, i1, i2, i3⟩ := HD8.out
      obtain ⟨hk4, hq4, hO4⟩ := HFI.out
      exact ⟨HKD.out.1.trans (hk4.from _), fun b hb => ((hq4.2 b (j4 b (HNX.out.2.2.2 b hb))).1).trans (HKD.out.2 b), ⟨⟨hO4, j2.trans hq4.1⟩, Nat.lt_of_lt_of_le j3 hk4.size, fun b hb => (hq4.2 b (j4 b hb)).2⟩, ((hq4.2 g (j4 g HNX.out.1)).1).trans i1, ((hq4.2 b4 (j4 b4 HNX.out.2.1)).1).trans i2, ((hq4.2 (w.heap.size + 1) (j4 (w.heap.size + 1) HNX.out.2.2.1)).1).trans i3⟩
    · rw [if_neg hq, List.append_nil] at HNS
      have hq2 : (dz == dx - 1) = false := by simpa using hq
      generalize W8.drew = W9 at *
      rw [← HNS.out] at HD8
      gi_wp2
      exact ⟨HKD.out.1, fun b _ => HKD.out.2 b, HD8.out⟩
  case done =>
    rintro D W9 hD ⟨⟨⟨⟨v, hv, hrow, hnil⟩, hB9⟩, _⟩, _⟩ hK
    have cv := hv.cell
    have HF := Lib.hid (And.intro hrow hB9)
    clear hrow hB9
    gi_wp2
    refine ⟨by simp, .inl ⟨_, _, rfl, run_takeDeferred hK, ?_⟩⟩
    have h7 := H3.out.2.1.size
    refine ⟨.tuple #[v, .int .i64 0], by simp [results, Try.results28, go_sem], v, dl, rfl, fun a ha => HDI.out.2 a (by have := HSE.out; omega), ⟨ownsRow_putObj HF.out.1 _ hK rfl, ?_⟩, HF.out.2.trans ⟨rfl, rfl, rfl, by simp [World.putObj], fun k hk => World.putObj_heap_other (by omega)⟩⟩
    have h1 : (nearL dl xn (nbS kind l (xn : Int))).length ≤ (nbS kind l (xn : Int)).length := List.length_filter_le _ _
    have h2 := HLS.out
    omega
end Go.Proofs.Ytbhkenphcahifaa

namespace Go.Proofs.Ytbhkenphcahifaa
open Go.RowKit Go.Shelf
attribute [local go_sem] Oper.semAt_some
set_option maxRecDepth 100000
set_option maxHeartbeats 4000000

/-- no switch is its own neighbor -/
theorem net_irr {kind : Int} {l : List Int} {hosts : Int} (hv : vOk kind l hosts) {x : Int} (h0 : 0 ≤ x) (h1 : x < swI kind l) : x ∉ nbS kind l x := by
  intro hz
  rcases v_kind hv with rfl | rfl | rfl
  · obtain ⟨_, hb⟩ := tOk_sides (torus_v hv)
    have hsw : swI 1 l = prodI l := rfl
    rw [hsw] at h1
    have e : ∀ a, nbS 1 l a = nbL l a := fun a => by simp [nbS]
    rw [e] at hz
    obtain ⟨d, hd, rfl⟩ := num_of hb h0 h1
    obtain ⟨i, s, hi, hs, heq⟩ := (mem_nbL hd).1 hz
    obtain ⟨e1, e2⟩ := emod_in (a := d.getD i 0 + s) (hb i hi).1
    have h3 : d.set i ((d.getD i 0 + s) % l.getD i 0) = d := by rw [← coords_num (hd.set hi e1 e2), ← heq, coords_num hd]
    have h4 : (d.getD i 0 + s) % l.getD i 0 = d.getD i 0 := by
      have := congrArg (fun q => q.getD i 0) h3
      rwa [getD_set_same _ _ _ _ (by rw [hd.1]; exact hi)] at this
    obtain ⟨c0, c1⟩ := hd.2 i hi
    have hm := (hb i hi).1
    have h5 : (d.getD i 0 + s) % l.getD i 0 = if s = 1 then (if d.getD i 0 + 1 = l.getD i 0 then 0 else d.getD i 0 + 1) else (if d.getD i 0 = 0 then l.getD i 0 - 1 else d.getD i 0 - 1) := by
      rcases hs with rfl | rfl
      · rw [if_pos rfl]; split
        · rename_i h; rw [h, Int.emod_self]
        · exact Int.emod_eq_of_lt (by omega) (by omega)
      · rw [if_neg (by decide)]; split
        · rename_i h; rw [h, ← Int.add_emod_right, Int.emod_eq_of_lt (by omega) (by omega)]; omega
        · rw [Int.emod_eq_of_lt (by omega) (by omega)]; omega
    rw [h4] at h5
    split at h5 <;> split at h5 <;> omega
  · obtain ⟨k, lv, hk, hlv, e0, e1, e2, e3⟩ := tree_nums hv
    have e : ∀ a, nbS 2 l a = nbT k lv a := fun a => by simp [nbS, -List.getD_eq_getElem?_getD, e0, e1]
    rw [e2] at h1
    rw [e] at hz
    have hx := InTr.of hk hlv h0 h1
    obtain ⟨_, l', wd', s2, s3⟩ := tree_sym hk hx x hz
    have := (s2.unique hx).1
    omega
  · obtain ⟨a, h, ha, hh, e0, e1, e2, e3⟩ := drag_nums hv
    have e : ∀ b, nbS 3 l b = nbD a h b := fun b => by simp [nbS, -List.getD_eq_getElem?_getD, e0, e1]
    rw [e2] at h1
    rw [e] at hz
    have hx := InDr.of (a := a) (g := (a : Int) * h + 1) (by omega) h0 h1
    generalize x / (a : Int) = gr at *
    generalize x % (a : Int) = pl at *
    obtain ⟨g0, g1, l0, l1⟩ := hx.2
    rcases (mem_nbD hx).1 hz with ⟨i, i0, i1, i2, i3⟩ | ⟨p, p0, p1, i3⟩
    · have := hx.1; omega
    · obtain ⟨q0, q1, q2, q3⟩ := port_in (a := a) (show 1 ≤ (h : Int) by omega) l0 l1 p0 p1
      generalize pl * (h : Int) + p = P at *
      obtain ⟨f0, f1, f4, f2, _⟩ := port_far g0 g1 q0 q1
      obtain ⟨r0, r1, _⟩ := place_in (a := a) (h := h) (P := (a : Int) * h + 1 - 2 - P) (by omega) (by omega) (by omega)
      have hx2 : InDr a ((a : Int) * h + 1) x ((gr + P + 1) % ((a : Int) * h + 1)) (((a : Int) * h + 1 - 2 - P) / h) := ⟨i3, f0, f1, r0, r1⟩
      exact f4 (hx2.parts.1.symm.trans hx.parts.1)
/-- what distances say -/
theorem metric_facts {kind : Int} {l : List Int} {hosts : Int} (hv : vOk kind l hosts) {x y d : Int} (h0 : 0 ≤ x) (h1 : x < swI kind l) (g0 : 0 ≤ y) (g1 : y < swI kind l) (hd : DistAt (nbS kind l) y x d) :
    (d = 0 ↔ x = y) ∧ (∀ z ∈ nbS kind l x, ∀ m, DistAt (nbS kind l) y z m → d - 1 ≤ m ∧ m ≤ d + 1) ∧ (y ∈ nbS kind l x ↔ d = 1) ∧ (x ≠ y → ∃ z ∈ nbS kind l x, ∀ m, DistAt (nbS kind l) y z m → m = d - 1) ∧ (∀ f, DistAt (nbS kind l) x y f → d = f) := by
  have hS : ∀ a, (0 ≤ a ∧ a < swI kind l) → ∀ z ∈ nbS kind l a, (0 ≤ z ∧ z < swI kind l) ∧ a ∈ nbS kind l z := fun a ha z hz => net_sym hv ha.1 ha.2 z hz
  obtain ⟨k, rfl, hk, wk, mk'⟩ := dist_small hv h0 h1 g0 g1 hd
  have h2 : ∀ z ∈ nbS kind l x, ∀ m, DistAt (nbS kind l) y z m → (k : Int) - 1 ≤ m ∧ m ≤ (k : Int) + 1 := fun z hz m hm => by
    obtain ⟨⟨z0, z1⟩, hxz⟩ := hS x ⟨h0, h1⟩ z hz
    obtain ⟨j, rfl, hj, wj, mj⟩ := dist_small hv z0 z1 g0 g1 hm
    have a1 := mj _ (.step wk hz)
    have a2 := mk' _ (.step wj hxz)
    omega
  have hz0 : (k : Int) = 0 ↔ x = y := by
    constructor
    · intro h
      have : k = 0 := by omega
      subst this
      cases wk; rfl
    · rintro rfl
      have := mk' 0 .here
      omega
  refine ⟨hz0, h2, ?_, ?_, ?_⟩
  · constructor
    · intro hy
      have hxy := (hS x ⟨h0, h1⟩ y hy).2
      have a1 := mk' 1 (.step .here hxy)
      have a2 : k ≠ 0 := fun e => by
        have hx := hz0.1 (by omega)
        subst hx
        exact net_irr hv h0 h1 hy
      omega
    · intro h
      have : k = 1 := by omega
      subst this
      cases wk with
      | step w0 hm =>
        cases w0
        exact (hS y ⟨g0, g1⟩ x hm).2
  · intro hne
    cases k with
    | zero => exact absurd (hz0.1 rfl) hne
    | succ k =>
      cases wk with
      | step w0 hm =>
        rename_i z
        have hzP := w0.good (P := fun a => 0 ≤ a ∧ a < swI kind l) (fun a ha q hq => (hS a ha q hq).1) ⟨g0, g1⟩
        have hzx := (hS z hzP x hm).2
        refine ⟨z, hzx, fun m hm2 => ?_⟩
        have a1 := (h2 z hzx m hm2).1
        obtain ⟨j, rfl, hj, wj, mj⟩ := dist_small hv hzP.1 hzP.2 g0 g1 hm2
        have a2 := mj _ w0
        omega
  · intro f hf
    obtain ⟨j, rfl, hj, wj, mj⟩ := dist_small hv g0 g1 h0 h1 hf
    have a1 := mk' _ (wj.turn hS ⟨h0, h1⟩)
    have a2 := mj _ (wk.turn hS ⟨g0, g1⟩)
    omega
theorem ring_any (a b m : Int) (ha : 0 ≤ a) (ha2 : a ≤ 1000) (hb : 0 ≤ b) (hb2 : b ≤ 1000) (hm : 0 ≤ m) (hm2 : m ≤ 1000) (w : World) : Calls Try.prog 30 #[.int .i64 a, .int .i64 b, .int .i64 m] w fun e w' => e = .returned (.int .i64 (rgI m a b)) ∧ w = w' := by
  have ER : Hid (rgI m a b = min (if a - b < 0 then -(a - b) else a - b) (m - (if a - b < 0 then -(a - b) else a - b))) := rfl
  generalize rgI m a b = r at *
  by_cases h : a - b < 0
  · rw [if_pos h] at ER
    have d1 : decide (a - b < 0) = true := decide_eq_true h
    go_enter Try.func30, Try.ntmps30
    go_wp2_with fail
    go_ret
    have e2 : m - -(a - b) = m + (a - b) := by omega
    exact ⟨by rw [ER.out, e2]; rfl, rfl⟩
  · rw [if_neg h] at ER
    have d1 : decide (a - b < 0) = false := decide_eq_false h
    go_enter Try.func30, Try.ntmps30
    go_wp2_with fail
    go_ret
    exact ⟨by rw [ER.out]; rfl, rfl⟩
end Go.Proofs.Ytbhkenphcahifaa

namespace Go.Proofs.Ytbhkenphcahifaa
open Go.RowKit Go.Shelf
attribute [local go_sem] Oper.semAt_some
set_option maxRecDepth 100000
set_option maxHeartbeats 4000000

theorem NetMetric_bad {w : World} {sa : Option Addr} {l : List Int} (h : Ints w sa l) (sc : Nat) (kind hosts a b : Int) (hv : ¬ (vOk kind l hosts ∧ swI kind l ≤ 64)) :
    Calls Try.prog 5 #[.agg #[.int .i64 kind, .slice sa l.length sc, .int .i64 hosts], .int .u8 a, .int .u8 b] w fun e w' => e = .returned (.bool true) ∧ Below w.heap.size w w' := by
  have HB := Lib.hid ((Below.refl w.heap.size w).alloc (Nat.le_refl _) (.cells #[.int .i64 kind, .slice sa l.length sc, .int .i64 hosts] 24))
  have Q0 := Lib.hid (heap_alloc_new w (.cells #[.int .i64 kind, .slice sa l.length sc, .int .i64 hosts] 24))
  have c0 := cellR 0 Q0.out rfl
  have c1 := cellR 1 Q0.out rfl
  have c2 := cellR 2 Q0.out rfl
  have H25 := Lib.hid (size_any (h.keep HB.out) sc kind hosts 64)
  rw [show szM kind l hosts 64 = 0 from if_neg hv, show hoM kind l hosts 64 = 0 from if_neg hv] at H25
  have HWK := Lib.hid works_any
  clear h hv
  generalize l.length = N at *
  go_enter Try.func5, Try.ntmps5
  go_wp2_with fail
  generalize w.alloc (.cells #[.int .i64 kind, .slice sa N sc, .int .i64 hosts] 24) = X at *
  clear c0 c1 c2
  refine H25.out.mono ?_
  rintro e w1 ⟨rfl, hb1⟩
  have HB1 := Lib.hid (HB.out.trans (hb1.mono HB.out.size))
  clear H25 hb1 Q0 HB
  have K10 := Lib.hid (HWK.out w1)
  clear HWK
  go_wp2_with fail
  refine K10.out.mono ?_
  rintro e w3 ⟨rfl, hb3⟩
  have HB3 := Lib.hid (HB1.out.trans (hb3.mono HB1.out.size))
  clear hb3
  go_wp2_with fail
  go_ret
  exact ⟨rfl, HB3.out⟩
/-- is one of the first i neighbors y -/
def linkB (L : List Int) (y : Int) (i : Nat) : Bool := decide (y ∈ L.take i)
theorem linkB_succ {L : List Int} {y : Int} {i : Nat} (hi : i < L.length) : linkB L y (i + 1) = (linkB L y i || L[i] == y) := by
  unfold linkB
  rw [List.take_succ_eq_append_getElem hi, Bool.eq_iff_iff]
  simp only [decide_eq_true_eq, List.mem_append, List.mem_singleton, Bool.or_eq_true, beq_iff_eq]
  exact or_congr Iff.rfl eq_comm
theorem NetMetric_ok {w : World} {sa : Option Addr} {l : List Int} (h : Ints w sa l) (sc : Nat) (kind hosts a b : Int) (hv : vOk kind l hosts) (h64 : swI kind l ≤ 64) (ha : 0 ≤ a) (hb : 0 ≤ b) (ha2 : a ≤ 255) (hb2 : b ≤ 255) :
    Calls Try.prog 5 #[.agg #[.int .i64 kind, .slice sa l.length sc, .int .i64 hosts], .int .u8 a, .int .u8 b] w fun e w' => e = .returned (.bool true) ∧ Below w.heap.size w w' := by
  have HB := Lib.hid ((Below.refl w.heap.size w).alloc (Nat.le_refl _) (.cells #[.int .i64 kind, .slice sa l.length sc, .int .i64 hosts] 24))
  have Q0 := Lib.hid (heap_alloc_new w (.cells #[.int .i64 kind, .slice sa l.length sc, .int .i64 hosts] 24))
  have H25 := Lib.hid (size_any (h.keep HB.out) sc kind hosts 64)
  obtain ⟨b1, b2, b3, b4, b5, b6⟩ := v_bound hv
  rw [show szM kind l hosts 64 = swI kind l from if_pos ⟨hv, h64⟩, show hoM kind l hosts 64 = hoI kind l from if_pos ⟨hv, h64⟩] at H25
  obtain ⟨x, hx⟩ : ∃ x, x = a % swI kind l := ⟨_, rfl⟩
  obtain ⟨y, hy⟩ : ∃ y, y = b % swI kind l := ⟨_, rfl⟩
  have hx0 : 0 ≤ x := by rw [hx]; exact Int.emod_nonneg _ (by omega)
  have hx1 : x < swI kind l := by rw [hx]; exact Int.emod_lt_of_pos _ (by omega)
  have hy0 : 0 ≤ y := by rw [hy]; exact Int.emod_nonneg _ (by omega)
  have hy1 : y < swI kind l := by rw [hy]; exact Int.emod_lt_of_pos _ (by omega)
  obtain ⟨xn, rfl⟩ := Int.eq_ofNat_of_zero_le hx0
  obtain ⟨yn, rfl⟩ := Int.eq_ofNat_of_zero_le hy0
  have HDI := Lib.hid (fun (W : World) (hb : Below w.heap.size w W) (p q : Int) (p0 : 0 ≤ p) (p1 : p < swI kind l) (q0 : 0 ≤ q) (q1 : q < swI kind l) => Distance_ok (h.keep hb) sc kind hosts (x := p) (y := q) hv p0 p1 q0 q1)
  have HNB := Lib.hid (fun (W : World) (hb : Below w.heap.size w W) => Neighbors_ok (h.keep hb) sc kind hosts (xn : Int) hv hx0 hx1)
  have HHO := Lib.hid (fun (W : World) (hb : Below w.heap.size w W) => Hops_ok (h.keep hb) sc kind hosts (xn := xn) (yn := yn) hv hx1 hy1)
  have HPL := Lib.hid (fun (W : World) (hb : Below w.heap.size w W) (p : Int) => Place_any (h.keep hb) sc kind hosts p)
  have HWK := Lib.hid works_any
  have HMF := Lib.hid (fun d => metric_facts hv hx0 hx1 hy0 hy1 (d := d))
  have HSM := Lib.hid (fun (p d : Int) (p0 : 0 ≤ p) (p1 : p < swI kind l) (hd : DistAt (nbS kind l) (yn : Int) p d) => dist_small hv p0 p1 hy0 hy1 hd)
  have HSY := Lib.hid (net_sym hv hx0 hx1)
  have HNL := Lib.hid (nbS_len hv (xn : Int))
  have HVV := Lib.hid hv
  have HXR := Lib.hid (And.intro hx0 (And.intro hx1 (And.intro hy0 hy1)))
  have HII := Lib.hid h
  have d1 : (swI kind l == 0) = false := by simp; omega
  have hne1 : swI kind l ≠ 0 := by omega
  have HX := Lib.hid hx
  have HY := Lib.hid hy
  have hxs : xn ≤ 1000 := by omega
  have hys : yn ≤ 1000 := by omega
  clear h hv hx hy hx1 hy1 hx0 hy0 b1 b2 b3 b4 b5 b6 h64
  obtain ⟨n, hn⟩ : ∃ n, n = swI kind l := ⟨_, rfl⟩
  have HN := Lib.hid hn
  rw [← hn] at H25 d1 hne1 HX HY
  clear hn
  generalize hoI kind l = m at *
  obtain ⟨N, hNN⟩ : ∃ N, N = l.length := ⟨_, rfl⟩
  rw [← hNN] at HB Q0 H25 HDI HNB HHO HPL ⊢
  have HLN := Lib.hid hNN
  clear hNN
  have c0 := cellR 0 Q0.out rfl
  have c1 := cellR 1 Q0.out rfl
  have c2 := cellR 2 Q0.out rfl
  go_enter Try.func5, Try.ntmps5
  go_wp2_with fail
  generalize w.alloc (.cells #[.int .i64 kind, .slice sa N sc, .int .i64 hosts] 24) = X at *
  clear c0 c1 c2
  refine H25.out.mono ?_
  rintro e w1 ⟨rfl, hb1⟩
  have HB1 := Lib.hid (HB.out.trans (hb1.mono HB.out.size))
  have Q1 := Lib.hid (heapB hb1 Q0.out)
  clear H25 hb1 Q0 HB
  go_wp2_with fail
  go_quiet (fail)
  rw [← HX.out, ← HY.out]
  have HB2 : Hid (Below w.heap.size w (w1.drewN nq)) := below_drewN HB1.out _
  have Q2 : Hid ((w1.drewN nq).heap[w.heap.size]? = some (.cells #[.int .i64 kind, .slice sa N sc, .int .i64 hosts] 24 (0, 0))) := Q1.out
  clear HB1 Q1 HX HY ha hb ha2 hb2
  generalize w1.drewN nq = W2 at *
  have c0 := cellR 0 Q2.out rfl
  have c1 := cellR 1 Q2.out rfl
  have c2 := cellR 2 Q2.out rfl
  have K1 := Lib.hid (HDI.out W2 HB2.out (xn : Int) (yn : Int) HXR.out.1 HXR.out.2.1 HXR.out.2.2.1 HXR.out.2.2.2)
  go_wp2_with fail
  refine K1.out.mono ?_
  rintro e w3 ⟨d, rfl, hd, hb3⟩
  have HDD := Lib.hid hd
  have HB3 := Lib.hid (HB2.out.trans (hb3.mono HB2.out.size))
  have Q3 := Lib.hid (heapB hb3 Q2.out)
  clear K1 hb3 c0 c1 c2 Q2 HB2 hd
  have c0 := cellR 0 Q3.out rfl
  have c1 := cellR 1 Q3.out rfl
  have c2 := cellR 2 Q3.out rfl
  have K1 := Lib.hid (HDI.out w3 HB3.out (yn : Int) (xn : Int) HXR.out.2.2.1 HXR.out.2.2.2 HXR.out.1 HXR.out.2.1)
  go_wp2_with fail
  refine K1.out.mono ?_
  rintro e w4 ⟨f, rfl, hf, hb4⟩
  obtain rfl : d = f := (HMF.out d HDD.out).2.2.2.2 f hf
  have HB4 := Lib.hid (HB3.out.trans (hb4.mono HB3.out.size))
  have Q4 := Lib.hid (heapB hb4 Q3.out)
  clear K1 hb4 c0 c1 c2 Q3 HB3 hf
  have c0 := cellR 0 Q4.out rfl
  have c1 := cellR 1 Q4.out rfl
  have c2 := cellR 2 Q4.out rfl
  have K1 := Lib.hid (HNB.out w4 HB4.out)
  clear HNB
  go_wp2_with fail
  refine K1.out.mono ?_
  rintro e w5 ⟨v5, rfl, hv5, hb5⟩
  have HB5 := Lib.hid (HB4.out.trans (hb5.mono HB4.out.size))
  have Q5 := Lib.hid (heapB hb5 Q4.out)
  obtain ⟨na, nc, rfl, hni⟩ := hv5.ints
  have HNI := Lib.hid hni
  clear K1 hb5 c0 c1 c2 Q4 HB4 hv5 hni
  have c0 := cellR 0 Q5.out rfl
  have c1 := cellR 1 Q5.out rfl
  have c2 := cellR 2 Q5.out rfl
  have K1 := Lib.hid (HHO.out w5 HB5.out)
  clear HHO
  go_wp2_with fail
  refine K1.out.mono ?_
  rintro e w6 ⟨v6, dl, rfl, hdl, hv6, hb6⟩
  have HB6 := Lib.hid (HB5.out.trans (hb6.mono HB5.out.size))
  have Q6 := Lib.hid (heapB hb6 Q5.out)
  have HN6 := Lib.hid (HNI.out.keep hb6)
  obtain ⟨ha6, hc6, rfl, hhi⟩ := hv6.ints
  have HHI := Lib.hid hhi
  have HDL := Lib.hid hdl
  clear K1 hb6 c0 c1 c2 Q5 HB5 hv6 hhi hdl HNI
  have HFA := Lib.hid (HMF.out d HDD.out)
  have HDX : Hid (d = dl.getD xn 0) := HDD.out.unique (HDL.out xn HXR.out.2.1)
  have HHE : Hid (((nearL dl xn (nbS kind l (xn : Int))).length = 0) ↔ ((xn : Int) = (yn : Int))) := by
    show _ ↔ _
    obtain ⟨f1, f2, f3, f4, f5⟩ := HFA.out
    constructor
    · intro h0
      by_cases hne : (xn : Int) = (yn : Int)
      · exact hne
      · exfalso
        obtain ⟨z, hz, hm⟩ := f4 hne
        obtain ⟨⟨z0, z1⟩, _⟩ := HSY.out z hz
        obtain ⟨zn, rfl⟩ := Int.eq_ofNat_of_zero_le z0
        have h3 := hm _ (HDL.out zn z1)
        have hmem : (zn : Int) ∈ nearL dl xn (nbS kind l (xn : Int)) := by
          unfold nearL
          refine List.mem_filter.2 ⟨hz, ?_⟩
          rw [Int.toNat_natCast, h3, HDX.out]; simp
        rw [List.length_eq_zero_iff.1 h0] at hmem
        simp at hmem
    · intro he
      have hd0 := f1.2 he
      refine List.length_eq_zero_iff.2 (List.filter_eq_nil_iff.2 fun z hz hq => ?_)
      obtain ⟨⟨z0, z1⟩, _⟩ := HSY.out z hz
      obtain ⟨zn, rfl⟩ := Int.eq_ofNat_of_zero_le z0
      rw [Int.toNat_natCast, ← HDX.out, hd0] at hq
      obtain ⟨k, hk, _⟩ := HSM.out (zn : Int) _ z0 z1 (HDL.out zn z1)
      rw [hk] at hq
      simp at hq
  have hdb : 0 ≤ d ∧ d ≤ 200000 := by
    obtain ⟨k, hk, hk2, _⟩ := HSM.out (xn : Int) d HXR.out.1 HXR.out.2.1 HDD.out
    omega
  have g1 : (d == 0) = ((xn : Int) == (yn : Int)) := by
    have := HFA.out.1
    by_cases he : (xn : Int) = (yn : Int)
    · rw [this.2 he, he]; simp
    · have h2 : (d == 0) = false := by simpa using fun h0 => he (this.1 h0)
      have h3 : ((xn : Int) == (yn : Int)) = false := by simpa using he
      rw [h2, h3]
  obtain ⟨HL, hHL⟩ : ∃ HL, HL = (nearL dl xn (nbS kind l (xn : Int))).length := ⟨_, rfl⟩
  rw [← hHL] at HHE ⊢
  have g2 : ((HL : Int) == 0) = ((xn : Int) == (yn : Int)) := by
    have := HHE.out
    by_cases he : (xn : Int) = (yn : Int)
    · rw [this.2 he, he]; simp
    · have h2 : ((HL : Int) == 0) = false := by
        have : HL ≠ 0 := fun h0 => he (HHE.out.1 h0)
        simpa using this
      have h3 : ((xn : Int) == (yn : Int)) = false := by simpa using he
      rw [h2, h3]
  have gdd : (d != d) = false := by simp
  obtain ⟨d0, d9⟩ := hdb
  have HHL := Lib.hid hHL
  obtain ⟨LL, hLL⟩ : ∃ LL, LL = (nbS kind l (xn : Int)).length := ⟨_, rfl⟩
  have hLb : LL ≤ 100000 := by rw [hLL]; exact HNL.out
  rw [← hLL]
  have HLL := Lib.hid hLL
  clear hHL hLL
  have HLK : Hid (linkB (nbS kind l (xn : Int)) (yn : Int) 0 = false) := by show _ = _; unfold linkB; simp
  have HR0 : Hid (Below w.heap.size w w6 ∧ w6.heap[w.heap.size]? = some (.cells #[.int .i64 kind, .slice sa N sc, .int .i64 hosts] 24 (0, 0)) ∧ Below w6.heap.size w6 w6) := ⟨HB6.out, Q6.out, Below.refl _ _⟩
  clear HB6 Q6
  go_wp2_with fail
  go_loopw [19, 20] (fun lv iv wr => ∃ i : Nat, i ≤ LL ∧ iv = .int .i64 (i : Int) ∧ lv = .bool (linkB (nbS kind l (xn : Int)) (yn : Int) i) ∧ Hid (Below w.heap.size w wr ∧ wr.heap[w.heap.size]? = some (.cells #[.int .i64 kind, .slice sa N sc, .int .i64 hosts] 24 (0, 0)) ∧ Below w6.heap.size w6 wr)) (fun _ iv _ => LL - (intOf iv).toNat)
  case atStart => exact ⟨0, Nat.zero_le _, rfl, by rw [HLK.out], HR0⟩
  case round =>
    clear HR0 HLK gdd g1 g2
    obtain ⟨i, hi, rfl, rfl, HR⟩ := hrel
    by_cases hlt : i < LL
    · have hiL : i < (nbS kind l (xn : Int)).length := by rw [← HLL.out]; exact hlt
      obtain ⟨gz, oz, rfl, hcz⟩ := HN6.out.at_ (ne_nil_of_lt hiL)
      have HCZ : Hid (∀ W, Below w6.heap.size w6 W → W.cell? ⟨gz, oz + i, none⟩ = some (.int .i64 ((nbS kind l (xn : Int))[i]'hiL))) := fun W hW => (hW.cell (p := ⟨gz, oz + i, none⟩) (block_lt_of_cell (hcz i hiL))).trans (hcz i hiL)
      have HZM : Hid ((nbS kind l (xn : Int))[i]'hiL ∈ nbS kind l (xn : Int)) := List.getElem_mem hiL
      have HLS := Lib.hid (linkB_succ (y := (yn : Int)) hiL)
      have hlim : i ≤ 100000 := by omega
      generalize (nbS kind l (xn : Int))[i]'hiL = z at *
      obtain ⟨lk, hlk⟩ : ∃ lk, lk = linkB (nbS kind l (xn : Int)) (yn : Int) i := ⟨_, rfl⟩
      rw [← hlk] at HLS ⊢
      clear hcz hiL hlk
      have cS := cellR 0 HR.out.2.1 rfl
      go_wp2_with fail
      refine (wpIn_wide (n := 0)).1 ?_
      refine region_det (by kernel_rfl) (I := fun listed a' w' => ∃ mm : Int, Hid (Below w.heap.size w w' ∧ w'.heap[w.heap.size]? = some (.cells #[.int .i64 kind, .slice sa N sc, .int .i64 hosts] 24 (0, 0)) ∧ Below w6.heap.size w6 w') ∧ Hid (listed.getD 6 false = true → DistAt (nbS kind l) (yn : Int) z mm) ∧ Hid (listed.getD 7 false = true → listed.getD 6 false = true) ∧ Hid (listed.getD 8 false = true → listed.getD 6 false = true) ∧ Hid (listed.getD 10 false = true → listed.getD 6 false = true) ∧ a' = ⟨#[Value.agg #[Value.int IntKind.i64 kind, Value.slice sa N sc, Value.int IntKind.i64 hosts], Value.int IntKind.u8 a, Value.int IntKind.u8 b, Value.pointer (some (Addr.mk w.heap.size 0 none)), undef, undef, u6, Value.int IntKind.i64 n, Value.int IntKind.i64 m, Value.int IntKind.i64 ↑xn, Value.int IntKind.i64 ↑yn, Value.int IntKind.i64 d, Value.int IntKind.i64 0, Value.int IntKind.i64 d, Value.int IntKind.i64 0, Value.slice (some (Addr.mk gz oz none)) LL nc, Value.int IntKind.i64 0, Value.slice ha6 HL hc6, Value.int IntKind.i64 0, Value.bool lk, Value.int IntKind.i64 ↑i, (if listed.getD 10 false = true then Value.int IntKind.i64 (mm) else u21), (if listed.getD 11 false = true then Value.int IntKind.i64 (0) else u22), undef, undef, undef, undef, Value.tuple #[Value.int IntKind.i64 n, Value.int IntKind.i64 m], Value.agg #[Value.int IntKind.i64 kind, Value.slice sa N sc, Value.int IntKind.i64 hosts], Value.tuple #[Value.int IntKind.i64 n, Value.int IntKind.i64 m], Value.int IntKind.i64 n, Value.int IntKind.i64 m, Value.int IntKind.i64 n, Value.bool false, undef, Value.int IntKind.u8 a, Value.int IntKind.i64 a, Value.int IntKind.i64 n, Value.int IntKind.i64 ↑xn, Value.int IntKind.u8 b, Value.int IntKind.i64 b, Value.int IntKind.i64 n, Value.int IntKind.i64 ↑yn, Value.tuple #[Value.int IntKind.i64 d, Value.int IntKind.i64 0], Value.agg #[Value.int IntKind.i64 kind, Value.slice sa N sc, Value.int IntKind.i64 hosts], Value.int IntKind.i64 ↑xn, Value.int IntKind.i64 ↑yn, Value.tuple #[Value.int IntKind.i64 d, Value.int IntKind.i64 0], Value.int IntKind.i64 d, Value.int IntKind.i64 0, Value.tuple #[Value.int IntKind.i64 d, Value.int IntKind.i64 0], Value.agg #[Value.int IntKind.i64 kind, Value.slice sa N sc, Value.int IntKind.i64 hosts], Value.int IntKind.i64 ↑yn, Value.int IntKind.i64 ↑xn, Value.tuple #[Value.int IntKind.i64 d, Value.int IntKind.i64 0], Value.int IntKind.i64 d, Value.int IntKind.i64 0, Value.tuple #[Value.slice (some (Addr.mk gz oz none)) LL nc, Value.int IntKind.i64 0], Value.agg #[Value.int IntKind.i64 kind, Value.slice sa N sc, Value.int IntKind.i64 hosts], Value.int IntKind.i64 ↑xn, Value.tuple #[Value.slice (some (Addr.mk gz oz none)) LL nc, Value.int IntKind.i64 0], Value.slice (some (Addr.mk gz oz none)) LL nc, Value.int IntKind.i64 0, Value.tuple #[Value.slice ha6 HL hc6, Value.int IntKind.i64 0], Value.agg #[Value.int IntKind.i64 kind, Value.slice sa N sc, Value.int IntKind.i64 hosts], Value.int IntKind.i64 ↑xn, Value.int IntKind.i64 ↑yn, Value.tuple #[Value.slice ha6 HL hc6, Value.int IntKind.i64 0], Value.slice ha6 HL hc6, Value.int IntKind.i64 0, Value.int IntKind.i64 0, Value.bool false, Value.bool false, Value.int IntKind.i64 0, Value.bool false, Value.bool false, Value.bool false, Value.int IntKind.i64 0, Value.bool false, Value.bool false, Value.bool false, Value.int IntKind.i64 0, Value.bool false, Value.bool false, Value.bool false, Value.int IntKind.i64 d, Value.int IntKind.i64 d, Value.bool false, Value.bool false, Value.bool false, Value.int IntKind.i64 d, Value.bool ((xn : Int) == (yn : Int)), Value.int IntKind.i64 ↑xn, Value.int IntKind.i64 ↑yn, Value.bool ((xn : Int) == (yn : Int)), Value.bool false, Value.bool false, Value.bool false, Value.slice ha6 HL hc6, Value.int IntKind.i64 ↑HL, Value.bool ((xn : Int) == (yn : Int)), Value.int IntKind.i64 ↑xn, Value.int IntKind.i64 ↑yn, Value.bool ((xn : Int) == (yn : Int)), Value.bool false, Value.bool false, Value.int IntKind.i64 ↑i, Value.slice (some (Addr.mk gz oz none)) LL nc, Value.int IntKind.i64 ↑LL, Value.bool true, u110, u111, (if listed.getD 7 false = true then Value.tuple #[Value.int IntKind.i64 (mm), Value.int IntKind.i64 (0)] else u112), (if listed.getD 0 false = true then Value.agg #[.int .i64 kind, .slice sa N sc, .int .i64 hosts] else u113), (if listed.getD 1 false = true then Value.slice (some ⟨gz, oz, none⟩) LL nc else u114), (if listed.getD 2 false = true then Value.int IntKind.i64 ((i : Int)) else u115), (if listed.getD 3 false = true then Value.pointer (some ⟨gz, oz + i, none⟩) else u116), (if listed.getD 4 false = true then Value.int IntKind.i64 (z) else u117), (if listed.getD 5 false = true then Value.int IntKind.i64 ((yn : Int)) else u118), (if listed.getD 6 false = true then Value.tuple #[Value.int IntKind.i64 (mm), Value.int IntKind.i64 (0)] else u119), (if listed.getD 8 false = true then Value.int IntKind.i64 (mm) else u120), (if listed.getD 9 false = true then Value.int IntKind.i64 (0) else u121), u122, u123, u124, u125, u126, u127, u128, u129, u130, u131, u132, u133, u134, u135, u136, u137, u138, u139, u140, u141, u142, u143, u144, u145, u146, u147, u148, u149, u150, u151, u152, u153, u154, u155, u156, u157, undef, undef, undef, undef, undef, undef, undef, undef, undef, undef, undef, undef, undef, undef, undef, undef, undef, undef, undef, undef, undef, undef, undef, undef, undef, undef, undef, undef, undef, undef, undef, undef, undef, undef, undef, undef, undef, undef, undef, undef, undef, undef, undef, undef, undef, undef, undef, undef, undef, undef, undef, undef, undef, undef, undef, undef, undef, undef, undef, undef, undef, undef, undef, undef, undef, undef, undef, undef, undef], []⟩) (hup_check (by kernel_rfl)) ?h0 ?step ?fin
      case h0 => exact ⟨0, ⟨HR.out.1.drew, HR.out.2.1, HR.out.2.2.drew⟩, (fun h => by simp at h), (fun h => by simp at h), (fun h => by simp at h), (fun h => by simp at h), rfl⟩
      case step =>
        intro listed a' w' i hs hbi hdep hi ⟨mm, IB, IV, J7, J8, J10, ha⟩
        obtain ⟨ls⟩ := listed
        match ls, hs with
        | [x0, x1, x2, x3, x4, x5, x6, x7, x8, x9, x10, x11], _ =>
        subst ha
        have hi' : i = 0 ∨ i = 1 ∨ i = 2 ∨ i = 3 ∨ i = 4 ∨ i = 5 ∨ i = 6 ∨ i = 7 ∨ i = 8 ∨ i = 9 ∨ i = 10 ∨ i = 11 := by simp at hi; omega
        rcases hi' with rfl | rfl | rfl | rfl | rfl | rfl | rfl | rfl | rfl | rfl | rfl | rfl
        · obtain rfl : x0 = false := by simpa using hbi
          refine wpOpIn_load_row rfl rfl 24 _ rfl w.heap.size rfl 24 _ _ _ IB.out.2.1 Try.underlying24 rfl info24 ?_
          exact ⟨mm, IB, IV, J7, J8, J10, rfl⟩
        · obtain rfl : x1 = false := by simpa using hbi
          refine wpOpIn_plain rfl rfl rfl ?_
          exact ⟨mm, IB, IV, J7, J8, J10, rfl⟩
        · obtain rfl : x2 = false := by simpa using hbi
          refine wpOpIn_plain rfl rfl rfl ?_
          exact ⟨mm, IB, IV, J7, J8, J10, rfl⟩
        · obtain rfl : x3 = false := by simpa using hbi
          obtain rfl : x1 = true := hdep _ rfl ⟨1, .data⟩ (by simp) rfl
          obtain rfl : x2 = true := hdep _ rfl ⟨2, .data⟩ (by simp) rfl
          refine wpOpIn_plain (v := Value.pointer (some ⟨gz, oz + i, none⟩)) (w' := w') rfl rfl ?_ ?_
          · go_simp
          exact ⟨mm, IB, IV, J7, J8, J10, rfl⟩
        · obtain rfl : x4 = false := by simpa using hbi
          obtain rfl : x3 = true := hdep _ rfl ⟨3, .data⟩ (by simp) rfl
          have c9 := HCZ.out _ IB.out.2.2
          refine wpOpIn_plain (v := Value.int IntKind.i64 (z)) (w' := w') rfl rfl (by simp [Oper.semAt, execOp, go_sem, c9]) ?_
          exact ⟨mm, IB, IV, J7, J8, J10, rfl⟩
        · obtain rfl : x5 = false := by simpa using hbi
          refine wpOpIn_plain rfl rfl rfl ?_
          exact ⟨mm, IB, IV, J7, J8, J10, rfl⟩
        · obtain rfl : x6 = false := by simpa using hbi
          obtain rfl : x0 = true := hdep _ rfl ⟨0, .data⟩ (by simp) rfl
          obtain rfl : x4 = true := hdep _ rfl ⟨4, .data⟩ (by simp) rfl
          obtain rfl : x5 = true := hdep _ rfl ⟨5, .data⟩ (by simp) rfl
          obtain rfl : x7 = false := Bool.eq_false_iff.2 fun h => by have := J7.out h; cases this
          obtain rfl : x8 = false := Bool.eq_false_iff.2 fun h => by have := J8.out h; cases this
          obtain rfl : x10 = false := Bool.eq_false_iff.2 fun h => by have := J10.out h; cases this
          refine wpOpIn_call (args := #[Value.agg #[.int .i64 kind, .slice sa N sc, .int .i64 hosts], Value.int IntKind.i64 (z), Value.int IntKind.i64 ((yn : Int))]) rfl rfl (sem_call3 rfl rfl rfl rfl (enters_of Try.func26 (by kernel_rfl) rfl)) (HDI.out w' IB.out.1 z (yn : Int) (HSY.out z HZM.out).1.1 (HSY.out z HZM.out).1.2 HXR.out.2.2.1 HXR.out.2.2.2) ?_
          rintro e V ⟨m2, rfl, hm2, hb2⟩
          exact ⟨_, rfl, m2, ⟨IB.out.1.trans (hb2.mono IB.out.1.size), heapB hb2 IB.out.2.1, IB.out.2.2.trans (hb2.mono IB.out.2.2.size)⟩, (fun _ => hm2), (fun _ => rfl), (fun _ => rfl), (fun _ => rfl), rfl⟩
        · obtain rfl : x7 = false := by simpa using hbi
          obtain rfl : x6 = true := hdep _ rfl ⟨6, .data⟩ (by simp) rfl
          refine wpOpIn_plain rfl rfl rfl ?_
          exact ⟨mm, IB, IV, (fun _ => rfl), J8, J10, rfl⟩
        · obtain rfl : x8 = false := by simpa using hbi
          obtain rfl : x7 = true := hdep _ rfl ⟨7, .data⟩ (by simp) rfl
          refine wpOpIn_plain rfl rfl rfl ?_
          exact ⟨mm, IB, IV, J7, (fun _ => J7.out rfl), J10, rfl⟩
        · obtain rfl : x9 = false := by simpa using hbi
          obtain rfl : x7 = true := hdep _ rfl ⟨7, .data⟩ (by simp) rfl
          refine wpOpIn_plain rfl rfl rfl ?_
          exact ⟨mm, IB, IV, J7, J8, J10, rfl⟩
        · obtain rfl : x10 = false := by simpa using hbi
          obtain rfl : x8 = true := hdep _ rfl ⟨8, .data⟩ (by simp) rfl
          refine wpOpIn_plain rfl rfl rfl ?_
          exact ⟨mm, IB, IV, J7, J8, (fun _ => J8.out rfl), rfl⟩
        · obtain rfl : x11 = false := by simpa using hbi
          obtain rfl : x9 = true := hdep _ rfl ⟨9, .data⟩ (by simp) rfl
          refine wpOpIn_plain rfl rfl rfl ?_
          exact ⟨mm, IB, IV, J7, J8, J10, rfl⟩
      case fin =>
      intro listed a' w7 hs hall ⟨mm, IB, IV, J7, J8, J10, ha⟩
      obtain ⟨ls⟩ := listed
      match ls, hs with
      | [x0, x1, x2, x3, x4, x5, x6, x7, x8, x9, x10, x11], _ =>
      obtain rfl : x0 = true := hall 0 (by simp)
      obtain rfl : x1 = true := hall 1 (by simp)
      obtain rfl : x2 = true := hall 2 (by simp)
      obtain rfl : x3 = true := hall 3 (by simp)
      obtain rfl : x4 = true := hall 4 (by simp)
      obtain rfl : x5 = true := hall 5 (by simp)
      obtain rfl : x6 = true := hall 6 (by simp)
      obtain rfl : x7 = true := hall 7 (by simp)
      obtain rfl : x8 = true := hall 8 (by simp)
      obtain rfl : x9 = true := hall 9 (by simp)
      obtain rfl : x10 = true := hall 10 (by simp)
      obtain rfl : x11 = true := hall 11 (by simp)
      subst ha
      have hmd := IV.out rfl
      have HR7 : Hid _ := IB
      clear IV IB hs hall HR
      obtain ⟨e1, e2⟩ := HFA.out.2.1 z HZM.out mm hmd
      have HCN := Lib.hid (contains_any (HHI.out.keep HR7.out.2.2) hc6 z)
      have hce : decide (z ∈ nearL dl xn (nbS kind l (xn : Int))) = (mm == d - 1) := by
        obtain ⟨⟨z0, z1⟩, _⟩ := HSY.out z HZM.out
        obtain ⟨zn, rfl⟩ := Int.eq_ofNat_of_zero_le z0
        have h3 := hmd.unique (HDL.out zn z1)
        rw [Bool.eq_iff_iff, decide_eq_true_eq]
        unfold nearL
        rw [List.mem_filter, Int.toNat_natCast, ← h3, ← HDX.out]
        exact ⟨fun h => h.2, fun h => ⟨HZM.out, h⟩⟩
      rw [hce, ← HHL.out] at HCN
      have n1 : decide (mm < d - 1) = false := decide_eq_false (by omega)
      have n2 : decide (mm > d + 1) = false := decide_eq_false (by omega)
      have cz := HCZ.out _ HR7.out.2.2
      clear hce hmd
      go_wp2_with fail
      refine HCN.out.mono ?_
      rintro e w8 ⟨rfl, rfl⟩
      clear HCN
      cases lk with
      | true =>
        go_wp2_with fail
        go_roundw
        case rel => exact ⟨i + 1, by omega, by go_num, by rw [HLS.out]; rfl, HR7⟩
        case measure => simp [intOf]; omega
      | false =>
        go_wp2_with fail
        go_roundw
        case rel => exact ⟨i + 1, by omega, by go_num, by rw [HLS.out]; rfl, HR7⟩
        case measure => simp [intOf]; omega
    · have hiN : i = LL := by omega
      subst hiN
      have HLF : Hid (linkB (nbS kind l (xn : Int)) (yn : Int) i = (d == 1)) := by
        have h3 := HFA.out.2.2.1
        show _ = _
        unfold linkB
        rw [List.take_of_length_le (by rw [← HLL.out]; exact Nat.le_refl _), Bool.eq_iff_iff, decide_eq_true_eq, h3]
        simp
      rw [HLF.out]
      have cS := cellR 0 HR.out.2.1 rfl
      have c1 := cellR 1 HR.out.2.1 rfl
      have c2 := cellR 2 HR.out.2.1 rfl
      by_cases hk : kind = 1
      · subst hk
        have hpl : ∀ p : Int, 0 ≤ p → p < swI 1 l → plaE 1 l hosts p = 0 := fun p p0 p1 => by
          unfold plaE
          rw [if_pos HVV.out, if_pos (by simp [inB]; omega)]
        have HP1 : Hid (∀ W, Below w.heap.size w W → ∀ p : Int, 0 ≤ p → p < swI 1 l → Calls Try.prog 18 #[.agg #[.int .i64 1, .slice sa N sc, .int .i64 hosts], .int .i64 p] W fun e w' => ∃ g, e = .returned (.tuple #[.slice (some ⟨g, 0, none⟩) N N, .int .i64 0]) ∧ RowAt w' g (coordsL l p) ∧ Below W.heap.size W w') := fun W hW p p0 p1 => by
          refine (HPL.out W hW p).mono ?_
          rintro e w' ⟨hb, ⟨h1, _⟩ | ⟨_, g, rfl, hg, hr⟩⟩
          · exact absurd (hpl p p0 p1) h1
          · have e1 : placeL 1 l p = coordsL l p := by unfold placeL; rw [if_pos rfl]
            rw [e1] at hr ⊢
            have e2 : (coordsL l p).length = N := by rw [HLN.out]; exact cfold_len _ _ _
            rw [e2]
            exact ⟨g, rfl, hr, hb⟩
        have K1 := Lib.hid (HP1.out wr HR.out.1 (xn : Int) HXR.out.1 HXR.out.2.1)
        clear HPL hpl
        go_wp2_with fail
        refine K1.out.mono ?_
        rintro e w7 ⟨gx, rfl, hgx, hb7⟩
        have HB7 := Lib.hid (HR.out.1.trans (hb7.mono HR.out.1.size))
        have Q7 := Lib.hid (heapB hb7 HR.out.2.1)
        have HGX := Lib.hid hgx
        clear K1 hb7 hgx HR cS c1 c2
        have c0 := cellR 0 Q7.out rfl
        have c1 := cellR 1 Q7.out rfl
        have c2 := cellR 2 Q7.out rfl
        have K1 := Lib.hid (HP1.out w7 HB7.out (yn : Int) HXR.out.2.2.1 HXR.out.2.2.2)
        clear HP1
        go_wp2_with fail
        refine K1.out.mono ?_
        rintro e w8 ⟨gy, rfl, hgy, hb8⟩
        have HB8 := Lib.hid (HB7.out.trans (hb8.mono HB7.out.size))
        have Q8 := Lib.hid (heapB hb8 Q7.out)
        have HGX8 := Lib.hid (HGX.out.keep hb8)
        have HGY := Lib.hid hgy
        clear K1 hb8 hgy HB7 Q7 HGX c0 c1 c2
        have c0 := cellR 0 Q8.out rfl
        have c1 := cellR 1 Q8.out rfl
        have c2 := cellR 2 Q8.out rfl
        have hNN : ((N : Int) != (N : Int)) = false := by simp
        obtain ⟨hb4, hbs⟩ := tOk_sides (torus_v HVV.out)
        have hN4 : N ≤ 4 := by rw [HLN.out]; exact hb4.2
        have HBS := Lib.hid hbs
        have hcx := coords_in hbs (xn : Int)
        have hcy := coords_in hbs (yn : Int)
        have HCX := Lib.hid hcx
        have HCY := Lib.hid hcy
        have HSD : Hid (sumR l (coordsL l (xn : Int)) (coordsL l (yn : Int)) N = d) := by
          have e : nbS 1 l = nbL l := by funext q; simp [nbS]
          obtain ⟨_, a2, a3⟩ := torus_route hbs HXR.out.1 HXR.out.2.1 HXR.out.2.2.1 HXR.out.2.2.2
          have h5 := HDD.out
          rw [e] at h5
          show _ = _
          rw [HLN.out, ← a2]
          exact a3.unique h5
        clear hbs hb4 hcx hcy
        go_wp2_with fail
        go_loopw [25, 26] (fun sv iv wr => ∃ k : Nat, k ≤ N ∧ iv = .int .i64 (k : Int) ∧ sv = .int .i64 (sumR l (coordsL l (xn : Int)) (coordsL l (yn : Int)) k) ∧ Hid (Below w.heap.size w wr ∧ wr.heap[w.heap.size]? = some (.cells #[.int .i64 1, .slice sa N sc, .int .i64 hosts] 24 (0, 0)) ∧ RowAt wr gx (coordsL l (xn : Int)) ∧ RowAt wr gy (coordsL l (yn : Int)))) (fun _ iv _ => N - (intOf iv).toNat)
        case atStart => exact ⟨0, Nat.zero_le _, rfl, rfl, HB8.out, Q8.out, HGX8.out, HGY.out⟩
        case round =>
          clear HB8 Q8 HGX8 HGY c0 c1 c2
          obtain ⟨k, hkN, rfl, rfl, HR⟩ := hrel
          obtain ⟨q1, q2, q3, q4⟩ := HR.out
          by_cases hkl : k < N
          · have hkl2 : k < l.length := by rw [← HLN.out]; exact hkl
            have hx9 := (HCX.out).2 k hkl2
            have hy9 := (HCY.out).2 k hkl2
            have hs9 := HBS.out k hkl2
            have hsb := sumR_bound HBS.out HCX.out HCY.out k (by omega)
            have cx := q3.cell k (by rw [(HCX.out).1]; exact hkl2)
            have cy := q4.cell k (by rw [(HCY.out).1]; exact hkl2)
            obtain ⟨gs, os, rfl, hcs⟩ := HII.out.at_ (ne_nil_of_lt hkl2)
            have cs := (q1.cell (p := ⟨gs, os + k, none⟩) (block_lt_of_cell (hcs k hkl2))).trans (hcs k hkl2)
            rw [show (coordsL l (xn : Int))[k]'(by rw [(HCX.out).1]; exact hkl2) = (coordsL l (xn : Int)).getD k 0 by simp [List.getD, (HCX.out).1, hkl2]] at cx
            rw [show (coordsL l (yn : Int))[k]'(by rw [(HCY.out).1]; exact hkl2) = (coordsL l (yn : Int)).getD k 0 by simp [List.getD, (HCY.out).1, hkl2]] at cy
            rw [show l[k] = l.getD k 0 by simp [List.getD, hkl2]] at cs
            have HSS : Hid (sumR l (coordsL l (xn : Int)) (coordsL l (yn : Int)) (k + 1) = sumR l (coordsL l (xn : Int)) (coordsL l (yn : Int)) k + rgI (l.getD k 0) ((coordsL l (xn : Int)).getD k 0) ((coordsL l (yn : Int)).getD k 0)) := rfl
            have hrb := rg_nonneg hx9.1 hx9.2 hy9.1 hy9.2
            generalize sumR l (coordsL l (xn : Int)) (coordsL l (yn : Int)) k = sk at *
            generalize (coordsL l (xn : Int)).getD k 0 = ax at *
            generalize (coordsL l (yn : Int)).getD k 0 = ay at *
            generalize l.getD k 0 = al at *
            have HRG : Hid (∀ W, Calls Try.prog 30 #[.int .i64 ax, .int .i64 ay, .int .i64 al] W fun e w' => e = .returned (.int .i64 (rgI al ax ay)) ∧ w' = W) := fun W => (ring_any ax ay al (by omega) (by omega) (by omega) (by omega) (by omega) (by omega) W).mono fun e w' hq => ⟨hq.1, hq.2.symm⟩
            generalize rgI al ax ay = rg at *
            have c1 := cellR 1 q2 rfl
            obtain ⟨sk0, sk1⟩ := hsb
            obtain ⟨rg0, rg1⟩ := hrb
            have al1 := hs9.2
            clear hcs hx9 hy9 hs9 hkl2 q2 q3 q4 q1
            go_wp2_with fail
            go_quiet (first | (go_at_call 30; refine Calls.quiet_of_same (HRG.out _)))
            have HR9 : Hid (Below w.heap.size w (wr.drewN nq) ∧ (wr.drewN nq).heap[w.heap.size]? = some (.cells #[.int .i64 1, .slice (some ⟨gs, os, none⟩) N sc, .int .i64 hosts] 24 (0, 0)) ∧ RowAt (wr.drewN nq) gx (coordsL l (xn : Int)) ∧ RowAt (wr.drewN nq) gy (coordsL l (yn : Int))) := ⟨below_drewN HR.out.1 _, HR.out.2.1, HR.out.2.2.1, HR.out.2.2.2⟩
            clear HR cx cy cs c1
            generalize wr.drewN nq = W9 at *
            go_wp2_with fail
            go_roundw
            case rel => exact ⟨k + 1, by omega, by go_num, by rw [HSS.out], HR9⟩
            case measure => simp [intOf]; omega
          · have hkE : k = N := by omega
            subst hkE
            rw [HSD.out]
            have K10 := Lib.hid (HWK.out wr)
            have HBF := Lib.hid q1
            clear q1 q2 q3 q4 HR
            have hdd : (d == d) = true := by simp
            go_wp2_with fail
            refine K10.out.mono ?_
            rintro e w9 ⟨rfl, hb9⟩
            have HB9 := Lib.hid (HBF.out.trans (hb9.mono HBF.out.size))
            clear hb9
            go_wp2_with fail
            go_ret
            exact ⟨rfl, HB9.out⟩
      · have e1 : (kind == 1) = false := by simpa using hk
        have K10 := Lib.hid (HWK.out wr)
        go_wp2_with fail
        refine K10.out.mono ?_
        rintro e w7 ⟨rfl, hb7⟩
        have HB7 := Lib.hid (HR.out.1.trans (hb7.mono HR.out.1.size))
        clear hb7
        go_wp2_with fail
        go_ret
        exact ⟨rfl, HB7.out⟩
theorem NetMetric_walk {w : World} {sa : Option Addr} {l : List Int} (h : Ints w sa l) (sc : Nat) (kind hosts : Int) {a b : Int} (ha : (Lit.int .u8 a).wf = true) (hb : (Lit.int .u8 b).wf = true) :
    Calls Try.prog 5 #[.agg #[.int .i64 kind, .slice sa l.length sc, .int .i64 hosts], .int .u8 a, .int .u8 b] w fun e w' => e = .returned (.bool true) ∧ Below w.heap.size w w' := by
  by_cases hv : vOk kind l hosts ∧ swI kind l ≤ 64
  · exact NetMetric_ok h sc kind hosts a b hv.1 hv.2 (u8_range ha).1 (u8_range hb).1 (u8_range ha).2 (u8_range hb).2
  · exact NetMetric_bad h sc kind hosts a b hv
end Go.Proofs.Ytbhkenphcahifaa

namespace Go.Proofs.Ytbhkenphcahifaa.netMetric
open Go.ChangeShapes Go.WideShapes Go.ChangeAt Go.RowKit

set_option maxRecDepth 100000 in
theorem lifted (os : Os) (started : os.Started) (H : Type) (enc : TypeId × Value → H) :
    ReturnsInHanded {} Try.checked os 5 .any (Rows.netMetricSpec.pre6 enc Try.prog Try.f5 Rows.netMetricRow.domain false) (Rows.netMetricSpec.post enc Try.prog Try.f5 false true false false) := by
  refine returnsInHanded_of_change_sized (C := Try.checked) own started (by kernel_rfl) Try.func5
    (ChangeSpec.witness6 (enc := enc) (C := Try.checked) false ⟨#[], #[.agg #[.int .i64 0, .slice none 0 0, .int .i64 0], .int .u8 0, .int .u8 0], []⟩ 8 (by kernel_rfl) (by kernel_rfl) (by kernel_rfl) (by kernel_rfl)) ?_
  intro W base args ds gs before hval0 hW hcnd hsz0 _
  have hval : ∀ (j : Nat) t v, Try.f5.params[j]? = some t → args[j]? = some v → Value.okWide Try.prog W .any base t v := hval0
  have hsz : (DataW.weightsEach Try.prog (Try.f5.params.toList ++ Rows.netMetricSpec.plain.varTypes Try.prog) (ds ++ gs)).all (· ≤ reachBytes) = true := hsz0
  have hW' := hW
  obtain ⟨p, q, hA0, hV, rfl, hfz, hnd⟩ := hW
  have hA : DataW.TrodAll enc Try.prog W 0 (fun _ => true) true Try.f5.params.toList args.toList ds p := hA0
  have hA1 := hA
  rw [Try.params5] at hA hval hsz
  obtain ⟨v0, vs0, d0, ds0, p0, q0, hargs, rfl, rfl, h0, r0⟩ := trodAll_cons hA
  obtain ⟨v1, vs1, d1, ds1, p1, q1, rfl, rfl, rfl, h1, r1⟩ := trodAll_cons r0
  obtain ⟨v2, vs2, d2, ds2, p2, q2, rfl, rfl, rfl, h2, r2⟩ := trodAll_cons r1
  obtain ⟨rfl, rfl, rfl⟩ := trodAll_nil r2
  obtain rfl : args = #[v0, v1, v2] := by cases args; simp_all
  obtain ⟨rfl, rfl⟩ := trodVars_none hV
  obtain ⟨k0, o0, x0, cap0, l0, rfl, hc0, hn0, hI0, hw0, wk0, wo0⟩ := spec_of_trod (hval 0 24 v0 rfl rfl) h0 (j := 0) hsz rfl rfl
  obtain ⟨a1, rfl, _, _, w1⟩ := open_int Try.underlying5 (hval 1 5 v1 rfl rfl) h1
  obtain ⟨a2, rfl, _, _, w2⟩ := open_int Try.underlying5 (hval 2 5 v2 rfl rfl) h2
  refine (NetMetric_walk hI0 cap0 k0 o0 w1 w2).mono fun e W' ⟨he, hb⟩ => ?_
  subst he
  have hlt : ∀ x ∈ (p0 ++ (p1 ++ (p2 ++ []))), x.block < W.heap.size := fun x hx => hW'.lt x (by simpa using hx)
  refine ⟨_, rfl, _, _, _, [], _, [], hW', (trodAll_cons_mk (shut_bool Try.underlying4 _) trodAll_mk0), below_trodAll hb _ ?_ hA1 hlt, rfl, hb.frame _, fun h => by cases h⟩
  rw [Try.params5]
  exact of_decide_eq_true (by kernel_rfl)

theorem over : Rows.netMetricRow.holds Try.pinned (OpenSpec.ofChange Rows.netMetricSpec) :=
  OpenClaim.holds_of_wide 5 Try.f5 rfl rfl rfl rfl rfl rfl rfl ⟨rfl, rfl, rfl, rfl, rfl⟩ rfl rfl rfl rfl rfl (by kernel_rfl) Try.func5 (by kernel_rfl)
    (of_decide_eq_true (by kernel_rfl)) (by unfold Func.isWrapper; first | (rw [if_pos (by decide +kernel)]; kernel_rfl) | (rw [if_neg (by decide +kernel)]; exact ⟨rfl, rfl⟩))
    (fun os started H enc _ => lifted os started H enc)
end Go.Proofs.Ytbhkenphcahifaa.netMetric

namespace Go.Proofs.Ytbhkenphcahifaa
/-- the statement -/
theorem netMetric_holds : Rows.NetMetricSaid := netMetric.over
end Go.Proofs.Ytbhkenphcahifaa
