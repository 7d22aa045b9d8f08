/-
  NetPaths returns true at every description of a network and switches, and its arguments read afterwards as they read before. Conditions: none.
-/
import Derived.Test.YtbhkenphcahifaaQNC
import Derived.Test.YtbhkenphcahifaaPI
import Derived.Test.YtbhkenphcahifaaRows
import Derived.Test.YtbhkenphcahifaaOI
import Derived.WalkKit
import Derived.ProofKit
import Derived.OpenShut
import Derived.Carry
import Derived.SizedLaws
namespace Go.Proofs.Ytbhkenphcahifaa
open Go.RowKit Go.Shelf
attribute [local go_sem] Oper.semAt_some
set_option maxRecDepth 100000
set_option maxHeartbeats 4000000

theorem NetPaths_bad {w : World} {sa : Option Addr} {l : List Int} (h : Ints w sa l) (sc : Nat) (kind hosts a b : Int) (hv : ¬ vOk kind l hosts) :
    Calls Try.prog 6 #[.agg #[.int .i64 kind, .slice sa l.length sc, .int .i64 hosts], .int .u8 a, .int .u8 b] w fun e w' => e = .returned (.bool true) ∧ Below w.heap.size w w' := by
  have HB := Lib.hid ((Below.refl w.heap.size w).alloc (Nat.le_refl _) (.cells #[.int .i64 kind, .slice sa l.length sc, .int .i64 hosts] 24))
  have Q0 := Lib.hid (heap_alloc_new w (.cells #[.int .i64 kind, .slice sa l.length sc, .int .i64 hosts] 24))
  have c0 := cellR 0 Q0.out rfl
  have c1 := cellR 1 Q0.out rfl
  have c2 := cellR 2 Q0.out rfl
  have H25 := Lib.hid (size_any (h.keep HB.out) sc kind hosts 256)
  rw [show szM kind l hosts 256 = 0 from if_neg fun h => hv h.1, show hoM kind l hosts 256 = 0 from if_neg fun h => hv h.1] at H25
  have H21 := Lib.hid (fun (W : World) (hb : Below w.heap.size w W) => Route_all (h.keep hb) sc kind hosts 0 0)
  rw [show rteE kind l hosts 0 0 = 2 from if_neg hv] at H21
  have HWK := Lib.hid works_any
  clear h hv
  generalize (rteL kind l hosts 0 0) = RL at *
  generalize l.length = N at *
  go_enter Try.func6, Try.ntmps6
  go_wp2_with fail
  generalize w.alloc (.cells #[.int .i64 kind, .slice sa N sc, .int .i64 hosts] 24) = X at *
  clear c0 c1 c2
  refine H25.out.mono ?_
  rintro e w1 ⟨rfl, hb1⟩
  have HB1 := Lib.hid (HB.out.trans (hb1.mono HB.out.size))
  have q1 := heapB hb1 Q0.out
  have c0 := cellR 0 q1 rfl
  have c1 := cellR 1 q1 rfl
  have c2 := cellR 2 q1 rfl
  have H21b := Lib.hid (H21.out w1 HB1.out)
  clear H25 hb1 Q0 HB H21
  go_wp2_with fail
  refine H21b.out.mono ?_
  rintro e w2 ⟨⟨av, cv, rfl, _⟩, hb2⟩
  have HB2 := Lib.hid (HB1.out.trans (hb2.mono HB1.out.size))
  clear H21b hb2 c0 c1 c2 q1
  generalize RL.length = RN at *
  go_wp2_with fail
  refine (HWK.out w2).mono ?_
  rintro e w3 ⟨rfl, hb3⟩
  have HB3 := Lib.hid (HB2.out.trans (hb3.mono HB2.out.size))
  clear hb3
  go_wp2_with fail
  go_ret
  exact ⟨rfl, HB3.out⟩
theorem NetPaths_ok {w : World} {sa : Option Addr} {l : List Int} (h : Ints w sa l) (sc : Nat) (kind hosts a b : Int) (hv : vOk kind l hosts) (ha : 0 ≤ a) (hb : 0 ≤ b) (ha2 : a ≤ 255) (hb2 : b ≤ 255) :
    Calls Try.prog 6 #[.agg #[.int .i64 kind, .slice sa l.length sc, .int .i64 hosts], .int .u8 a, .int .u8 b] w fun e w' => e = .returned (.bool true) ∧ Below w.heap.size w w' := by
  have HB := Lib.hid ((Below.refl w.heap.size w).alloc (Nat.le_refl _) (.cells #[.int .i64 kind, .slice sa l.length sc, .int .i64 hosts] 24))
  have Q0 := Lib.hid (heap_alloc_new w (.cells #[.int .i64 kind, .slice sa l.length sc, .int .i64 hosts] 24))
  have c0 := cellR 0 Q0.out rfl
  have c1 := cellR 1 Q0.out rfl
  have c2 := cellR 2 Q0.out rfl
  have H25 := Lib.hid (size_any (h.keep HB.out) sc kind hosts 256)
  have hsm := sw_max hv
  obtain ⟨b1, b2, b3, b4, b5, b6⟩ := v_bound hv
  rw [show szM kind l hosts 256 = swI kind l from if_pos ⟨hv, hsm⟩, show hoM kind l hosts 256 = hoI kind l from if_pos ⟨hv, hsm⟩] at H25
  obtain ⟨x, hx⟩ : ∃ x, x = a % swI kind l := ⟨_, rfl⟩
  obtain ⟨y, hy⟩ : ∃ y, y = b % hoI kind l := ⟨_, rfl⟩
  have hx0 : 0 ≤ x := by rw [hx]; exact Int.emod_nonneg _ (by omega)
  have hx1 : x < swI kind l := by rw [hx]; exact Int.emod_lt_of_pos _ (by omega)
  have hy0 : 0 ≤ y := by rw [hy]; exact Int.emod_nonneg _ (by omega)
  have hy1 : y < hoI kind l := by rw [hy]; exact Int.emod_lt_of_pos _ (by omega)
  have hE : rteE kind l hosts x y = 0 := by
    obtain ⟨xn, rfl⟩ := Int.eq_ofNat_of_zero_le hx0
    obtain ⟨yn, rfl⟩ := Int.eq_ofNat_of_zero_le hy0
    exact rte_zero hv hx1 hy1
  obtain ⟨r1, r2, r3⟩ := net_route hv hx0 hx1 hy0 hy1
  have hlen := stepsL_len hE
  have H21 := Lib.hid (fun (W : World) (hb : Below w.heap.size w W) => Route_new (h.keep hb) sc kind hosts x y hE)
  have H23 := Lib.hid (fun (W : World) (hb : Below w.heap.size w W) => Classes_new (h.keep hb) sc kind hosts x y hE)
  have H26 := Lib.hid (fun (W : World) (hb : Below w.heap.size w W) => Distance_ok (h.keep hb) sc kind hosts (x := x) (y := y) hv hx0 hx1 hy0 (by omega))
  have H31 := Lib.hid (fun (W : World) (hb : Below w.heap.size w W) (pa : Option Addr) (pc : Nat) (hp : Ints W pa (x :: (stepsL kind l x y).map (·.1))) => path_ok (h.keep hb) sc kind hosts hv hp pc hx0 hx1 (by simpa using hlen) r1)
  have HWK := Lib.hid works_any
  have HD : Hid (∀ d, DistAt (nbS kind l) y x d → (kind = 3 → ((stepsL kind l x y).length : Int) ≤ 3 ∧ ((stepsL kind l x y).length : Int) ≤ d + 1) ∧ (kind ≠ 3 → ((stepsL kind l x y).length : Int) = d) ∧ 0 ≤ d ∧ d ≤ ((stepsL kind l x y).length : Int)) := by
    intro d hd
    have hw := Chain.back (P := fun z => 0 ≤ z ∧ z < swI kind l) (fun a ha z hz => net_sym hv ha.1 ha.2 z hz) _ x ⟨hx0, hx1⟩ r1
    rw [List.length_map] at hw
    have hdb : 0 ≤ d ∧ d ≤ ((stepsL kind l x y).length : Int) := by
      rcases hd with ⟨_, hno⟩ | ⟨k, rfl, hwk, hmin⟩
      · exact absurd hw (hno _)
      · exact ⟨by omega, by have := hmin _ hw; omega⟩
    refine ⟨fun hk => ?_, fun hk => (r2 hk).unique hd, hdb⟩
    obtain ⟨q1, q2⟩ := r3 hk
    refine ⟨by omega, ?_⟩
    rcases hd with ⟨_, hno⟩ | ⟨k, rfl, hwk, _⟩
    · exact absurd hw (hno _)
    · have := q2 k hwk; omega
  simp only [List.length_map] at H31
  have hne1 : swI kind l ≠ 0 := by omega
  have hne2 : hoI kind l ≠ 0 := by omega
  have d1 : (swI kind l == 0) = false := by simp; omega
  have d2 : decide (hoI kind l < 1) = false := decide_eq_false (by omega)
  have HX := Lib.hid hx
  have HY := Lib.hid hy
  have hln : (stepsL kind l x y).length ≤ 100000 := hlen
  have hxs : x ≤ 1000 := by omega
  have hys : y ≤ 1000 := by omega
  clear h hv r1 r2 r3 hE hlen hx hy hx1 hy1 hsm b1 b2 b3 b4 b5 b6
  generalize (stepsL kind l x y).length = SL at *
  generalize swI kind l = n at *
  generalize hoI kind l = m at *
  generalize l.length = N at *
  go_enter Try.func6, Try.ntmps6
  go_wp2_with fail
  generalize w.alloc (.cells #[.int .i64 kind, .slice sa N sc, .int .i64 hosts] 24) = X at *
  clear c0 c1 c2
  refine H25.out.mono ?_
  rintro e w1 ⟨rfl, hb1⟩
  have HB1 := Lib.hid (HB.out.trans (hb1.mono HB.out.size))
  have Q1 := Lib.hid (heapB hb1 Q0.out)
  clear H25 hb1 Q0 HB
  go_wp2_with fail
  go_quiet (fail)
  rw [← HX.out, ← HY.out]
  have HB2 : Hid (Below w.heap.size w (w1.drewN nq)) := below_drewN HB1.out _
  have Q2 : Hid ((w1.drewN nq).heap[w.heap.size]? = some (.cells #[.int .i64 kind, .slice sa N sc, .int .i64 hosts] 24 (0, 0))) := Q1.out
  clear HB1 Q1 HX HY ha hb ha2 hb2
  generalize w1.drewN nq = W2 at *
  have c0 := cellR 0 Q2.out rfl
  have c1 := cellR 1 Q2.out rfl
  have c2 := cellR 2 Q2.out rfl
  have K21 := Lib.hid (H21.out W2 HB2.out)
  clear H21
  go_wp2_with fail
  refine K21.out.mono ?_
  rintro e w3 ⟨⟨pa, pc, rfl, hpi, _⟩, hb3⟩
  have HB3 := Lib.hid (HB2.out.trans (hb3.mono HB2.out.size))
  have Q3 := Lib.hid (heapB hb3 Q2.out)
  have HPI := Lib.hid hpi
  clear K21 hb3 hpi c0 c1 c2 Q2 HB2
  have c0 := cellR 0 Q3.out rfl
  have c1 := cellR 1 Q3.out rfl
  have c2 := cellR 2 Q3.out rfl
  have K23 := Lib.hid (H23.out w3 HB3.out)
  clear H23
  go_wp2_with fail
  refine K23.out.mono ?_
  rintro e w4 ⟨⟨qa, qc, rfl, _, _⟩, hb4⟩
  have HB4 := Lib.hid (HB3.out.trans (hb4.mono HB3.out.size))
  have Q4 := Lib.hid (heapB hb4 Q3.out)
  have HP4 := Lib.hid (HPI.out.keep hb4)
  clear K23 hb4 c0 c1 c2 Q3 HB3 HPI
  have c0 := cellR 0 Q4.out rfl
  have c1 := cellR 1 Q4.out rfl
  have c2 := cellR 2 Q4.out rfl
  have K26 := Lib.hid (H26.out w4 HB4.out)
  clear H26
  go_wp2_with fail
  refine K26.out.mono ?_
  rintro e w5 ⟨d, rfl, hd, hb5⟩
  have HB5 := Lib.hid (HB4.out.trans (hb5.mono HB4.out.size))
  have Q5 := Lib.hid (heapB hb5 Q4.out)
  have HP5 := Lib.hid (HP4.out.keep hb5)
  have HDD := Lib.hid (HD.out d hd)
  clear K26 hb5 c0 c1 c2 Q4 HB4 HP4 hd HD
  have c0 := cellR 0 Q5.out rfl
  have c1 := cellR 1 Q5.out rfl
  have c2 := cellR 2 Q5.out rfl
  have K31 := Lib.hid (H31.out w5 HB5.out pa pc HP5.out)
  clear H31
  go_wp2_with fail
  refine K31.out.mono ?_
  rintro e w6 ⟨rfl, hb6⟩
  have HB6 := Lib.hid (HB5.out.trans (hb6.mono HB5.out.size))
  have Q6 := Lib.hid (heapB hb6 Q5.out)
  clear K31 hb6 c0 c1 c2 Q5 HB5 HP5
  have c0 := cellR 0 Q6.out rfl
  have hss : ((SL : Int) != (SL : Int)) = false := by simp
  have g3 := HDD.out.2.2.1
  have g4 := HDD.out.2.2.2
  have K10 := Lib.hid (HWK.out w6)
  clear HWK
  by_cases hk : kind = 3
  · subst hk
    obtain ⟨g1, g2⟩ := HDD.out.1 rfl
    go_wp2_with fail
    refine K10.out.mono ?_
    rintro e w7 ⟨rfl, hb7⟩
    have HB7 := Lib.hid (HB6.out.trans (hb7.mono HB6.out.size))
    clear hb7
    go_wp2_with fail
    go_ret
    exact ⟨rfl, HB7.out⟩
  · have g1 := HDD.out.2.1 hk
    have e1 : (kind == 3) = false := by simpa using hk
    have e2 : ((SL : Int) == d) = true := by simp [g1]
    go_wp2_with fail
    refine K10.out.mono ?_
    rintro e w7 ⟨rfl, hb7⟩
    have HB7 := Lib.hid (HB6.out.trans (hb7.mono HB6.out.size))
    clear hb7
    go_wp2_with fail
    go_ret
    exact ⟨rfl, HB7.out⟩
theorem u8_range {a : Int} (h : (Lit.int .u8 a).wf = true) : 0 ≤ a ∧ a ≤ 255 := by
  simp only [Lit.wf, Bool.and_eq_true, decide_eq_true_eq] at h; exact h
theorem NetPaths_walk {w : World} {sa : Option Addr} {l : List Int} (h : Ints w sa l) (sc : Nat) (kind hosts : Int) {a b : Int} (ha : (Lit.int .u8 a).wf = true) (hb : (Lit.int .u8 b).wf = true) :
    Calls Try.prog 6 #[.agg #[.int .i64 kind, .slice sa l.length sc, .int .i64 hosts], .int .u8 a, .int .u8 b] w fun e w' => e = .returned (.bool true) ∧ Below w.heap.size w w' := by
  by_cases hv : vOk kind l hosts
  · exact NetPaths_ok h sc kind hosts a b hv (u8_range ha).1 (u8_range hb).1 (u8_range ha).2 (u8_range hb).2
  · exact NetPaths_bad h sc kind hosts a b hv
end Go.Proofs.Ytbhkenphcahifaa

namespace Go.Proofs.Ytbhkenphcahifaa.netPaths
open Go.ChangeShapes Go.WideShapes Go.ChangeAt Go.RowKit

set_option maxRecDepth 100000 in
theorem lifted (os : Os) (started : os.Started) (H : Type) (enc : TypeId × Value → H) :
    ReturnsInHanded {} Try.checked os 6 .any (Rows.netPathsSpec.pre6 enc Try.prog Try.f6 Rows.netPathsRow.domain false) (Rows.netPathsSpec.post enc Try.prog Try.f6 false true false false) := by
  refine returnsInHanded_of_change_sized (C := Try.checked) own started (by kernel_rfl) Try.func6
    (ChangeSpec.witness6 (enc := enc) (C := Try.checked) false ⟨#[], #[.agg #[.int .i64 0, .slice none 0 0, .int .i64 0], .int .u8 0, .int .u8 0], []⟩ 8 (by kernel_rfl) (by kernel_rfl) (by kernel_rfl) (by kernel_rfl)) ?_
  intro W base args ds gs before hval0 hW hcnd hsz0 _
  have hval : ∀ (j : Nat) t v, Try.f6.params[j]? = some t → args[j]? = some v → Value.okWide Try.prog W .any base t v := hval0
  have hsz : (DataW.weightsEach Try.prog (Try.f6.params.toList ++ Rows.netPathsSpec.plain.varTypes Try.prog) (ds ++ gs)).all (· ≤ reachBytes) = true := hsz0
  have hW' := hW
  obtain ⟨p, q, hA0, hV, rfl, hfz, hnd⟩ := hW
  have hA : DataW.TrodAll enc Try.prog W 0 (fun _ => true) true Try.f6.params.toList args.toList ds p := hA0
  have hA1 := hA
  rw [Try.params6] at hA hval hsz
  obtain ⟨v0, vs0, d0, ds0, p0, q0, hargs, rfl, rfl, h0, r0⟩ := trodAll_cons hA
  obtain ⟨v1, vs1, d1, ds1, p1, q1, rfl, rfl, rfl, h1, r1⟩ := trodAll_cons r0
  obtain ⟨v2, vs2, d2, ds2, p2, q2, rfl, rfl, rfl, h2, r2⟩ := trodAll_cons r1
  obtain ⟨rfl, rfl, rfl⟩ := trodAll_nil r2
  obtain rfl : args = #[v0, v1, v2] := by cases args; simp_all
  obtain ⟨rfl, rfl⟩ := trodVars_none hV
  obtain ⟨k0, o0, x0, cap0, l0, rfl, hc0, hn0, hI0, hw0, wk0, wo0⟩ := spec_of_trod (hval 0 24 v0 rfl rfl) h0 (j := 0) hsz rfl rfl
  obtain ⟨a1, rfl, _, _, w1⟩ := open_int Try.underlying5 (hval 1 5 v1 rfl rfl) h1
  obtain ⟨a2, rfl, _, _, w2⟩ := open_int Try.underlying5 (hval 2 5 v2 rfl rfl) h2
  refine (NetPaths_walk hI0 cap0 k0 o0 w1 w2).mono fun e W' ⟨he, hb⟩ => ?_
  subst he
  have hlt : ∀ x ∈ (p0 ++ (p1 ++ (p2 ++ []))), x.block < W.heap.size := fun x hx => hW'.lt x (by simpa using hx)
  refine ⟨_, rfl, _, _, _, [], _, [], hW', (trodAll_cons_mk (shut_bool Try.underlying4 _) trodAll_mk0), below_trodAll hb _ ?_ hA1 hlt, rfl, hb.frame _, fun h => by cases h⟩
  rw [Try.params6]
  exact of_decide_eq_true (by kernel_rfl)

theorem over : Rows.netPathsRow.holds Try.pinned (OpenSpec.ofChange Rows.netPathsSpec) :=
  OpenClaim.holds_of_wide 6 Try.f6 rfl rfl rfl rfl rfl rfl rfl ⟨rfl, rfl, rfl, rfl, rfl⟩ rfl rfl rfl rfl rfl (by kernel_rfl) Try.func6 (by kernel_rfl)
    (of_decide_eq_true (by kernel_rfl)) (by unfold Func.isWrapper; first | (rw [if_pos (by decide +kernel)]; kernel_rfl) | (rw [if_neg (by decide +kernel)]; exact ⟨rfl, rfl⟩))
    (fun os started H enc _ => lifted os started H enc)
end Go.Proofs.Ytbhkenphcahifaa.netPaths

namespace Go.Proofs.Ytbhkenphcahifaa
/-- the statement -/
theorem netPaths_holds : Rows.NetPathsSaid := netPaths.over
end Go.Proofs.Ytbhkenphcahifaa
