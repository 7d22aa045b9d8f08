import Derived.Test.YtjcdnaandbockaaGq
import Derived.Test.YtjcdnaandbockaaGp
import Derived.Test.YtjcdnaandbockaaGm
namespace Go.Proofs.Ytjcdnaandbockaa
open Go.RowKit Go.Shelf
attribute [local go_sem] Oper.semAt_some run_frombits run_bits
set_option maxRecDepth 100000
set_option maxHeartbeats 2000000

theorem find_sum : findE 1 2 = 0 := by decide
theorem vl_ok {a : Nat} (ha : a < 18446744073709551616) : (⟨a, 0⟩ : Vl).Ok := ⟨ha, by show (-9223372036854775808 : Int) ≤ 0; decide, by show (0 : Int) < 9223372036854775808; decide⟩
theorem vl_al (a : Nat) : allowsB 2 ⟨a, 0⟩ = true := rfl
theorem do_sum {a b : Nat} (ha : a < 18446744073709551616) (hb : b < 18446744073709551616) (w : World) :
    Calls Try.prog 25 #[.int .i64 1, .int .i64 2, .agg #[.int .u64 a, .int .i64 0], .agg #[.int .u64 b, .int .i64 0]] w fun e w' => e = .returned (.tuple #[.agg #[.int .u64 (valueN (joinF (factsN a) (factsN b)) : Nat), .int .i64 0], .int .i64 0]) ∧ Below w.heap.size w w' := by
  have h := do_ok (op := 1) (kind := 2) (u := ⟨a, 0⟩) (v := ⟨b, 0⟩) find_sum (vl_al a) (vl_al b) (vl_ok ha) (vl_ok hb) w
  rw [opV_1_2] at h
  exact h
theorem uls_one {w : World} {a : Nat} (ha : a < 18446744073709551616) : Uls (w.alloc (.cells #[.int .u64 a] 33)) (some ⟨w.heap.size, 0, none⟩) [a] :=
  ⟨by simp, by intro x hx; simp at hx; rw [hx]; exact ha, fun _ => ⟨w.heap.size, 0, rfl, fun i hi => by
    obtain rfl : i = 0 := by simp at hi; omega
    exact cellR 0 (heap_alloc_new w _) rfl⟩⟩
theorem of_one {a : Nat} (ha : a < 18446744073709551616) (w : World) :
    Calls Try.prog 22 #[.slice (some ⟨w.heap.size, 0, none⟩) 1 1] (w.alloc (.cells #[.int .u64 a] 33)) fun e w' => ∃ g, e = .returned (.tuple #[.pointer (some ⟨g, 0, none⟩), .bool true]) ∧ AAt w' g (factsN a) ∧ Below w.heap.size w w' := by
  have h := of_any (uls_one (w := w) ha) 1 (by show 1 ≤ 100; decide)
  refine h.mono ?_
  rintro e w' ⟨rfl, hA, hb⟩
  have hs : fF [a] = factsN a := join_zeroF (factsN_ok ha).V
  rw [hs] at hA
  have h0 : Below w.heap.size w (w.alloc (.cells #[.int .u64 a] 33)) := (Below.refl _ _).alloc (Nat.le_refl _) _
  exact ⟨_, rfl, hA, h0.trans (hb.mono h0.size)⟩
theorem drew_at {w : World} {b : Nat} {cs : Array Value} {t : TypeId} (h : w.heap[b]? = some (.cells cs t (0, 0))) : w.drew.heap[b]? = some (.cells cs t (0, 0)) := h
theorem facts_fit {a : Nat} (ha : a < 18446744073709551616) : absN (factsN a).V < 2 ^ 2240 := by
  have := lim_fit (factsN_ok ha) (lim_one ha) (by decide)
  rwa [top_eq] at this
theorem cmp_anti (x y : Nat) : cmpN x y = - cmpN y x := by unfold cmpN; split <;> split <;> omega
theorem cmp_three (x y : Nat) : cmpN x y = -1 ∨ cmpN x y = 0 ∨ cmpN x y = 1 := by
  unfold cmpN
  split
  · exact .inl rfl
  · split
    · exact .inr (.inr rfl)
    · exact .inr (.inl rfl)
theorem SumFloats_walk (a : Nat) (ha : a < 18446744073709551616) (b : Nat) (hb : b < 18446744073709551616) (w : World) : Calls Try.prog 6 #[.int .u64 a, .int .u64 b] w fun e w' => e = .returned (.bool true) ∧ Below w.heap.size w w' := by
  have hdo := do_sum ha hb w
  have hadd := add_value ha hb
  have HONE := Lib.hid (one_value (x := a) ha)
  have hord := order_level ha hb
  have HOF := Lib.hid (of_one ha)
  have HNA := Lib.hid (fnan_any a ha)
  have HC1 := Lib.hid (Compare_any a b ha hb)
  have HC2 := Lib.hid (Compare_any b a hb ha)
  have HF := Lib.hid (factsN_ok ha)
  have HFT := Lib.hid (facts_fit ha)
  have hrl : valueN (joinF (factsN a) (factsN b)) < 18446744073709551616 := by
    unfold valueN
    have h1 := nearN_le (opp (joinF (factsN a) (factsN b)).V)
    have h2 := nearN_le (joinF (factsN a) (factsN b)).V
    repeat' split
    all_goals omega
  have HCV : Hid (cmpN (levelN b) (levelN a) = -1 ∨ cmpN (levelN b) (levelN a) = 0 ∨ cmpN (levelN b) (levelN a) = 1) := cmp_three _ _
  have HAN := Lib.hid (cmp_anti (levelN a) (levelN b))
  have HLT : Hid (Ieee.double.order a b = some .lt → cmpN (levelN a) (levelN b) = -1) := fun h => by
    have := hord.1 h; unfold cmpN; rw [if_pos this]
  have HGT : Hid (Ieee.double.order a b = some .gt → cmpN (levelN a) (levelN b) = 1) := fun h => by
    have := hord.2 h; unfold cmpN; rw [if_neg (by omega), if_pos this]
  clear hord
  generalize valueN (joinF (factsN a) (factsN b)) = r at *
  generalize cmpN (levelN a) (levelN b) = c1 at *
  generalize cmpN (levelN b) (levelN a) = c2 at *
  go_enter Try.func6, Try.ntmps6
  go_wp2_with fail
  refine hdo.mono ?_
  rintro e w1 ⟨rfl, hb1⟩
  have HB := Lib.hid hb1
  clear hb1 hdo
  have HOR : Hid (FloatKind.f64.format.order a b = Ieee.double.order a b) := rfl
  rcases hadd with ⟨hA, rfl⟩ | ⟨hA, hnr⟩
  · have hfa := run_fadd_nan hA
    go_wp2_with fail
    have HN := Lib.hid (nanW_facts a b (w1.alloc (.cells #[.int .u64 ((9221120237041090560 : Nat) : Int), .int .i64 0] 54)))
    have HC0 := Lib.hid (cellR 0 (drew_at (heap_alloc_new w1 (.cells #[.int .u64 ((9221120237041090560 : Nat) : Int), .int .i64 0] 54))) rfl)
    have HY := Lib.hid ((HB.out.alloc HB.out.size (.cells #[.int .u64 ((9221120237041090560 : Nat) : Int), .int .i64 0] 54)).drew)
    have hfb : ∀ W, (callFunc 24 #[.int .u64 9221120237041090560]).run Try.prog W = .ok (.value (.float .f64 9221120237041090560)) W := fun W => run_frombits 9221120237041090560 W
    rw [show ((9221120237041090560 : Nat) : Int) = 9221120237041090560 from rfl] at HN HC0 HY
    generalize nanW a b (w1.alloc (.cells #[.int .u64 9221120237041090560, .int .i64 0] 54)) = N at *
    generalize (w1.alloc (.cells #[.int .u64 9221120237041090560, .int .i64 0] 54)).drew = Y at *
    have c0 := HC0.out
    clear hfa
    have hfr : ∀ n, Calls Try.prog 26 #[.float .f64 9221120237041090560] (Y.drewN n) fun e w' => e = .returned (.bool true) ∧ w' = Y.drewN n := fun n => (fnan_any 9221120237041090560 (by decide) _).mono fun _ _ ⟨h1, h2⟩ => ⟨h1, h2.symm⟩
    have hfn : ∀ n, Calls Try.prog 26 #[.float .f64 N] (Y.drewN n) fun e w' => e = .returned (.bool true) ∧ w' = Y.drewN n := fun n => (fnan_any N HN.out.2 _).mono fun _ _ ⟨h1, h2⟩ => ⟨by rw [h1, HN.out.1], h2.symm⟩
    have YB : Hid (Below w.heap.size w Y) := HY
    clear HY
    go_big_quiet (first | (go_at_call 26; first | (with_reducible refine Calls.quiet_of_same (hfn _)) | (with_reducible refine Calls.quiet_of_same (hfr _))))
    clear hfn HN hfb
    have ZB := Lib.hid (below_drewN YB.out nq)
    generalize Y.drewN nq = Z at *
    clear hfr YB HC0 c0
    go_wp2_with fail
    refine (HOF.out Z).mono ?_
    rintro e Z1 ⟨g, rfl, hA, hbz⟩
    have HA := Lib.hid hA
    have ZB1 := Lib.hid (ZB.out.trans (hbz.mono ZB.out.size))
    clear hA hbz HOF ZB
    go_wp2_with fail
    refine (HNA.out Z1).mono ?_
    rintro e w' ⟨rfl, rfl⟩
    clear HNA
    have hstep : ∀ (K : World → Prop), (∀ Z2, Hid (Below w.heap.size w Z2) → K Z2) → True := fun _ _ => trivial
    clear hstep
    cases hna : nanB a with
    | true =>
      go_wp2_with fail
      refine (HC1.out _).mono ?_
      rintro e w' ⟨rfl, rfl⟩
      have HO2 := HOR.out
      cases ho : Ieee.double.order a b with
      | none =>
        rw [ho] at HO2
        clear HLT HGT
        go_wp2_with fail
        refine (HC2.out _).mono ?_
        rintro e w' ⟨rfl, rfl⟩
        rcases HCV.out with h9 | h9 | h9
        · have he : c1 = 1 := by have := HAN.out; omega
          subst he
          subst h9
          go_wp2_with fail
          refine (works_any _).mono ?_
          rintro e wz ⟨rfl, hbw⟩
          have HW := ZB1.out.trans (hbw.mono ZB1.out.size)
          go_wp2_with fail
          go_ret
          exact ⟨rfl, HW⟩
        · have he : c1 = 0 := by have := HAN.out; omega
          subst he
          subst h9
          go_wp2_with fail
          refine (works_any _).mono ?_
          rintro e wz ⟨rfl, hbw⟩
          have HW := ZB1.out.trans (hbw.mono ZB1.out.size)
          go_wp2_with fail
          go_ret
          exact ⟨rfl, HW⟩
        · have he : c1 = -1 := by have := HAN.out; omega
          subst he
          subst h9
          go_wp2_with fail
          refine (works_any _).mono ?_
          rintro e wz ⟨rfl, hbw⟩
          have HW := ZB1.out.trans (hbw.mono ZB1.out.size)
          go_wp2_with fail
          go_ret
          exact ⟨rfl, HW⟩
      | some o =>
        rw [ho] at HO2 HLT HGT
        cases o with
        | lt =>
          have he := HLT.out rfl
          subst he
          go_wp2_with fail
          refine (works_any _).mono ?_
          rintro e wz ⟨rfl, hbw⟩
          have HW := ZB1.out.trans (hbw.mono ZB1.out.size)
          go_wp2_with fail
          go_ret
          exact ⟨rfl, HW⟩
        | gt =>
          have he := HGT.out rfl
          subst he
          go_wp2_with fail
          refine (works_any _).mono ?_
          rintro e wz ⟨rfl, hbw⟩
          have HW := ZB1.out.trans (hbw.mono ZB1.out.size)
          go_wp2_with fail
          go_ret
          exact ⟨rfl, HW⟩
        | eq =>
          clear HLT HGT
          go_wp2_with fail
          refine (HC2.out _).mono ?_
          rintro e w' ⟨rfl, rfl⟩
          rcases HCV.out with h9 | h9 | h9
          · have he : c1 = 1 := by have := HAN.out; omega
            subst he
            subst h9
            go_wp2_with fail
            refine (works_any _).mono ?_
            rintro e wz ⟨rfl, hbw⟩
            have HW := ZB1.out.trans (hbw.mono ZB1.out.size)
            go_wp2_with fail
            go_ret
            exact ⟨rfl, HW⟩
          · have he : c1 = 0 := by have := HAN.out; omega
            subst he
            subst h9
            go_wp2_with fail
            refine (works_any _).mono ?_
            rintro e wz ⟨rfl, hbw⟩
            have HW := ZB1.out.trans (hbw.mono ZB1.out.size)
            go_wp2_with fail
            go_ret
            exact ⟨rfl, HW⟩
          · have he : c1 = -1 := by have := HAN.out; omega
            subst he
            subst h9
            go_wp2_with fail
            refine (works_any _).mono ?_
            rintro e wz ⟨rfl, hbw⟩
            have HW := ZB1.out.trans (hbw.mono ZB1.out.size)
            go_wp2_with fail
            go_ret
            exact ⟨rfl, HW⟩
    | false =>
      have hval := HONE.out hna
      have hv := Value_any HA.out HF.out.saw HF.out.V HFT.out
      rw [hval] at hv
      clear hval
      go_wp2_with fail
      refine hv.mono ?_
      rintro e Z2 ⟨rfl, hbz⟩
      have ZB2 := Lib.hid (ZB1.out.trans (hbz.mono ZB1.out.size))
      clear hbz hv ZB1 HA
      have ZB1 := ZB2
      clear ZB2
      go_wp2_with fail
      refine (HC1.out _).mono ?_
      rintro e w' ⟨rfl, rfl⟩
      have HO2 := HOR.out
      cases ho : Ieee.double.order a b with
      | none =>
        rw [ho] at HO2
        clear HLT HGT
        go_wp2_with fail
        refine (HC2.out _).mono ?_
        rintro e w' ⟨rfl, rfl⟩
        rcases HCV.out with h9 | h9 | h9
        · have he : c1 = 1 := by have := HAN.out; omega
          subst he
          subst h9
          go_wp2_with fail
          refine (works_any _).mono ?_
          rintro e wz ⟨rfl, hbw⟩
          have HW := ZB1.out.trans (hbw.mono ZB1.out.size)
          go_wp2_with fail
          go_ret
          exact ⟨rfl, HW⟩
        · have he : c1 = 0 := by have := HAN.out; omega
          subst he
          subst h9
          go_wp2_with fail
          refine (works_any _).mono ?_
          rintro e wz ⟨rfl, hbw⟩
          have HW := ZB1.out.trans (hbw.mono ZB1.out.size)
          go_wp2_with fail
          go_ret
          exact ⟨rfl, HW⟩
        · have he : c1 = -1 := by have := HAN.out; omega
          subst he
          subst h9
          go_wp2_with fail
          refine (works_any _).mono ?_
          rintro e wz ⟨rfl, hbw⟩
          have HW := ZB1.out.trans (hbw.mono ZB1.out.size)
          go_wp2_with fail
          go_ret
          exact ⟨rfl, HW⟩
      | some o =>
        rw [ho] at HO2 HLT HGT
        cases o with
        | lt =>
          have he := HLT.out rfl
          subst he
          go_wp2_with fail
          refine (works_any _).mono ?_
          rintro e wz ⟨rfl, hbw⟩
          have HW := ZB1.out.trans (hbw.mono ZB1.out.size)
          go_wp2_with fail
          go_ret
          exact ⟨rfl, HW⟩
        | gt =>
          have he := HGT.out rfl
          subst he
          go_wp2_with fail
          refine (works_any _).mono ?_
          rintro e wz ⟨rfl, hbw⟩
          have HW := ZB1.out.trans (hbw.mono ZB1.out.size)
          go_wp2_with fail
          go_ret
          exact ⟨rfl, HW⟩
        | eq =>
          clear HLT HGT
          go_wp2_with fail
          refine (HC2.out _).mono ?_
          rintro e w' ⟨rfl, rfl⟩
          rcases HCV.out with h9 | h9 | h9
          · have he : c1 = 1 := by have := HAN.out; omega
            subst he
            subst h9
            go_wp2_with fail
            refine (works_any _).mono ?_
            rintro e wz ⟨rfl, hbw⟩
            have HW := ZB1.out.trans (hbw.mono ZB1.out.size)
            go_wp2_with fail
            go_ret
            exact ⟨rfl, HW⟩
          · have he : c1 = 0 := by have := HAN.out; omega
            subst he
            subst h9
            go_wp2_with fail
            refine (works_any _).mono ?_
            rintro e wz ⟨rfl, hbw⟩
            have HW := ZB1.out.trans (hbw.mono ZB1.out.size)
            go_wp2_with fail
            go_ret
            exact ⟨rfl, HW⟩
          · have he : c1 = -1 := by have := HAN.out; omega
            subst he
            subst h9
            go_wp2_with fail
            refine (works_any _).mono ?_
            rintro e wz ⟨rfl, hbw⟩
            have HW := ZB1.out.trans (hbw.mono ZB1.out.size)
            go_wp2_with fail
            go_ret
            exact ⟨rfl, HW⟩
  · have hfa := run_fadd hA
    go_wp2_with fail
    have HC0 := Lib.hid (cellR 0 (heap_alloc_new w1 (.cells #[.int .u64 (r : Int), .int .i64 0] 54)) rfl)
    have HY := Lib.hid (HB.out.alloc HB.out.size (.cells #[.int .u64 (r : Int), .int .i64 0] 54))
    generalize w1.alloc (.cells #[.int .u64 (r : Int), .int .i64 0] 54) = Y at *
    have c0 := HC0.out
    clear hfa
    have hfr : ∀ n, Calls Try.prog 26 #[.float .f64 r] (Y.drewN n) fun e w' => e = .returned (.bool false) ∧ w' = Y.drewN n := fun n => (fnan_any r hrl _).mono fun _ _ ⟨h1, h2⟩ => ⟨by rw [h1, hnr], h2.symm⟩
    have YB : Hid (Below w.heap.size w Y) := HY
    clear HY
    go_big_quiet (first | (go_at_call 26; refine Calls.quiet_of_same (hfr _)))
    have ZB := Lib.hid (below_drewN YB.out nq)
    generalize Y.drewN nq = Z at *
    clear hfr YB HC0 c0
    go_wp2_with fail
    refine (HOF.out Z).mono ?_
    rintro e Z1 ⟨g, rfl, hA, hbz⟩
    have HA := Lib.hid hA
    have ZB1 := Lib.hid (ZB.out.trans (hbz.mono ZB.out.size))
    clear hA hbz HOF ZB
    go_wp2_with fail
    refine (HNA.out Z1).mono ?_
    rintro e w' ⟨rfl, rfl⟩
    clear HNA
    have hstep : ∀ (K : World → Prop), (∀ Z2, Hid (Below w.heap.size w Z2) → K Z2) → True := fun _ _ => trivial
    clear hstep
    cases hna : nanB a with
    | true =>
      go_wp2_with fail
      refine (HC1.out _).mono ?_
      rintro e w' ⟨rfl, rfl⟩
      have HO2 := HOR.out
      cases ho : Ieee.double.order a b with
      | none =>
        rw [ho] at HO2
        clear HLT HGT
        go_wp2_with fail
        refine (HC2.out _).mono ?_
        rintro e w' ⟨rfl, rfl⟩
        rcases HCV.out with h9 | h9 | h9
        · have he : c1 = 1 := by have := HAN.out; omega
          subst he
          subst h9
          go_wp2_with fail
          refine (works_any _).mono ?_
          rintro e wz ⟨rfl, hbw⟩
          have HW := ZB1.out.trans (hbw.mono ZB1.out.size)
          go_wp2_with fail
          go_ret
          exact ⟨rfl, HW⟩
        · have he : c1 = 0 := by have := HAN.out; omega
          subst he
          subst h9
          go_wp2_with fail
          refine (works_any _).mono ?_
          rintro e wz ⟨rfl, hbw⟩
          have HW := ZB1.out.trans (hbw.mono ZB1.out.size)
          go_wp2_with fail
          go_ret
          exact ⟨rfl, HW⟩
        · have he : c1 = -1 := by have := HAN.out; omega
          subst he
          subst h9
          go_wp2_with fail
          refine (works_any _).mono ?_
          rintro e wz ⟨rfl, hbw⟩
          have HW := ZB1.out.trans (hbw.mono ZB1.out.size)
          go_wp2_with fail
          go_ret
          exact ⟨rfl, HW⟩
      | some o =>
        rw [ho] at HO2 HLT HGT
        cases o with
        | lt =>
          have he := HLT.out rfl
          subst he
          go_wp2_with fail
          refine (works_any _).mono ?_
          rintro e wz ⟨rfl, hbw⟩
          have HW := ZB1.out.trans (hbw.mono ZB1.out.size)
          go_wp2_with fail
          go_ret
          exact ⟨rfl, HW⟩
        | gt =>
          have he := HGT.out rfl
          subst he
          go_wp2_with fail
          refine (works_any _).mono ?_
          rintro e wz ⟨rfl, hbw⟩
          have HW := ZB1.out.trans (hbw.mono ZB1.out.size)
          go_wp2_with fail
          go_ret
          exact ⟨rfl, HW⟩
        | eq =>
          clear HLT HGT
          go_wp2_with fail
          refine (HC2.out _).mono ?_
          rintro e w' ⟨rfl, rfl⟩
          rcases HCV.out with h9 | h9 | h9
          · have he : c1 = 1 := by have := HAN.out; omega
            subst he
            subst h9
            go_wp2_with fail
            refine (works_any _).mono ?_
            rintro e wz ⟨rfl, hbw⟩
            have HW := ZB1.out.trans (hbw.mono ZB1.out.size)
            go_wp2_with fail
            go_ret
            exact ⟨rfl, HW⟩
          · have he : c1 = 0 := by have := HAN.out; omega
            subst he
            subst h9
            go_wp2_with fail
            refine (works_any _).mono ?_
            rintro e wz ⟨rfl, hbw⟩
            have HW := ZB1.out.trans (hbw.mono ZB1.out.size)
            go_wp2_with fail
            go_ret
            exact ⟨rfl, HW⟩
          · have he : c1 = -1 := by have := HAN.out; omega
            subst he
            subst h9
            go_wp2_with fail
            refine (works_any _).mono ?_
            rintro e wz ⟨rfl, hbw⟩
            have HW := ZB1.out.trans (hbw.mono ZB1.out.size)
            go_wp2_with fail
            go_ret
            exact ⟨rfl, HW⟩
    | false =>
      have hval := HONE.out hna
      have hv := Value_any HA.out HF.out.saw HF.out.V HFT.out
      rw [hval] at hv
      clear hval
      go_wp2_with fail
      refine hv.mono ?_
      rintro e Z2 ⟨rfl, hbz⟩
      have ZB2 := Lib.hid (ZB1.out.trans (hbz.mono ZB1.out.size))
      clear hbz hv ZB1 HA
      have ZB1 := ZB2
      clear ZB2
      go_wp2_with fail
      refine (HC1.out _).mono ?_
      rintro e w' ⟨rfl, rfl⟩
      have HO2 := HOR.out
      cases ho : Ieee.double.order a b with
      | none =>
        rw [ho] at HO2
        clear HLT HGT
        go_wp2_with fail
        refine (HC2.out _).mono ?_
        rintro e w' ⟨rfl, rfl⟩
        rcases HCV.out with h9 | h9 | h9
        · have he : c1 = 1 := by have := HAN.out; omega
          subst he
          subst h9
          go_wp2_with fail
          refine (works_any _).mono ?_
          rintro e wz ⟨rfl, hbw⟩
          have HW := ZB1.out.trans (hbw.mono ZB1.out.size)
          go_wp2_with fail
          go_ret
          exact ⟨rfl, HW⟩
        · have he : c1 = 0 := by have := HAN.out; omega
          subst he
          subst h9
          go_wp2_with fail
          refine (works_any _).mono ?_
          rintro e wz ⟨rfl, hbw⟩
          have HW := ZB1.out.trans (hbw.mono ZB1.out.size)
          go_wp2_with fail
          go_ret
          exact ⟨rfl, HW⟩
        · have he : c1 = -1 := by have := HAN.out; omega
          subst he
          subst h9
          go_wp2_with fail
          refine (works_any _).mono ?_
          rintro e wz ⟨rfl, hbw⟩
          have HW := ZB1.out.trans (hbw.mono ZB1.out.size)
          go_wp2_with fail
          go_ret
          exact ⟨rfl, HW⟩
      | some o =>
        rw [ho] at HO2 HLT HGT
        cases o with
        | lt =>
          have he := HLT.out rfl
          subst he
          go_wp2_with fail
          refine (works_any _).mono ?_
          rintro e wz ⟨rfl, hbw⟩
          have HW := ZB1.out.trans (hbw.mono ZB1.out.size)
          go_wp2_with fail
          go_ret
          exact ⟨rfl, HW⟩
        | gt =>
          have he := HGT.out rfl
          subst he
          go_wp2_with fail
          refine (works_any _).mono ?_
          rintro e wz ⟨rfl, hbw⟩
          have HW := ZB1.out.trans (hbw.mono ZB1.out.size)
          go_wp2_with fail
          go_ret
          exact ⟨rfl, HW⟩
        | eq =>
          clear HLT HGT
          go_wp2_with fail
          refine (HC2.out _).mono ?_
          rintro e w' ⟨rfl, rfl⟩
          rcases HCV.out with h9 | h9 | h9
          · have he : c1 = 1 := by have := HAN.out; omega
            subst he
            subst h9
            go_wp2_with fail
            refine (works_any _).mono ?_
            rintro e wz ⟨rfl, hbw⟩
            have HW := ZB1.out.trans (hbw.mono ZB1.out.size)
            go_wp2_with fail
            go_ret
            exact ⟨rfl, HW⟩
          · have he : c1 = 0 := by have := HAN.out; omega
            subst he
            subst h9
            go_wp2_with fail
            refine (works_any _).mono ?_
            rintro e wz ⟨rfl, hbw⟩
            have HW := ZB1.out.trans (hbw.mono ZB1.out.size)
            go_wp2_with fail
            go_ret
            exact ⟨rfl, HW⟩
          · have he : c1 = -1 := by have := HAN.out; omega
            subst he
            subst h9
            go_wp2_with fail
            refine (works_any _).mono ?_
            rintro e wz ⟨rfl, hbw⟩
            have HW := ZB1.out.trans (hbw.mono ZB1.out.size)
            go_wp2_with fail
            go_ret
            exact ⟨rfl, HW⟩
end Go.Proofs.Ytjcdnaandbockaa

namespace Go.Proofs.Ytjcdnaandbockaa
open Go.RowKit Go.Shelf
attribute [local go_sem] Oper.semAt_some run_frombits run_bits
set_option maxRecDepth 100000
set_option maxHeartbeats 2000000

theorem finite_of {x : Nat} (h1 : nanB x = false) (h2 : infB x = false) : expN x < 2047 := by
  rcases @kinds x with n | i | ⟨_, f⟩
  · rw [h1] at n; cases n
  · unfold infB at h2; rw [decide_eq_true i] at h2; cases h2
  · exact f
theorem add_first {x : Nat} (hx : x < 18446744073709551616) {w : World} {b : Nat} (h : AAt w b ⟨0, 0, 0⟩) :
    Calls Try.prog 18 #[.pointer (some ⟨b, 0, none⟩), .int .u64 x] w fun e w' => e = .returned (.int .i64 0) ∧ AAt w' b (factsN x) ∧ Sole b w w' := by
  have ha := Add_any h ok_zero x hx
  obtain ⟨h1, h2⟩ := res_ok ok_zero (factsN_ok hx) (lim_zero 0) (lim_one hx) (by decide)
  have e : resF ⟨0, 0, 0⟩ (factsN x) = factsN x := by
    have h3 : resF ⟨0, 0, 0⟩ (factsN x) = joinF zeroF (factsN x) := h2
    rw [h3, zeroF_join (factsN_ok hx).V]
  have h1' : resE ⟨0, 0, 0⟩ (factsN x) = 0 := h1
  rw [h1', e] at ha
  exact ha
theorem SumDoubled_walk (x : Nat) (hx : x < 18446744073709551616) (w : World) : Calls Try.prog 10 #[.int .u64 x] w fun e w' => e = .returned (.bool true) ∧ Below w.heap.size w w' := by
  have HNA := Lib.hid (fnan_any x hx)
  have HIN := Lib.hid (finf_any x hx)
  cases hn : nanB x with
  | true =>
    rw [hn] at HNA
    go_enter Try.func10, Try.ntmps10
    go_wp2_with fail
    refine (HNA.out _).mono ?_
    rintro e w' ⟨rfl, rfl⟩
    go_wp2_with fail
    refine (works_any _).mono ?_
    rintro e wz ⟨rfl, hbw⟩
    go_wp2_with fail
    go_ret
    exact ⟨rfl, hbw⟩
  | false =>
    rw [hn] at HNA
    cases hi : infB x with
    | true =>
      rw [hi] at HIN
      go_enter Try.func10, Try.ntmps10
      go_wp2_with fail
      refine (HNA.out _).mono ?_
      rintro e w' ⟨rfl, rfl⟩
      go_wp2_with fail
      refine (HIN.out _).mono ?_
      rintro e w' ⟨rfl, rfl⟩
      go_wp2_with fail
      refine (works_any _).mono ?_
      rintro e wz ⟨rfl, hbw⟩
      go_wp2_with fail
      go_ret
      exact ⟨rfl, hbw⟩
    | false =>
      rw [hi] at HIN
      have hf := finite_of hn hi
      have ho := order_zero hx hf
      have ho2 : (FloatKind.f64.format.order x 0 == some .eq) = decide (x % 9223372036854775808 = 0) := ho
      by_cases h0 : x % 9223372036854775808 = 0
      · rw [decide_eq_true h0] at ho2
        clear ho hf h0 hn hi
        go_enter Try.func10, Try.ntmps10
        go_wp2_with fail
        refine (HNA.out _).mono ?_
        rintro e w' ⟨rfl, rfl⟩
        go_wp2_with fail
        refine (HIN.out _).mono ?_
        rintro e w' ⟨rfl, rfl⟩
        go_wp2_with fail
        refine (works_any _).mono ?_
        rintro e wz ⟨rfl, hbw⟩
        go_wp2_with fail
        go_ret
        exact ⟨rfl, hbw⟩
      · rw [decide_eq_false h0] at ho2
        have hm : magN x ≠ 0 := fun h => h0 (mag_zero.1 h)
        obtain ⟨hs1, hs2⟩ := dbl_start hx hf hm
        have hd0 := dbl_zero hx hf
        have HM := Lib.hid hm
        have HD := Lib.hid hs1
        have HZ := Lib.hid hs2
        have HE := Lib.hid hf
        have HADD := Lib.hid (fun (W : World) (b : Nat) (h : AAt W b ⟨0, 0, 0⟩) => add_first hx h)
        clear ho hf h0 hn hi hm hs1 hs2
        go_enter Try.func10, Try.ntmps10
        go_wp2_with fail
        refine (HNA.out _).mono ?_
        rintro e w' ⟨rfl, rfl⟩
        go_wp2_with fail
        refine (HIN.out _).mono ?_
        rintro e w' ⟨rfl, rfl⟩
        go_wp2_with fail
        refine (New_any w).mono ?_
        rintro e w1 ⟨rfl, hg, hb⟩
        have HG := Lib.hid hg
        have HB := Lib.hid hb
        clear hg hb HNA HIN ho2
        go_wp2_with fail
        refine (HADD.out _ _ HG.out).mono ?_
        rintro e w2 ⟨rfl, hA, hS⟩
        have HA := Lib.hid hA
        have HB2 := Lib.hid (HB.out.trans (hS.below (Nat.le_refl _) HB.out.size))
        clear hA hS HG HB HADD
        have HD0 := Lib.hid hd0
        clear hd0
        go_wp2_with fail
        go_loopw [3, 27] (fun v i wr => ∃ (k : Nat) (f : Facts), k ≤ 2400 ∧ i = .int .i64 k ∧ v = .float .f64 (dblN x k) ∧ Hid (DblF f x k) ∧ Hid (f.zero = 2) ∧ Hid (AAt wr w.heap.size f) ∧ Hid (Below w.heap.size w wr)) (fun _ i _ => 2400 - (intOf i).toNat)
        case atStart => exact ⟨0, factsN x, by omega, rfl, by rw [HD0.out], HD, HZ, HA, HB2⟩
        case round =>
          obtain ⟨k, f, hk, rfl, rfl, HF, HZF, HAR, HBR⟩ := hrel
          by_cases hk2 : k < 2400
          · have HMUL := Lib.hid (run_fmul (dbl_mul x k))
            have HDL := Lib.hid (dbl_lt x (k + 1))
            have hmul := HMUL.out
            go_wp2_with fail
            refine (Copy_any HAR.out).mono ?_
            rintro e w3 ⟨rfl, hC, hb3⟩
            have HC := Lib.hid hC
            have HA3 := Lib.hid (HAR.out.keep hb3)
            have HB3 := Lib.hid (HBR.out.trans (hb3.mono HBR.out.size))
            have hlt := HAR.out.lt
            clear hC hb3 HAR HBR
            have hme := Merge_any HA3.out HA3.out HF.out.ok HF.out.ok
            cases hfit : fitN ((f.V + f.V) % big) with
            | true =>
              have e1 : resE f f = 0 := by unfold resE; rw [if_pos hfit]
              have e2 : resF f f = joinF f f := by unfold resF; rw [if_pos hfit]
              rw [e1, e2] at hme
              have HME := Lib.hid hme
              obtain ⟨hn1, hn2⟩ := HF.out.next HZF.out hfit
              have HN1 := Lib.hid hn1
              have HN2 := Lib.hid hn2
              clear hme hn1 hn2 e1 e2 hfit
              go_wp2_with fail
              refine HME.out.mono ?_
              rintro e w4 ⟨rfl, hA, hS⟩
              have HA4 := Lib.hid hA
              have HB4 := Lib.hid (HB3.out.trans (hS.below (Nat.le_refl _) HB3.out.size))
              clear hA hS HME HC HA3 HB3
              have hv := Value_any HA4.out (by rw [HN1.out.saw]; decide) HN1.out.ok.V (by rw [← top_eq]; exact HN1.out.abs)
              rw [HN1.out.value HM.out] at hv
              have HV := Lib.hid hv
              clear hv
              go_wp2_with fail
              refine HV.out.mono ?_
              rintro e w5 ⟨rfl, hb5⟩
              have HA5 := Lib.hid (HA4.out.keep hb5)
              have HB5 := Lib.hid (HB4.out.trans (hb5.mono HB4.out.size))
              clear hb5 HV HA4 HB4
              go_wp2_with fail
              go_round
              case rel => exact ⟨k + 1, joinF f f, by omega, by go_num, rfl, HN1, HN2, HA5, HB5⟩
              case measure => simp [intOf]; omega
            | false =>
              have e1 : resE f f = 14 := by unfold resE; rw [hfit]; rfl
              have e2 : resF f f = f := by unfold resF; rw [hfit]; rfl
              rw [e1, e2] at hme
              have HME := Lib.hid hme
              have hfar := HF.out.far HE.out (by rw [hfit]; decide)
              clear hme e1 e2 hfit
              go_wp2_with fail
              refine HME.out.mono ?_
              rintro e w4 ⟨rfl, hA, hS⟩
              have HA4 := Lib.hid hA
              have HB4 := Lib.hid (HB3.out.trans (hS.below (Nat.le_refl _) HB3.out.size))
              have HC4 := Lib.hid (hS.keepA HC.out (by omega))
              have hsm := Same_any HA4.out HC4.out HF.out.ok.V HF.out.ok.V
              rw [decide_eq_true (show _ ∧ _ ∧ _ from ⟨rfl, rfl, rfl⟩)] at hsm
              have HSM := Lib.hid hsm
              clear hA hS HME HC HA3 HB3 hsm
              go_wp2_with fail
              refine HSM.out.mono ?_
              rintro e w5 ⟨rfl, hb5⟩
              have HB5 := Lib.hid (HB4.out.trans (hb5.mono HB4.out.size))
              clear HSM hb5 HB4
              go_wp2_with fail
              refine (works_any _).mono ?_
              rintro e wz ⟨rfl, hbw⟩
              have HW := HB5.out.trans (hbw.mono HB5.out.size)
              go_wp2_with fail
              go_ret
              exact ⟨rfl, HW⟩
          · exfalso
            have := HF.out.lt HM.out
            omega
end Go.Proofs.Ytjcdnaandbockaa

namespace Go.Proofs.Ytjcdnaandbockaa
open Go.RowKit Go.Shelf
attribute [local go_sem] Oper.semAt_some run_frombits run_bits
set_option maxRecDepth 100000
set_option maxHeartbeats 2000000

/-- a list of integers of 32 bits in memory -/
structure I32s (w : World) (a : Option Addr) (l : List Int) : Prop where
  len : l.length ≤ 9223372036854775807
  small : ∀ x ∈ l, -2147483648 ≤ x ∧ x < 2147483648
  at_ : l ≠ [] → ∃ g o, a = some ⟨g, o, none⟩ ∧ ∀ i, (h : i < l.length) → w.cell? ⟨g, o + i, none⟩ = some (.int .i32 (l[i]))
theorem I32s.keep {w w' : World} {a : Option Addr} {l : List Int} (h : I32s w a l) (hb : Below w.heap.size w w') : I32s w' a l := by
  refine ⟨h.len, h.small, fun hne => ?_⟩
  obtain ⟨g, o, ha, hc⟩ := h.at_ hne
  exact ⟨g, o, ha, fun i hi => kcell hb (hc i hi)⟩
theorem flip_xor (x : Nat) (h : x < 18446744073709551616) : x ^^^ 9223372036854775808 = if 9223372036854775808 ≤ x then x - 9223372036854775808 else x + 9223372036854775808 := by
  have h1 : (x ^^^ 2 ^ 63) % 2 ^ 63 = x % 2 ^ 63 := by
    rw [Nat.xor_mod_two_pow, Nat.mod_self, Nat.xor_zero]
  have h2 : (x ^^^ 2 ^ 63) / 2 ^ 63 = x / 2 ^ 63 ^^^ 1 := by
    rw [Nat.xor_div_two_pow, Nat.div_self (Nat.two_pow_pos 63)]
  have h3 := Nat.div_add_mod (x ^^^ 2 ^ 63) (2 ^ 63)
  rw [h1, h2] at h3
  have h4 : x / 2 ^ 63 = 0 ∨ x / 2 ^ 63 = 1 := by omega
  show x ^^^ 2 ^ 63 = _
  rcases h4 with h4 | h4 <;> rw [h4] at h3 <;> rw [← h3] <;> split <;> simp <;> omega
theorem run_xor (x : Nat) (hx : x < 18446744073709551616) (w : World) : (binOp .xor 33 (.int .u64 x) (.int .u64 9223372036854775808)).run Try.prog w = .ok (.int .u64 (flipN x : Nat)) w := by
  have h := bits_xor_u64_nat x 9223372036854775808 hx (by decide)
  rw [flip_xor x hx] at h
  have e : (if 9223372036854775808 ≤ x then x - 9223372036854775808 else x + 9223372036854775808) = flipN x := rfl
  rw [e] at h
  have h2 : bits .xor .u64 (x : Int) 9223372036854775808 = (flipN x : Nat) := h
  simp [go_sem, h2]
theorem b_flip (x : Nat) (hx : x < 18446744073709551616) : bits .xor .u64 x 9223372036854775808 = ((flipN x : Nat) : Int) := by
  have h := bits_xor_u64_nat x 9223372036854775808 hx (by decide)
  rw [flip_xor x hx] at h
  exact h
theorem run_cvf (n : Int) (w : World) : (convert 2 58 (.int .i64 n)).run Try.prog w = .ok (.float .f64 (fltN n)) w := by
  have h := run_convert_int_float (P := Try.prog) w 2 58 .i64 .f64 n rfl Try.underlying58
  have e : floatOfInt .f64 n = fltN n := flt_eq n
  rw [e] at h
  exact h
def totI (s : Nat) (l : List Int) : Int := (l.map fun x : Int => x * (2 : Int) ^ s).sum
theorem totI_take (s : Nat) (l : List Int) (k : Nat) (hk : k < l.length) : totI s (l.take (k + 1)) = totI s (l.take k) + l[k] * (2 : Int) ^ s := by
  unfold totI
  rw [← List.take_append_getElem hk, List.map_append, List.sum_append]
  simp
theorem shl_bound (x : Int) (r : Nat) (h1 : -2147483648 ≤ x) (h2 : x < 2147483648) (hr : r < 9) : (x * (2 : Int) ^ r).natAbs ≤ 549755813888 := by
  have h : r = 0 ∨ r = 1 ∨ r = 2 ∨ r = 3 ∨ r = 4 ∨ r = 5 ∨ r = 6 ∨ r = 7 ∨ r = 8 := by omega
  rcases h with rfl | rfl | rfl | rfl | rfl | rfl | rfl | rfl | rfl <;> simp <;> omega
theorem IntF.add_ok {f : Facts} {t n : Int} {k : Nat} (h : IntF f t k) (hn : n.natAbs < 9007199254740992) (hk : k ≤ 500) :
    resE f (factsN (fltN n)) = 0 ∧ resF f (factsN (fltN n)) = joinF f (factsN (fltN n)) := by
  obtain ⟨h1, _⟩ := flt_facts hn
  exact res_ok h.ok (factsN_ok h1) h.lim (lim_one h1) (by omega)
theorem intF_zero : IntF ⟨0, 0, 0⟩ 0 0 := ⟨ok_zero, lim_zero 0, rfl, by decide, by rw [show (⟨0, 0, 0⟩ : Facts).V = 0 from rfl, iv_zero]; simp⟩
theorem NewBs.bs2 {B : Nat} {w : World} {v : Value} {l : List Nat} (h : NewBs B w v l) (hne : l ≠ []) (hs : ∀ x ∈ l, x < 256) : ∃ g cap, v = .slice (some ⟨g, 0, none⟩) l.length cap ∧ B ≤ g ∧ l.length ≤ cap ∧ Bs w (some ⟨g, 0, none⟩) l := by
  obtain ⟨⟨h1, h2⟩, h3⟩ := h
  rcases h2 with ⟨_, h⟩ | ⟨g, cap, cur, rfl, hg, hb, hc, hm, hz, ht⟩
  · exact absurd (List.eq_nil_of_length_eq_zero h) hne
  · refine ⟨g, cap, rfl, by omega, by omega, h3, hs, fun _ => ⟨g, 0, rfl, fun j hj => ?_⟩⟩
    rw [cell_of_row w g _ _ _ _ hb, Nat.zero_add]
    have e : cur.toList[j]? = (bvals l)[j]? := by
      rw [← ht, List.getElem?_take_of_lt (by omega)]
    rw [← Array.getElem?_toList, e]
    simp [bvals, hj]
theorem Bs.sole {w w' : World} {g b : Nat} {l : List Nat} (h : Bs w (some ⟨g, 0, none⟩) l) (hs : Sole b w w') (hne : g ≠ b) : Bs w' (some ⟨g, 0, none⟩) l := by
  refine ⟨h.len, h.small, fun hl => ?_⟩
  obtain ⟨b', off, e, hc⟩ := h.at_ hl
  cases e
  refine ⟨g, 0, rfl, fun j hj => ?_⟩
  have h1 := hc j hj
  have hlt := block_lt_of_cell h1
  have h2 := hs.block g hlt hne
  rw [← h1]
  unfold World.cell?
  rw [h2]
theorem Bs.tail {w : World} {g p : Nat} {m : List Nat} (h : Bs w (some ⟨g, 0, none⟩) (p :: m)) : Bs w (some ⟨g, 1, none⟩) m := by
  refine ⟨by have := h.len; simp at this; omega, fun x hx => h.small x (List.mem_cons_of_mem _ hx), fun hl => ?_⟩
  obtain ⟨b', off, e, hc⟩ := h.at_ (by simp)
  cases e
  refine ⟨g, 1, rfl, fun j hj => ?_⟩
  have := hc (j + 1) (by simp; omega)
  rw [show 0 + (j + 1) = 1 + j by omega] at this
  simpa using this
theorem enc_cons (f : Facts) : ∃ p m, encN f = p :: m ∧ m ≠ [] ∧ (encN f).drop 1 = m := ⟨_, _, rfl, by simp, rfl⟩
theorem encN_len2 (f : Facts) : 2 ≤ (encN f).length := by unfold encN; simp
theorem SumExact_walk {w : World} {a : Option Addr} {l : List Int} (h : I32s w a l) (cap : Nat) (sh : Nat) (hsh : sh < 256) (x : Nat) (hx : x < 18446744073709551616) :
    Calls Try.prog 8 #[.slice a l.length cap, .int .u8 sh, .int .u64 x] w fun e w' => e = .returned (.bool true) ∧ Below w.heap.size w w' := by
  have hlen := h.len
  by_cases hbig : 100 < l.length
  · have hbi : (100 : Int) < l.length := by omega
    clear h hbig
    go_enter Try.func8, Try.ntmps8
    go_wp2_with fail
    refine (works_any _).mono ?_
    rintro e wz ⟨rfl, hbw⟩
    go_wp2_with fail
    go_ret
    exact ⟨rfl, hbw⟩
  · have hbi : ¬ (100 : Int) < l.length := by omega
    have hl : l.length ≤ 100 := by omega
    clear hbig hlen
    have HU := Lib.hid h
    have HNA := Lib.hid (fnan_any x hx)
    have HIN := Lib.hid (finf_any x hx)
    obtain ⟨r, hr⟩ : ∃ r, r = sh % 9 := ⟨_, rfl⟩
    have hr9 : r < 9 := by omega
    have hri : (sh : Int) % 9 = r := by omega
    clear h hr
    go_enter Try.func8, Try.ntmps8
    go_wp2_with fail
    refine (New_any w).mono ?_
    rintro e w1 ⟨rfl, hg, hb⟩
    have HG : Hid (AAt w1 w.heap.size ⟨0, 0, 0⟩) := hg
    have HB := Lib.hid hb
    clear hg hb
    go_wp2_with fail
    go_loopw [8, 24] (fun t i wr => ∃ (k : Nat) (T : Int) (f : Facts), k ≤ l.length ∧ i = .int .i64 k ∧ t = .int .i64 T ∧ Hid (T = totI r (l.take k)) ∧ Hid (T.natAbs ≤ k * 549755813888) ∧ Hid (IntF f T k) ∧ Hid (AAt wr w.heap.size f) ∧ Hid (Below w.heap.size w wr)) (fun _ i _ => l.length - (intOf i).toNat)
    case atStart => exact ⟨0, 0, ⟨0, 0, 0⟩, Nat.zero_le _, rfl, rfl, rfl, by show _ ≤ _; simp, intF_zero, HG.out, HB.out⟩
    case round =>
      obtain ⟨k, T, f, hk, rfl, rfl, HT, HTB, HF, HA, HM⟩ := hrel
      by_cases hlt : k < l.length
      · obtain ⟨gg, o, rfl, hc⟩ := (HU.out.keep HM.out).at_ (by intro e; rw [e] at hlt; exact absurd hlt (Nat.not_lt_zero _))
        have c0 := hc k hlt
        have hs := HU.out.small _ (List.getElem_mem hlt)
        have HTK := Lib.hid (totI_take r l k hlt)
        generalize l[k] = y at *
        have hbd := shl_bound y r hs.1 hs.2 hr9
        have HT2 : Hid (T + y * (2 : Int) ^ r = totI r (l.take (k + 1))) := by show _ = _; rw [HTK.out, HT.out]
        clear HTK hc
        obtain ⟨n, hnd⟩ : ∃ n, n = y * (2 : Int) ^ r := ⟨_, rfl⟩
        rw [← hnd] at hbd HT2
        have hw : wrap64 (y * (2 : Int) ^ r) = n := by rw [← hnd]; unfold wrap64; omega
        clear hnd
        have hn : n.natAbs < 9007199254740992 := by omega
        obtain ⟨q1, q2⟩ := HF.out.add_ok hn (by omega)
        obtain ⟨g1, g2, _⟩ := flt_facts hn
        have HF2 := Lib.hid (HF.out.add hn (by omega) (lim_one g1))
        have had := Add_any HA.out HF.out.ok (fltN n) g1
        rw [q1, q2] at had
        have HAD := Lib.hid had
        have hfo : floatOfInt .f64 n = fltN n := flt_eq n
        have hT1 := HTB.out
        have hy1 := hs.1
        have hy2 := hs.2
        have HTB2 : Hid ((T + n).natAbs ≤ (k + 1) * 549755813888) := by show _ ≤ _; omega
        generalize joinF f (factsN (fltN n)) = f2 at *
        generalize fltN n = z at *
        clear had q1 q2 g1 g2 hs HF
        have hTb1 : -1000000000000000 ≤ T ∧ T ≤ 1000000000000000 := by omega
        obtain ⟨hTa, hTc⟩ := hTb1
        have hna : -1000000000000 ≤ n := by omega
        have hnc : n ≤ 1000000000000 := by omega
        go_wp2_with fail
        refine HAD.out.mono ?_
        rintro e w5 ⟨rfl, hA5, hs5⟩
        have HA5 := Lib.hid hA5
        have HM5 := Lib.hid (HM.out.trans (hs5.below (Nat.le_refl _) HM.out.size))
        clear HAD hA5 hs5 HA HM c0
        go_wp2_with fail
        go_round
        case rel => exact ⟨k + 1, T + n, f2, by omega, by go_num, rfl, HT2, HTB2, HF2, HA5, HM5⟩
        case measure => simp [intOf]; omega
      · obtain rfl : k = l.length := by omega
        have hv := Value_any HA.out (by rw [HF.out.saw]; decide) HF.out.ok.V (by rw [← top_eq]; exact lim_fit HF.out.ok HF.out.lim (by omega))
        rw [HF.out.value] at hv
        have HV := Lib.hid hv
        have hfo : floatOfInt .f64 T = fltN T := flt_eq T
        clear hv HT HTB
        generalize fltN T = z at *
        go_wp2_with fail
        refine HV.out.mono ?_
        rintro e w2 ⟨rfl, hb2⟩
        have HA2 := Lib.hid (HA.out.keep hb2)
        have HB2 := Lib.hid (HM.out.trans (hb2.mono HM.out.size))
        clear HV hb2 HA HM
        go_wp2_with fail
        refine (HNA.out _).mono ?_
        rintro e w' ⟨rfl, rfl⟩
        cases hn : nanB x with
        | true =>
          go_wp2_with fail
          refine (works_any _).mono ?_
          rintro e wz ⟨rfl, hbw⟩
          have HW := HB2.out.trans (hbw.mono HB2.out.size)
          go_wp2_with fail
          go_ret
          exact ⟨rfl, HW⟩
        | false =>
          go_wp2_with fail
          refine (HIN.out _).mono ?_
          rintro e w' ⟨rfl, rfl⟩
          cases hi : infB x with
          | true =>
            go_wp2_with fail
            refine (works_any _).mono ?_
            rintro e wz ⟨rfl, hbw⟩
            have HW := HB2.out.trans (hbw.mono HB2.out.size)
            go_wp2_with fail
            go_ret
            exact ⟨rfl, HW⟩
          | false =>
            have hf := finite_of hn hi
            obtain ⟨g1, g2, _⟩ := flip_facts hx hf
            have HSAME := Lib.hid (enc_same HF.out.ok HF.out.lim (by omega) hx hf (lim_one hx) (lim_one g1))
            have hok1 := res_ok HF.out.ok (factsN_ok hx) HF.out.lim (lim_one hx) (by omega)
            have hlim2 := lim_join HF.out.ok (factsN_ok hx) HF.out.lim (lim_one hx) (by omega)
            have hjo := joinF_ok HF.out.ok (factsN_ok hx)
            have hok2 := res_ok hjo (factsN_ok g1) hlim2 (lim_one g1) (by omega)
            have hjo2 := joinF_ok hjo (factsN_ok g1)
            have HOK1 := Lib.hid hok1
            have HOK2 := Lib.hid hok2
            have HJ1 := Lib.hid hjo
            have HJ2 := Lib.hid hjo2
            have HG1 := Lib.hid g1
            have hfl := b_flip x hx
            have HFO := Lib.hid HF.out.ok
            clear g1 g2 hok1 hok2 hlim2 hjo hjo2 hf hn hi HF HNA HIN hfo
            have hE := Encode_any HA2.out HFO.out.saw (by have := HFO.out.zero; omega) HFO.out.V
            have HE := Lib.hid hE
            clear hE
            generalize flipN x = y at *
            go_wp2_with fail
            refine HE.out.mono ?_
            rintro e w3 ⟨v1, rfl, hv1, hb3⟩
            have HA3 := Lib.hid (HA2.out.keep hb3)
            have HB3 := Lib.hid (HB2.out.trans (hb3.mono HB2.out.size))
            obtain ⟨g1, cap1, rfl, hg1, hcap1, hbs1⟩ := hv1.bs2 (encN_ne _) (encN_small HFO.out.saw (by have := HFO.out.zero; omega))
            have HS1 := Lib.hid hbs1
            have hlt0 := HA2.out.lt
            have hne1 : g1 ≠ w.heap.size := by omega
            clear HE hv1 hbs1 hb3 HA2 HB2 hg1 hlt0
            have had := Add_any HA3.out HFO.out x hx
            rw [HOK1.out.1, HOK1.out.2] at had
            have HAD := Lib.hid had
            clear had
            go_wp2_with fail
            refine HAD.out.mono ?_
            rintro e w4 ⟨rfl, hA, hS⟩
            have HA4 := Lib.hid hA
            have HB4 := Lib.hid (HB3.out.trans (hS.below (Nat.le_refl _) HB3.out.size))
            have HS4 := Lib.hid (HS1.out.sole hS hne1)
            have had := Add_any HA4.out HJ1.out y HG1.out
            rw [HOK2.out.1, HOK2.out.2] at had
            have HAD2 := Lib.hid had
            clear HAD had hA hS HS1 HA3 HB3
            go_wp2_with fail
            refine HAD2.out.mono ?_
            rintro e w5 ⟨rfl, hA, hS⟩
            have HA5 := Lib.hid hA
            have HB5 := Lib.hid (HB4.out.trans (hS.below (Nat.le_refl _) HB4.out.size))
            have HS5 := Lib.hid (HS4.out.sole hS hne1)
            have hE := Encode_any HA5.out HJ2.out.saw (by have := HJ2.out.zero; omega) HJ2.out.V
            have HE := Lib.hid hE
            clear HAD2 hA hS HS4 HA4 HB4 hE
            go_wp2_with fail
            refine HE.out.mono ?_
            rintro e w6 ⟨v2, rfl, hv2, hb6⟩
            obtain ⟨g2, cap2, rfl, hg2, hcap2, hbs2⟩ := hv2.bs2 (encN_ne _) (encN_small HJ2.out.saw (by have := HJ2.out.zero; omega))
            have HB6 := Lib.hid (HB5.out.trans (hb6.mono HB5.out.size))
            have HS6 := Lib.hid (HS5.out.keep hb6)
            have HT6 := Lib.hid hbs2
            have hsame := HSAME.out
            clear HE hv2 hbs2 hb6 HS5 HA5 HB5 hg2 HSAME HOK1 HOK2 HJ1 HJ2 hfl
            obtain ⟨p1, m, e1, hm, d1⟩ := enc_cons f
            obtain ⟨p2, m2, e2, _, d2⟩ := enc_cons (joinF (joinF f (factsN x)) (factsN y))
            rw [d1, d2] at hsame
            subst hsame
            rw [e1] at HS6 hcap1 ⊢
            rw [e2] at HT6 hcap2 ⊢
            clear e1 e2 d1 d2
            have hml : (p1 :: m2).length = m2.length + 1 := by simp
            have hml2 : (p2 :: m2).length = m2.length + 1 := by simp
            have hmm := HS6.out.len
            rw [hml] at hcap1 hmm ⊢
            rw [hml2] at hcap2 ⊢
            have hm0 : 0 < m2.length := List.length_pos_iff.2 hm
            have HX1 := Lib.hid (fun n c => conv_str (HS6.out.tail.keep (below_drewN (Below.refl _ _) n)) hm c)
            have HX2 := Lib.hid (fun n c => conv_str (HT6.out.tail.keep (below_drewN (Below.refl _ _) n)) hm c)
            have hx1 := HX1.out
            have hx2 := HX2.out
            generalize strN m2 = S at *
            clear HS6 HT6 hm hml hml2
            generalize m2.length = N at *
            go_wp2_with fail
            have hd1 : decide ((N : Int) + 1 < 2) = false := decide_eq_false (by omega)
            go_big_quiet (fail)
            clear hx1 hx2
            go_wp2_with fail
            refine (works_any _).mono ?_
            rintro e wz ⟨rfl, hbw⟩
            have HW := (below_drewN HB6.out nq).trans (hbw.mono (below_drewN HB6.out nq).size)
            go_wp2_with fail
            go_ret
            exact ⟨rfl, HW⟩
end Go.Proofs.Ytjcdnaandbockaa

namespace Go.Proofs.Ytjcdnaandbockaa
open Go.ChangeShapes Go.WideShapes Go.ChangeAt Go.RowKit
set_option maxRecDepth 100000

theorem u8_nat {a : Int} (h : (Lit.int .u8 a).wf = true) : ∃ x : Nat, a = x ∧ x < 256 := by
  have h2 : IntKind.u8.min ≤ a ∧ a ≤ IntKind.u8.max := by simpa [Lit.wf] using h
  have e1 : IntKind.u8.min = 0 := by decide
  have e2 : IntKind.u8.max = 255 := by decide
  exact ⟨a.toNat, by omega, by omega⟩
theorem i32s_of_trod {H : Type} {enc : TypeId × Value → H} {W : World} {x : Option Addr} {len cap : Nat} {d : DataW H} {ps : List MemPlace} (h : DataW.Trod enc Try.prog W 0 (fun _ => true) true 67 (.slice x len cap) d ps) :
    ∃ l : List Int, l.length = len ∧ len ≤ cap ∧ I32s W x l := by
  obtain ⟨fuel, hf⟩ := h
  rcases open_ints Try.underlying67 Try.underlying21 (show Try.prog.cellsOf 21 = 1 by kernel_rfl) hf with ⟨hcs, hx⟩ | ⟨a, len', cap', zs, hcs, _, hl, hm, hz, hx, hcell, hwz⟩
  · have e : (Value.slice x len cap) = .slice none 0 0 := by simpa [Value.cells] using hcs
    cases e
    exact ⟨[], rfl, Nat.le_refl _, ⟨by simp, (fun y hy => by cases hy), fun hl => absurd rfl hl⟩⟩
  · have e : (Value.slice x len cap) = .slice (some a) len' cap' := by simpa [Value.cells] using hcs
    cases e
    simp only [if_true] at hz
    have hpos : ∀ z ∈ zs, -2147483648 ≤ z ∧ z < 2147483648 := by
      intro z hz9
      have := hwz z hz9
      simp only [Lit.wf, Bool.and_eq_true, decide_eq_true_eq] at this
      have h1 : IntKind.i32.min = -2147483648 := by decide
      have h2 : IntKind.i32.max = 2147483648 - 1 := by decide
      omega
    refine ⟨zs.take len, by simp; omega, hl, ⟨by simp; unfold maxLen at hm; omega, fun y hy => hpos y (List.mem_of_mem_take hy), fun hne => ?_⟩⟩
    have hp : 0 < zs.length := by
      cases zs with
      | nil => simp at hne
      | cons _ _ => simp
    obtain ⟨b, off, rfl, hc⟩ := ints_at hcell hp
    refine ⟨b, off, rfl, fun j hj => ?_⟩
    have hj2 : j < zs.length := by simp at hj; omega
    rw [hc j hj2]
    simp [List.getD, hj2]
end Go.Proofs.Ytjcdnaandbockaa
