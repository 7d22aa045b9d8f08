import Derived.Test.YtoloiingodigpaaSE
namespace Go.Proofs.Ytoloiingodigpaa
open Go.RowKit Go.Shelf Go.Lib
attribute [local go_sem] Oper.semAt_some litE
set_option maxRecDepth 100000
set_option maxHeartbeats 1000000

theorem merge_right (w0 : World) (bb n N : Nat) (K : Int → Int) (hC : CmpC w0 bb n K) (hN : N ≤ 64) (P A Q : List Int) (x : Int) (a m b : Nat) (hm : Hid (b = m + 1)) (hP : Hid (P.length = a)) (hA : Hid (a + A.length = m)) (hL : Hid ((P ++ A ++ [x] ++ Q).length = N)) (ham : a + 1 < m)
    (hSA : SL K A) (hx : ∀ y ∈ A, y < x) (hin : ∀ y ∈ x :: A, 0 ≤ y ∧ y < n) (W : World) (h : St w0 (P ++ A ++ [x] ++ Q) W) :
    Calls Try.prog 146 #[.slice (some ⟨w0.heap.size, 0, none⟩) N N, .int .i64 a, .int .i64 m, .int .i64 b, .func (.func 119) #[] #[.pointer (some ⟨bb, 0, none⟩)]] W fun e w' => e = .returned (.tuple #[]) ∧ ∃ S, SL K S ∧ S.Perm (A ++ [x]) ∧ St w0 (P ++ S ++ Q) w' := by
  have hbN : b ≤ N := by
    have h1 := hP.out; have h2 := hA.out; have h3 := hL.out; have h4 := hm.out
    simp at h3
    omega
  have H := Lib.hid h
  have HSA := Lib.hid hSA
  have HX := Lib.hid hx
  have HIN := Lib.hid hin
  have HC := Lib.hid hC
  clear h hSA hx hin hC
  have mixed : Try.prog.follows Departure.mixedOrders = true := by kernel_rfl
  have t0 := Try.underlying0; have a0 := Try.isAgg0; have z0 := Try.sizeOf0; have v0 := Try.zeroValue0
  have t3 := Try.underlying3; have a3 := Try.isAgg3; have z3 := Try.sizeOf3; have v3 := Try.zeroValue3
  have t22 := Try.underlying22; have u22 := run_underlying Try.underlying22
  have hgd1 : ¬ ((m : Int) - a = 1) := by omega
  have hgd2 : (b : Int) - m = 1 := by have := hm.out; omega
  go_enter Try.func146, Try.ntmps146
  go_wp2_with fail
  go_loopw [14, 15] (fun i j wr => ∃ (s t : Nat), i = .int .i64 s ∧ j = .int .i64 t ∧ a ≤ s ∧ s ≤ t ∧ t ≤ m ∧ Hid (s = a ∨ K (A.getD (s - 1 - a) 0) ≤ K x) ∧ Hid (t = m ∨ K x < K (A.getD (t - a) 0)) ∧ Hid (St w0 (P ++ A ++ [x] ++ Q) wr)) (fun i j _ => (intOf j).toNat - (intOf i).toNat)
  case atStart => exact ⟨a, m, by go_num, by go_num, Nat.le_refl _, by omega, Nat.le_refl _, .inl rfl, .inl rfl, H⟩
  case round =>
    obtain ⟨s, t, rfl, rfl, hms, hst, htb, hS1, hT1, hS⟩ := hrel
    by_cases hlt : s < t
    · obtain ⟨h, hh⟩ : ∃ h, h = (s + t) / 2 := ⟨_, rfl⟩
      have hhs : s ≤ h := by omega
      have hht : h < t := by omega
      have ea : (((s : Int) + (t : Int)) / 2).toNat = h := by omega
      have ea2 : ((s : Int) + (t : Int)) / 2 = h := by omega
      have pa : (0 : Int) ≤ ((s : Int) + (t : Int)) / 2 := by omega
      have ba : ((s : Int) + (t : Int)) / 2 < (N : Int) := by have := hm.out; omega
      have bb' : (m : Int) < (N : Int) := by have := hm.out; omega
      have HA2 := Lib.hid ea2
      clear ea2 hh
      have hAl : h - a < A.length := by have := hA.out; omega
      have hb1 := hS.out.cell m (by have := hL.out; have := hm.out; omega)
      have hb2 := hS.out.cell h (by have := hL.out; have := hm.out; omega)
      have v1 : (P ++ A ++ [x] ++ Q).getD m 0 = x := by
        have := getD_mid (P ++ A) Q x m (by have h1 := hP.out; have h2 := hA.out; simp; omega)
        simpa using this
      have v2 : (P ++ A ++ [x] ++ Q).getD h 0 = A.getD (h - a) 0 := by
        have h1 := hP.out
        have e1 : h - P.length = h - a := by omega
        simp only [List.getD]
        rw [List.append_assoc, List.append_assoc, List.getElem?_append_right (by omega), List.getElem?_append_left (by omega), e1]
      rw [v1] at hb1
      rw [v2] at hb2
      have hvin : 0 ≤ A.getD (h - a) 0 ∧ A.getD (h - a) 0 < n := HIN.out _ (List.mem_cons_of_mem _ (by simp [List.getD, hAl]))
      have hxin : 0 ≤ x ∧ x < n := HIN.out _ (by simp)
      have HCMP := Lib.hid (HC.out.at_ hS.out x (A.getD (h - a) 0) hxin hvin)
      have HI : Hid (∀ c : Prop, (c ↔ K x < K (A.getD (h - a) 0)) → (¬ c → Hid (h + 1 = a ∨ K (A.getD (h + 1 - 1 - a) 0) ≤ K x)) ∧ (c → Hid (h = m ∨ K x < K (A.getD (h - a) 0)))) := by
        intro c hc
        exact ⟨fun h1 => .inr (Int.not_lt.1 fun h2 => h1 (hc.2 h2)), fun h1 => .inr (hc.1 h1)⟩
      clear v1 v2 hAl
      generalize hv : A.getD (h - a) 0 = v at *
      have HVv := Lib.hid hv
      clear hv
      go_wp2_with fail
      go_quiet (first | (go_at_call 119; refine Calls.quiet_of (HCMP.out _)))
      have hd := cmpZ_lt (K x) (K v)
      generalize cmpZ (K x) (K v) = cz at *
      have hI := HI.out (cz < 0) hd
      clear hd HI
      generalize hq : decide (cz < 0) = q at *
      cases q with
      | true =>
        have hI1 := hI.2 (by simpa using hq)
        clear hI hq
        go_wp2_with fail
        go_roundw
        case rel => exact ⟨s, h, by go_num, congrArg (Value.int .i64) (by have := HA2.out; omega), by omega, by omega, by omega, hS1, by show _ ∨ _; rw [HVv.out]; exact hI1.out, by show St _ _ _; exact hS.out.drewN nq⟩
        case measure => have := HA2.out; simp [intOf]; omega
      | false =>
        have hI1 := hI.1 (by simpa using hq)
        clear hI hq
        go_wp2_with fail
        go_roundw
        case rel => exact ⟨h + 1, t, congrArg (Value.int .i64) (by have := HA2.out; omega), by go_num, by omega, by omega, htb, hI1, hT1, by show St _ _ _; exact hS.out.drewN nq⟩
        case measure => have := HA2.out; simp [intOf]; omega
    · have hst' : t = s := by omega
      subst hst'
      obtain ⟨A1, A2, e1, e2⟩ := split_at' A (t - a) (by have := hA.out; omega)
      subst e1
      have HA1l := Lib.hid e2
      have HL1 : Hid (∀ u y, A1 = u ++ [y] → K y ≤ K x) := by
        intro u y e
        have h1 := hS1.out
        rcases h1 with h1 | h1
        · rw [e] at e2; simp at e2; omega
        · rwa [getD_last A1 A2 u y _ e (by rw [e2]; rw [e] at e2; simp at e2; omega)] at h1
      have HL2 : Hid (∀ y ∈ A2, K x < K y) := by
        show ∀ y ∈ A2, K x < K y
        intro y hy
        cases A2 with
        | nil => cases hy
        | cons z v =>
          have h1 := hT1.out
          rcases h1 with h1 | h1
          · have := hA.out; simp at this; omega
          · rw [getD_first A1 (z :: v) v z _ rfl e2.symm] at h1
            have := HSA.out.right.head_le y hy
            omega
      clear hS1 hT1 e2
      have HST := Lib.hid hS.out
      clear hS
      obtain ⟨wo, rfl⟩ : ∃ wo : World, wo = wr := ⟨_, rfl⟩
      go_wp2_with fail
      go_loopw [17] (fun k wr => ∃ (k' : Nat) (C1 C2 : List Int), k = .int .i64 k' ∧ Hid (A2 = C1 ++ C2) ∧ Hid (t + C1.length = k') ∧ Hid (St w0 (P ++ A1 ++ C1 ++ x :: C2 ++ Q) wr)) (fun k _ => (intOf k).toNat)
      case atStart => exact ⟨m, A2, [], by go_num, by show _ = _; simp, by show _ = _; have h1 := hA.out; have h2 := HA1l.out; simp at h1; omega, by show St _ _ _; simpa using HST.out⟩
      case round =>
        obtain ⟨k, C1, C2, rfl, hC12, hC1, hS⟩ := hrel
        by_cases hlt2 : t < k
        · obtain ⟨C0, y, e⟩ : ∃ C0 y, C1 = C0 ++ [y] := by
            rcases List.eq_nil_or_concat C1 with e | ⟨u, v, e⟩
            · have := hC1.out; rw [e] at this; simp at this; omega
            · exact ⟨u, v, by simpa using e⟩
          subst e
          have hSt : St w0 ((P ++ A1 ++ C0) ++ y :: ([] ++ x :: (C2 ++ Q))) wr := by have := hS.out; simpa using this
          have l1 : k - 1 = (P ++ A1 ++ C0).length := by have h1 := hP.out; have h2 := hC1.out; have h3 := HA1l.out; simp at h2 ⊢; omega
          have l2 : k = (P ++ A1 ++ C0).length + 1 + ([] : List Int).length := by rw [← l1]; simp; omega
          have lL : ((P ++ A1 ++ C0) ++ y :: ([] ++ x :: (C2 ++ Q))).length = N := by
            have h1 := hL.out; have h2 := congrArg List.length hC12.out
            simp at h1 h2 ⊢; omega
          have hkN : k < N := by have := hm.out; have h1 := congrArg List.length hC12.out; have h2 := hC1.out; have h3 := HA1l.out; have h4 := hA.out; simp at h1 h2 h4; omega
          obtain ⟨c1, c2, f1, f2, c3, hS2, -⟩ := hSt.swap_facts k (k - 1) (by omega) (by omega) (by omega)
          have v1 : ((P ++ A1 ++ C0) ++ y :: ([] ++ x :: (C2 ++ Q))).getD (k - 1) 0 = y := getD_mid _ _ _ _ l1
          have v2 : ((P ++ A1 ++ C0) ++ y :: ([] ++ x :: (C2 ++ Q))).getD k 0 = x := by
            rw [← List.cons_append, ← List.append_assoc]; exact getD_mid _ _ _ _ (by rw [l2]; simp; omega)
          rw [swapL_split' _ _ _ _ _ _ _ l1 l2, v1, v2] at hS2
          rw [v1] at c2 c3
          rw [v2] at c1
          have HS2 : Hid (St w0 (P ++ A1 ++ C0 ++ x :: (y :: C2) ++ Q) ((wr.setCell ⟨w0.heap.size, k, none⟩ (.int .i64 y)).setCell ⟨w0.heap.size, k - 1, none⟩ (.int .i64 x)).drew) := by
            show St _ _ _; simpa using hS2
          clear hSt v1 v2 l1 l2 lL hS2 hS
          obtain ⟨iN, hiN⟩ : ∃ q, q = k - 1 := ⟨_, rfl⟩
          have ea : ((k : Int) - 1).toNat = iN := by omega
          have pa : (0 : Int) ≤ (k : Int) - 1 := by omega
          have ba : (k : Int) - 1 < (N : Int) := by omega
          have ra : IntKind.i64.wrap ((k : Int) - 1) = (k : Int) - 1 := by rw [IntKind.wrap_i64]; omega
          have bc : (k : Int) < (N : Int) := by omega
          rw [← hiN] at c2 f2 c3 HS2
          have HIN' := Lib.hid hiN
          clear hiN
          go_wp2_with fail
          go_big_region_o
          clear c1 c2 c3 f1 f2
          generalize ((wr.setCell ⟨w0.heap.size, k, none⟩ (.int .i64 y)).setCell ⟨w0.heap.size, iN, none⟩ (.int .i64 x)).drew = w2 at HS2 ⊢
          clear ea
          go_wp2_with fail
          go_roundw
          case rel => exact ⟨k - 1, C0, y :: C2, by go_num, by show _ = _; rw [hC12.out]; simp, by show _ = _; have := hC1.out; simp at this; omega, HS2⟩
          case measure => simp [intOf]; omega
        · have HE : Hid (C1 = []) := List.length_eq_zero_iff.1 (by have := hC1.out; omega)
          go_wp2_with fail
          first | (refine bodyPost_end (results_none rfl _ _ _) rfl ?_) | (refine bodyPost_ret (results_none rfl _ _ _) rfl ?_)
          have h1 := hC12.out
          have h2 := hS.out
          rw [HE.out] at h1 h2
          have h3 : A2 = C2 := by simpa using h1
          refine ⟨rfl, A1 ++ x :: A2, SL.insert HSA.out HL2.out HX.out (fun u y e => by have := HL1.out u y e; omega), ?_, ?_⟩
          · exact List.perm_middle.trans (by simpa using List.perm_append_comm (l₁ := [x]) (l₂ := A1 ++ A2))
          · rw [h3]
            simpa using h2
end Go.Proofs.Ytoloiingodigpaa
