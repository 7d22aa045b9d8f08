import Derived.Test.YtoloiingodigpaaSD
namespace Go.Proofs.Ytoloiingodigpaa
open Go.RowKit Go.Shelf Go.Lib
attribute [local go_sem] Oper.semAt_some litE
set_option maxRecDepth 100000
set_option maxHeartbeats 1000000

/-- one element is put between two parts of a sorted list that is later in ranks -/
theorem SL.put_first {K : Int → Int} {B1 B2 : List Int} {x : Int} (h : SL K (B1 ++ B2)) (hx : ∀ y ∈ B1 ++ B2, x < y) (h1 : ∀ u y, B1 = u ++ [y] → K y < K x) (h2 : ∀ y v, B2 = y :: v → ¬ K y < K x) : SL K (B1 ++ x :: B2) := by
  have hlt : ∀ a ∈ B1, K a < K x := by
    intro a ha
    rcases List.eq_nil_or_concat B1 with e | ⟨u, z, e⟩
    · subst e; cases ha
    · have e' : B1 = u ++ [z] := by simpa using e
      have h3 := h1 u z e'
      have h0 := h.left
      rw [e'] at h0 ha
      have := h0.le_last a ha
      omega
  have hge : ∀ a ∈ B2, LexLt K x a := by
    intro a ha
    cases B2 with
    | nil => cases ha
    | cons y v =>
      have h3 := h2 y v rfl
      have h4 : K y ≤ K a := h.right.head_le a ha
      have h5 := hx a (List.mem_append_right _ ha)
      by_cases e : K x = K a
      · exact .inr ⟨e, h5⟩
      · exact .inl (by omega)
  refine SL.append h.left (List.pairwise_cons.2 ⟨hge, h.right⟩) ?_
  intro a ha b hb
  rcases List.mem_cons.1 hb with rfl | hb
  · exact .inl (hlt a ha)
  · exact h.cross a ha b hb

/-- the last of a list, the first -/
theorem getD_last (B1 B2 : List Int) (u : List Int) (y : Int) (k : Nat) (e : B1 = u ++ [y]) (hk : k + 1 = B1.length) : (B1 ++ B2).getD k 0 = y := by
  subst e
  have : k = u.length := by simp at hk; omega
  subst this
  rw [List.append_assoc]
  exact getD_mid _ _ _ _ rfl
theorem getD_first (B1 B2 : List Int) (v : List Int) (y : Int) (k : Nat) (e : B2 = y :: v) (hk : k = B1.length) : (B1 ++ B2).getD k 0 = y := by
  subst e; exact getD_mid _ _ _ _ hk

theorem merge_left (w0 : World) (bb n N : Nat) (K : Int → Int) (hC : CmpC w0 bb n K) (hN : N ≤ 64) (P B Q : List Int) (x : Int) (a m b : Nat) (hm : Hid (m = a + 1)) (hP : Hid (P.length = a)) (hB : Hid (m + B.length = b)) (hL : Hid ((P ++ [x] ++ B ++ Q).length = N)) (hmb : m < b)
    (hSB : SL K B) (hx : ∀ y ∈ B, x < y) (hin : ∀ y ∈ x :: B, 0 ≤ y ∧ y < n) (W : World) (h : St w0 (P ++ [x] ++ B ++ Q) W) :
    Calls Try.prog 146 #[.slice (some ⟨w0.heap.size, 0, none⟩) N N, .int .i64 a, .int .i64 m, .int .i64 b, .func (.func 119) #[] #[.pointer (some ⟨bb, 0, none⟩)]] W fun e w' => e = .returned (.tuple #[]) ∧ ∃ S, SL K S ∧ S.Perm ([x] ++ B) ∧ St w0 (P ++ S ++ Q) w' := by
  have hbN : b ≤ N := by
    have h1 := hP.out; have h2 := hB.out; have h3 := hL.out; have h4 := hm.out
    simp at h3
    omega
  have H := Lib.hid h
  have HSB := Lib.hid hSB
  have HX := Lib.hid hx
  have HIN := Lib.hid hin
  have HC := Lib.hid hC
  clear h hSB hx hin hC
  have mixed : Try.prog.follows Departure.mixedOrders = true := by kernel_rfl
  have t0 := Try.underlying0; have a0 := Try.isAgg0; have z0 := Try.sizeOf0; have v0 := Try.zeroValue0
  have t3 := Try.underlying3; have a3 := Try.isAgg3; have z3 := Try.sizeOf3; have v3 := Try.zeroValue3
  have t22 := Try.underlying22; have u22 := run_underlying Try.underlying22
  have hgd : (m : Int) - a = 1 := by have := hm.out; omega
  go_enter Try.func146, Try.ntmps146
  go_wp2_with fail
  go_loopw [10, 11] (fun i j wr => ∃ (s t : Nat), i = .int .i64 s ∧ j = .int .i64 t ∧ m ≤ s ∧ s ≤ t ∧ t ≤ b ∧ Hid (s = m ∨ K (B.getD (s - 1 - m) 0) < K x) ∧ Hid (t = b ∨ K x ≤ K (B.getD (t - m) 0)) ∧ Hid (St w0 (P ++ [x] ++ B ++ Q) wr)) (fun i j _ => (intOf j).toNat - (intOf i).toNat)
  case atStart => exact ⟨m, b, by go_num, by go_num, Nat.le_refl _, by omega, Nat.le_refl _, .inl rfl, .inl rfl, H⟩
  case round =>
    obtain ⟨s, t, rfl, rfl, hms, hst, htb, hS1, hT1, hS⟩ := hrel
    by_cases hlt : s < t
    · obtain ⟨h, hh⟩ : ∃ h, h = (s + t) / 2 := ⟨_, rfl⟩
      have hhs : s ≤ h := by omega
      have hht : h < t := by omega
      have ea : (((s : Int) + (t : Int)) / 2).toNat = h := by omega
      have ea2 : ((s : Int) + (t : Int)) / 2 = h := by omega
      have pa : (0 : Int) ≤ ((s : Int) + (t : Int)) / 2 := by omega
      have ba : ((s : Int) + (t : Int)) / 2 < (N : Int) := by omega
      have bb' : (a : Int) < (N : Int) := by have := hm.out; omega
      have HA2 := Lib.hid ea2
      clear ea2 hh
      have hBl : h - m < B.length := by have := hB.out; omega
      have hb1 := hS.out.cell a (by have := hL.out; have := hP.out; have := hm.out; omega)
      have hb2 := hS.out.cell h (by have := hL.out; omega)
      have v1 : (P ++ [x] ++ B ++ Q).getD a 0 = x := by
        have := getD_mid P (B ++ Q) x a hP.out.symm
        simpa using this
      have v2 : (P ++ [x] ++ B ++ Q).getD h 0 = B.getD (h - m) 0 := by
        have h1 := hP.out; have h2 := hm.out
        have e1 : h - P.length - 1 = h - m := by omega
        simp only [List.getD]
        rw [List.append_assoc, List.append_assoc, List.getElem?_append_right (by omega), List.getElem?_append_right (by simp; omega), List.getElem?_append_left (by simp; omega)]
        simp [e1]
      rw [v1] at hb1
      rw [v2] at hb2
      have hvin : 0 ≤ B.getD (h - m) 0 ∧ B.getD (h - m) 0 < n := HIN.out _ (List.mem_cons_of_mem _ (by simp [List.getD, hBl]))
      have hxin : 0 ≤ x ∧ x < n := HIN.out _ (by simp)
      have HVe : Hid (K (B.getD (h - m) 0) = K (B.getD (h - m) 0)) := rfl
      have HCMP := Lib.hid (HC.out.at_ hS.out (B.getD (h - m) 0) x hvin hxin)
      have HI : Hid (∀ c : Prop, (c ↔ K (B.getD (h - m) 0) < K x) → (c → Hid (h + 1 = m ∨ K (B.getD (h + 1 - 1 - m) 0) < K x)) ∧ (¬ c → Hid (h = b ∨ K x ≤ K (B.getD (h - m) 0)))) := by
        intro c hc
        exact ⟨fun h1 => .inr (hc.1 h1), fun h1 => .inr (Int.not_lt.1 fun h2 => h1 (hc.2 h2))⟩
      clear v1 v2 HVe hBl
      generalize hv : B.getD (h - m) 0 = v at *
      have HVv := Lib.hid hv
      clear hv
      go_wp2_with fail
      go_quiet (first | (go_at_call 119; refine Calls.quiet_of (HCMP.out _)))
      have hd := cmpZ_lt (K v) (K x)
      generalize cmpZ (K v) (K x) = cz at *
      have hI := HI.out (cz < 0) hd
      clear hd HI
      by_cases hz : cz < 0
      · have hI1 := hI.1 hz
        clear hI
        go_wp2_with fail
        go_roundw
        case rel => exact ⟨h + 1, t, congrArg (Value.int .i64) (by have := HA2.out; omega), by go_num, by omega, by omega, htb, hI1, hT1, by show St _ _ _; exact hS.out.drewN nq⟩
        case measure => have := HA2.out; simp [intOf]; omega
      · have hI1 := hI.2 hz
        clear hI
        go_wp2_with fail
        go_roundw
        case rel => exact ⟨s, h, by go_num, congrArg (Value.int .i64) (by have := HA2.out; omega), by omega, by omega, by omega, hS1, by show _ ∨ _; rw [HVv.out]; exact hI1.out, by show St _ _ _; exact hS.out.drewN nq⟩
        case measure => have := HA2.out; simp [intOf]; omega
    · have hst' : t = s := by omega
      subst hst'
      obtain ⟨B1, B2, e1, e2⟩ := split_at' B (t - m) (by have := hB.out; omega)
      subst e1
      have HB1l := Lib.hid e2
      have HL1 : Hid (∀ u y, B1 = u ++ [y] → K y < K x) := by
        intro u y e
        have h1 := hS1.out
        rcases h1 with h1 | h1
        · rw [e] at e2; simp at e2; omega
        · rwa [getD_last B1 B2 u y _ e (by rw [e2]; rw [e] at e2; simp at e2; omega)] at h1
      have HL2 : Hid (∀ y v, B2 = y :: v → ¬ K y < K x) := by
        intro y v e
        have h1 := hT1.out
        rcases h1 with h1 | h1
        · have := hB.out; rw [e] at this; simp at this; omega
        · rw [getD_first B1 B2 v y _ e e2.symm] at h1; omega
      clear hS1 hT1 e2
      have HST := Lib.hid hS.out
      clear hS
      obtain ⟨wo, rfl⟩ : ∃ wo : World, wo = wr := ⟨_, rfl⟩
      go_wp2_with fail
      go_loopw [13] (fun k wr => ∃ (k' : Nat) (C1 C2 : List Int), k = .int .i64 k' ∧ Hid (B1 = C1 ++ C2) ∧ Hid (a + C1.length = k') ∧ Hid (St w0 (P ++ C1 ++ x :: C2 ++ B2 ++ Q) wr)) (fun k _ => t - (intOf k).toNat)
      case atStart => exact ⟨a, [], B1, rfl, rfl, rfl, by show St _ _ _; simpa using HST.out⟩
      case round =>
        obtain ⟨k, C1, C2, rfl, hC12, hC1, hS⟩ := hrel
        have hkt : k + C2.length + 1 = t := by
          have h1 := congrArg List.length hC12.out; have h2 := hC1.out; have h3 := HB1l.out; have h4 := hm.out
          simp at h1; omega
        by_cases hlt2 : k + 1 < t
        · obtain ⟨y, C3, rfl⟩ : ∃ y C3, C2 = y :: C3 := by
            cases C2 with
            | nil => simp at hkt; omega
            | cons y C3 => exact ⟨y, C3, rfl⟩
          have hSt : St w0 ((P ++ C1) ++ x :: ([] ++ y :: (C3 ++ B2 ++ Q))) wr := by have := hS.out; simpa using this
          have l1 : k = (P ++ C1).length := by have h1 := hP.out; have h2 := hC1.out; simp; omega
          have l2 : k + 1 = (P ++ C1).length + 1 + ([] : List Int).length := by rw [l1]; simp
          have lL : ((P ++ C1) ++ x :: ([] ++ y :: (C3 ++ B2 ++ Q))).length = N := by
            have h1 := hL.out; have h2 := congrArg List.length hC12.out
            simp at h1 h2 ⊢; omega
          obtain ⟨c1, c2, f1, f2, c3, hS2, -⟩ := hSt.swap_facts k (k + 1) (by omega) (by omega) (by omega)
          have v1 : ((P ++ C1) ++ x :: ([] ++ y :: (C3 ++ B2 ++ Q))).getD k 0 = x := getD_mid _ _ _ _ l1
          have v2 : ((P ++ C1) ++ x :: ([] ++ y :: (C3 ++ B2 ++ Q))).getD (k + 1) 0 = y := by
            rw [← List.cons_append, ← List.append_assoc]; exact getD_mid _ _ _ _ (by rw [l2]; simp; omega)
          rw [swapL_split _ _ _ _ _ _ _ l1 l2, v1, v2] at hS2
          rw [v1] at c1
          rw [v2] at c2 c3
          have HS2 : Hid (St w0 (P ++ (C1 ++ [y]) ++ x :: C3 ++ B2 ++ Q) ((wr.setCell ⟨w0.heap.size, k, none⟩ (.int .i64 y)).setCell ⟨w0.heap.size, k + 1, none⟩ (.int .i64 x)).drew) := by
            show St _ _ _; simpa using hS2
          clear hSt v1 v2 l1 l2 lL hkt hS2 hS
          obtain ⟨iN, hiN⟩ : ∃ q, q = k + 1 := ⟨_, rfl⟩
          have ea : ((k : Int) + 1).toNat = iN := by omega
          have pa : (0 : Int) ≤ (k : Int) + 1 := by omega
          have ba : (k : Int) + 1 < (N : Int) := by omega
          have ra : IntKind.i64.wrap ((k : Int) + 1) = (k : Int) + 1 := by rw [IntKind.wrap_i64]; omega
          have bc : (k : Int) < (N : Int) := by omega
          rw [← hiN] at c2 f2 c3 HS2
          have HIN' := Lib.hid hiN
          clear hiN
          go_wp2_with fail
          go_big_region_o
          clear c1 c2 c3 f1 f2
          generalize ((wr.setCell ⟨w0.heap.size, k, none⟩ (.int .i64 y)).setCell ⟨w0.heap.size, iN, none⟩ (.int .i64 x)).drew = w2 at HS2 ⊢
          clear ea
          go_wp2_with fail
          go_roundw
          case rel => exact ⟨k + 1, C1 ++ [y], C3, by go_num, by show _ = _; rw [hC12.out]; simp, by show _ = _; have := hC1.out; simp; omega, HS2⟩
          case measure => simp [intOf]; omega
        · have HE : Hid (C2 = []) := List.length_eq_zero_iff.1 (by omega)
          clear hkt
          go_wp2_with fail
          first | (refine bodyPost_end (results_none rfl _ _ _) rfl ?_) | (refine bodyPost_ret (results_none rfl _ _ _) rfl ?_)
          have h1 := hC12.out
          have h2 := hS.out
          rw [HE.out] at h1 h2
          have h3 : B1 = C1 := by simpa using h1
          refine ⟨rfl, B1 ++ x :: B2, SL.put_first HSB.out HX.out HL1.out (fun y v e => by have := HL2.out y v e; omega), List.perm_middle, ?_⟩
          rw [h3]
          simpa using h2
end Go.Proofs.Ytoloiingodigpaa
