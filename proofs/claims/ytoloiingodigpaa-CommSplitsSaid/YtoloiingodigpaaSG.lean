import Derived.Test.YtoloiingodigpaaSF
namespace Go.Proofs.Ytoloiingodigpaa
open Go.RowKit Go.Shelf Go.Lib
attribute [local go_sem] Oper.semAt_some litE
set_option maxRecDepth 100000
set_option maxHeartbeats 2000000

theorem getD_cat4a (P A R : List Int) (c a : Nat) (hP : P.length = a) (h1 : a ≤ c) (h2 : c - a < A.length) : (P ++ A ++ R).getD c 0 = A.getD (c - a) 0 := by
  subst hP
  simp only [List.getD]
  rw [List.append_assoc, List.getElem?_append_right h1, List.getElem?_append_left h2]
theorem getD_mem' (A : List Int) (i : Nat) (h : i < A.length) : A.getD i 0 ∈ A := by simp [List.getD, h]

def MergeSays (w0 : World) (bb n N : Nat) (K : Int → Int) (P A B Q : List Int) (a m b : Nat) : Prop :=
  ∀ W, St w0 (P ++ A ++ B ++ Q) W → Calls Try.prog 146 #[.slice (some ⟨w0.heap.size, 0, none⟩) N N, .int .i64 a, .int .i64 m, .int .i64 b, .func (.func 119) #[] #[.pointer (some ⟨bb, 0, none⟩)]] W fun e w' => e = .returned (.tuple #[]) ∧ ∃ S, SL K S ∧ S.Perm (A ++ B) ∧ St w0 (P ++ S ++ Q) w'

set_option maxHeartbeats 4000000 in
theorem merge_step (w0 : World) (bb n N : Nat) (K : Int → Int) (hC : CmpC w0 bb n K) (hN : N ≤ 64) (P A B Q : List Int) (a m b : Nat) (hP : Hid (P.length = a)) (hA : Hid (a + A.length = m)) (hB : Hid (m + B.length = b)) (hL : Hid ((P ++ A ++ B ++ Q).length = N)) (ham : a + 1 < m) (hmb : m + 1 < b)
    (hSA : SL K A) (hSB : SL K B) (hx : ∀ x ∈ A, ∀ y ∈ B, x < y) (hin : ∀ y ∈ A ++ B, 0 ≤ y ∧ y < n)
    (ih : ∀ (P A B Q : List Int) (a' m' b' : Nat), b' - a' < b - a → P.length = a' → a' + A.length = m' → m' + B.length = b' → (P ++ A ++ B ++ Q).length = N → a' < m' → m' < b' → SL K A → SL K B → (∀ x ∈ A, ∀ y ∈ B, x < y) → (∀ y ∈ A ++ B, 0 ≤ y ∧ y < n) → MergeSays w0 bb n N K P A B Q a' m' b')
    : MergeSays w0 bb n N K P A B Q a m b := by
  intro W h
  have hbN : b ≤ N := by
    have h1 := hP.out; have h2 := hB.out; have h3 := hL.out; have h4 := hA.out
    simp at h3
    omega
  have H := Lib.hid h
  have HSA := Lib.hid hSA
  have HSB := Lib.hid hSB
  have HX := Lib.hid hx
  have HIN := Lib.hid hin
  have HC := Lib.hid hC
  have IH := Lib.hid ih
  clear h hSA hSB hx hin hC ih
  obtain ⟨mid, hmid⟩ : ∃ mid : Nat, mid = (a + b) / 2 := ⟨_, rfl⟩
  have hm1 : 2 * mid ≤ a + b := by omega
  have hm2 : a + b ≤ 2 * mid + 1 := by omega
  have hmi : ((a : Int) + (b : Int)) / 2 = (mid : Int) := by omega
  clear hmid
  have hgd1 : ¬ ((m : Int) - a = 1) := by omega
  have hgd2 : ¬ ((b : Int) - m = 1) := by omega
  obtain ⟨s0, r0, hs0⟩ : ∃ s0 r0 : Nat, (mid < m ∧ s0 + b = mid + m ∧ r0 = mid) ∨ (m ≤ mid ∧ s0 = a ∧ r0 = m) := by
    by_cases hc : mid < m
    · exact ⟨mid + m - b, mid, .inl ⟨hc, by omega, rfl⟩⟩
    · exact ⟨a, m, .inr ⟨by omega, rfl, rfl⟩⟩
  have hsr : s0 ≤ r0 ∧ a ≤ s0 ∧ r0 ≤ mid ∧ r0 ≤ m ∧ mid + m ≤ s0 + b := by omega
  obtain ⟨hsr1, hsr2, hsr3, hsr4, hsr5⟩ := hsr
  have HS0 := Lib.hid hs0
  have HL0 : Hid (∀ c, s0 ≤ c → c < r0 → (P ++ A ++ B ++ Q).getD c 0 = A.getD (c - a) 0 ∧ (P ++ A ++ B ++ Q).getD (mid + m - 1 - c) 0 = B.getD (mid - 1 - c) 0 ∧ c - a < A.length ∧ mid - 1 - c < B.length) := by
    show ∀ c, _
    intro c h1 h2
    have e1 := hA.out; have e2 := hB.out; have e3 := hP.out
    refine ⟨?_, ?_, by omega, by omega⟩
    · rw [List.append_assoc (P ++ A)]; exact getD_cat4a P A (B ++ Q) c a e3 (by omega) (by omega)
    · have := getD_cat4a (P ++ A) B Q (mid + m - 1 - c) m (by simp; omega) (by omega) (by omega)
      rw [this]; congr 1; omega
  -- what is behind the search: the two halves are merged
  have TAIL : Hid (∀ s : Nat, s0 ≤ s → s ≤ r0 → (s = s0 ∨ K (A.getD (s - 1 - a) 0) ≤ K (B.getD (mid - s) 0)) → (s = r0 ∨ K (B.getD (mid - 1 - s) 0) < K (A.getD (s - a) 0)) →
      ∃ A1 A2 B1 B2, A = A1 ++ A2 ∧ B = B1 ++ B2 ∧ a + A1.length = s ∧ s + A2.length = m ∧ s + B1.length = mid ∧ mid + m + B2.length = s + b ∧ ∀ x ∈ A1 ++ B1, ∀ y ∈ A2 ++ B2, LexLt K x y) := by
    show ∀ s, _
    intro s g1 g2 g3 g4
    have e1 := hA.out; have e2 := hB.out; have e3 := hP.out
    obtain ⟨A1, A2, ea1, ea2⟩ := split_at' A (s - a) (by omega)
    obtain ⟨B1, B2, eb1, eb2⟩ := split_at' B (mid - s) (by omega)
    have la := congrArg List.length ea1
    have lb := congrArg List.length eb1
    simp at la lb
    refine ⟨A1, A2, B1, B2, ea1, eb1, by omega, by omega, by omega, by omega, ?_⟩
    refine cut_cross (by rw [← ea1]; exact HSA.out) (by rw [← eb1]; exact HSB.out) (by rw [← ea1, ← eb1]; exact HX.out) ?_ ?_
    · intro x u y v q1 q2
      rcases g3 with g3 | g3
      · exfalso
        rw [q2] at lb; rw [q1] at ea2 la; simp at lb la ea2; omega
      · have r1 : A.getD (s - 1 - a) 0 = x := by rw [ea1]; exact getD_last A1 A2 u x _ q1 (by rw [q1] at ea2 ⊢; simp at ea2 ⊢; omega)
        have r2 : B.getD (mid - s) 0 = y := by rw [eb1]; exact getD_first B1 B2 v y _ q2 (by omega)
        rw [r1, r2] at g3; omega
    · intro y u x v q1 q2
      rcases g4 with g4 | g4
      · exfalso
        rw [q2] at la; rw [q1] at eb2 lb; simp at lb la eb2; omega
      · have r1 : B.getD (mid - 1 - s) 0 = y := by rw [eb1]; exact getD_last B1 B2 u y _ q1 (by rw [q1] at eb2 ⊢; simp at eb2 ⊢; omega)
        have r2 : A.getD (s - a) 0 = x := by rw [ea1]; exact getD_first A1 A2 v x _ q2 (by omega)
        rwa [r1, r2] at g4
  have mixed : Try.prog.follows Departure.mixedOrders = true := by kernel_rfl
  have t0 := Try.underlying0; have a0 := Try.isAgg0; have z0 := Try.sizeOf0; have v0 := Try.zeroValue0
  have t3 := Try.underlying3; have a3 := Try.isAgg3; have z3 := Try.sizeOf3; have v3 := Try.zeroValue3
  have t22 := Try.underlying22; have u22 := run_underlying Try.underlying22
  have S0 : Hid (∃ s0' r0' : Nat, (mid < m → (mid : Int) + m - b = s0' ∧ (mid : Int) = r0') ∧ (¬ mid < m → (a : Int) = s0' ∧ (m : Int) = r0') ∧ s0' = s0 ∧ r0' = r0) := by
    refine ⟨s0, r0, ?_, ?_, rfl, rfl⟩
    · intro hc; rcases hs0 with ⟨_, h1, h2⟩ | ⟨h1, _⟩
      · exact ⟨by omega, by omega⟩
      · omega
    · intro hc; rcases hs0 with ⟨h1, _⟩ | ⟨_, h1, h2⟩
      · omega
      · exact ⟨by omega, by omega⟩
  clear hs0
  go_enter Try.func146, Try.ntmps146
  by_cases hc : mid < m
  all_goals (
    obtain ⟨q0, q1, hq1, hq2, hq3, hq4⟩ := S0.out
    subst hq3 hq4
    have HQ : Hid ((mid < m ∧ (mid : Int) + m - b = q0 ∧ (mid : Int) = q1) ∨ (¬ mid < m ∧ (a : Int) = q0 ∧ (m : Int) = q1)) := by
      first | exact .inl ⟨hc, hq1 hc⟩ | exact .inr ⟨hc, hq2 hc⟩
    clear hq1 hq2 S0
    go_wp2_with fail
    go_loopw [20, 21] (fun i j wr => ∃ (s t : Nat), i = .int .i64 s ∧ j = .int .i64 t ∧ q0 ≤ s ∧ s ≤ t ∧ t ≤ q1 ∧ Hid (s = q0 ∨ K (A.getD (s - 1 - a) 0) ≤ K (B.getD (mid - s) 0)) ∧ Hid (t = q1 ∨ K (B.getD (mid - 1 - t) 0) < K (A.getD (t - a) 0)) ∧ Hid (St w0 (P ++ A ++ B ++ Q) wr)) (fun i j _ => (intOf j).toNat - (intOf i).toNat)
    case atStart => exact ⟨q0, q1, congrArg (Value.int .i64) (by have := HQ.out; omega), congrArg (Value.int .i64) (by have := HQ.out; omega), Nat.le_refl _, hsr1, Nat.le_refl _, .inl rfl, .inl rfl, H⟩
    case round =>
      obtain ⟨s, t, rfl, rfl, hms, hst, htb, hS1, hT1, hS⟩ := hrel
      by_cases hlt : s < t
      · obtain ⟨h, hh⟩ : ∃ h, h = (s + t) / 2 := ⟨_, rfl⟩
        have hhs : s ≤ h := by omega
        have hht : h < t := by omega
        have ea : (((s : Int) + (t : Int)) / 2).toNat = h := by omega
        have ea2 : ((s : Int) + (t : Int)) / 2 = h := by omega
        have pa : (0 : Int) ≤ ((s : Int) + (t : Int)) / 2 := by omega
        have ba : ((s : Int) + (t : Int)) / 2 < (N : Int) := by omega
        obtain ⟨g, hg⟩ : ∃ g, g = mid + m - 1 - h := ⟨_, rfl⟩
        have eb : (((mid : Int) + (m : Int) - 1) - ((s : Int) + (t : Int)) / 2).toNat = g := by omega
        have pb : (0 : Int) ≤ ((mid : Int) + (m : Int) - 1) - ((s : Int) + (t : Int)) / 2 := by omega
        have bb' : ((mid : Int) + (m : Int) - 1) - ((s : Int) + (t : Int)) / 2 < (N : Int) := by omega
        have rb : IntKind.i64.wrap (((mid : Int) + (m : Int) - 1) - ((s : Int) + (t : Int)) / 2) = ((mid : Int) + (m : Int) - 1) - ((s : Int) + (t : Int)) / 2 := by rw [IntKind.wrap_i64]; omega
        have HA2 := Lib.hid ea2
        clear ea2 hh
        obtain ⟨v1, v2, lA, lB⟩ := HL0.out h (by omega) (by omega)
        rw [← hg] at v2
        have hb1 := hS.out.cell h (by have := hL.out; omega)
        have hb2 := hS.out.cell g (by have := hL.out; omega)
        rw [v1] at hb1
        rw [v2] at hb2
        have hvin : 0 ≤ A.getD (h - a) 0 ∧ A.getD (h - a) 0 < n := HIN.out _ (List.mem_append_left _ (getD_mem' _ _ lA))
        have hxin : 0 ≤ B.getD (mid - 1 - h) 0 ∧ B.getD (mid - 1 - h) 0 < n := HIN.out _ (List.mem_append_right _ (getD_mem' _ _ lB))
        have HCMP := Lib.hid (HC.out.at_ hS.out (B.getD (mid - 1 - h) 0) (A.getD (h - a) 0) hxin hvin)
        have HI : Hid (∀ c : Prop, (c ↔ K (B.getD (mid - 1 - h) 0) < K (A.getD (h - a) 0)) → (¬ c → Hid (h + 1 = q0 ∨ K (A.getD (h + 1 - 1 - a) 0) ≤ K (B.getD (mid - (h + 1)) 0))) ∧ (c → Hid (h = q1 ∨ K (B.getD (mid - 1 - h) 0) < K (A.getD (h - a) 0)))) := by
          intro c hc
          refine ⟨fun h1 => .inr ?_, fun h1 => .inr (hc.1 h1)⟩
          have q1 : mid - (h + 1) = mid - 1 - h := by omega
          have q2 : h + 1 - 1 - a = h - a := by omega
          rw [q1, q2]; exact Int.not_lt.1 fun h2 => h1 (hc.2 h2)
        have Hg := Lib.hid hg
        clear v1 v2 lA lB hg
        generalize hv : A.getD (h - a) 0 = v at *
        generalize hu : B.getD (mid - 1 - h) 0 = u at *
        have HVv := Lib.hid hv
        have HUu := Lib.hid hu
        clear hv hu
        go_wp2_with fail
        go_quiet (first | (go_at_call 119; refine Calls.quiet_of (HCMP.out _)))
        have hd := cmpZ_lt (K u) (K v)
        generalize cmpZ (K u) (K v) = cz at *
        have hI := HI.out (cz < 0) hd
        clear hd HI
        generalize hq : decide (cz < 0) = q at *
        cases q with
        | true =>
          have hI1 := hI.2 (by simpa using hq)
          clear hI hq
          go_wp2_with fail
          go_roundw
          case rel => exact ⟨s, h, by go_num, congrArg (Value.int .i64) (by have := HA2.out; omega), by omega, by omega, by omega, hS1, by show _ ∨ _; rw [HVv.out, HUu.out]; exact hI1.out, by show St _ _ _; exact hS.out.drewN nq⟩
          case measure => have := HA2.out; simp [intOf]; omega
        | false =>
          have hI1 := hI.1 (by simpa using hq)
          clear hI hq
          go_wp2_with fail
          go_roundw
          case rel => exact ⟨h + 1, t, congrArg (Value.int .i64) (by have := HA2.out; omega), by go_num, by omega, by omega, htb, hI1, hT1, by show St _ _ _; exact hS.out.drewN nq⟩
          case measure => have := HA2.out; simp [intOf]; omega
      · have hst' : t = s := by omega
        subst hst'
        obtain ⟨A1, A2, B1, B2, e1, e2, l1, l2, l3, l4, hcross⟩ := TAIL.out t hms htb hS1.out hT1.out
        subst e1 e2
        have HCR := Lib.hid hcross
        clear hcross hS1 hT1 TAIL HL0
        have hS' : St w0 ((P ++ A1) ++ A2 ++ B1 ++ (B2 ++ Q)) wr := by have := hS.out; simpa using this
        have l1' := Lib.hid l1; have l2' := Lib.hid l2; have l3' := Lib.hid l3; have l4' := Lib.hid l4
        obtain ⟨en, hen⟩ : ∃ en : Nat, en + t = mid + m := ⟨mid + m - t, by omega⟩
        have een : (mid : Int) + (m : Int) - (t : Int) = en := by omega
        have HEN := Lib.hid hen
        have hlL := hL.out
        simp at hlL
        -- rotate
        have ROT : Hid (t < m → m < en → Calls Try.prog 148 #[.slice (some ⟨w0.heap.size, 0, none⟩) N N, .int .i64 t, .int .i64 m, .int .i64 ((mid : Int) + (m : Int) - (t : Int)), .func (.func 119) #[] #[.pointer (some ⟨bb, 0, none⟩)]] wr fun e w' => e = .returned (.tuple #[]) ∧ St w0 (P ++ A1 ++ B1 ++ A2 ++ B2 ++ Q) w') := by
          intro z1 z2
          rw [een]
          refine (rotate_any w0 _ (P ++ A1) A2 B1 (B2 ++ Q) t m en N (by show _ = _; have := hP.out; simp; omega) (by show _ = _; have := hP.out; simp; omega) (by show _ = _; have := hP.out; simp; omega) (by show _ = _; simp; omega) hN z1 z2 wr hS').mono ?_
          rintro e w' ⟨rfl, h⟩
          exact ⟨rfl, by simpa using h⟩
        have NOROT : Hid ((¬ t < m ∨ ¬ m < en) → St w0 (P ++ A1 ++ B1 ++ A2 ++ B2 ++ Q) wr) := by
          show _ → _
          intro z
          rcases z with z | z
          · have : A2 = [] := List.length_eq_zero_iff.1 (by omega)
            subst this; simpa using hS'
          · have : B1 = [] := List.length_eq_zero_iff.1 (by omega)
            subst this; simpa using hS'
        have M1 : Hid (∀ w1, St w0 (P ++ A1 ++ B1 ++ A2 ++ B2 ++ Q) w1 → a < t → t < mid → Calls Try.prog 146 #[.slice (some ⟨w0.heap.size, 0, none⟩) N N, .int .i64 a, .int .i64 t, .int .i64 (mid : Int), .func (.func 119) #[] #[.pointer (some ⟨bb, 0, none⟩)]] w1 fun e w' => e = .returned (.tuple #[]) ∧ ∃ S, SL K S ∧ S.Perm (A1 ++ B1) ∧ St w0 (P ++ S ++ A2 ++ B2 ++ Q) w') := by
          intro w1 hw z1 z2
          have hw' : St w0 (P ++ A1 ++ B1 ++ (A2 ++ B2 ++ Q)) w1 := by simpa using hw
          refine (IH.out P A1 B1 (A2 ++ B2 ++ Q) a t mid (by omega) hP.out l1 l3 (by simp; omega) z1 z2 HSA.out.left HSB.out.left (fun x hx y hy => HX.out x (List.mem_append_left _ hx) y (List.mem_append_left _ hy)) ?_ w1 hw').mono ?_
          · intro y hy
            refine HIN.out y ?_
            rcases List.mem_append.1 hy with hy | hy
            · exact List.mem_append_left _ (List.mem_append_left _ hy)
            · exact List.mem_append_right _ (List.mem_append_left _ hy)
          · rintro e w' ⟨rfl, S, h1, h2, h3⟩
            exact ⟨rfl, S, h1, h2, by simpa using h3⟩
        have NOM1 : Hid (∀ w1, St w0 (P ++ A1 ++ B1 ++ A2 ++ B2 ++ Q) w1 → (¬ a < t ∨ ¬ t < mid) → ∃ S, SL K S ∧ S.Perm (A1 ++ B1) ∧ St w0 (P ++ S ++ A2 ++ B2 ++ Q) w1) := by
          show ∀ w1, _
          intro w1 hw z
          refine ⟨A1 ++ B1, ?_, List.Perm.refl _, by simpa using hw⟩
          rcases z with z | z
          · have : A1 = [] := List.length_eq_zero_iff.1 (by omega)
            subst this; exact HSB.out.left
          · have : B1 = [] := List.length_eq_zero_iff.1 (by omega)
            subst this; have := HSA.out.left; simpa using this
        have M2 : Hid (∀ S1 w1, S1.Perm (A1 ++ B1) → St w0 (P ++ S1 ++ A2 ++ B2 ++ Q) w1 → mid < en → en < b → Calls Try.prog 146 #[.slice (some ⟨w0.heap.size, 0, none⟩) N N, .int .i64 (mid : Int), .int .i64 ((mid : Int) + (m : Int) - (t : Int)), .int .i64 b, .func (.func 119) #[] #[.pointer (some ⟨bb, 0, none⟩)]] w1 fun e w' => e = .returned (.tuple #[]) ∧ ∃ S, SL K S ∧ S.Perm (A2 ++ B2) ∧ St w0 (P ++ S1 ++ S ++ Q) w') := by
          show ∀ S1 w1, _
          intro S1 w1 hp hw z1 z2
          rw [een]
          have hpl := hp.length_eq
          simp at hpl
          refine (IH.out (P ++ S1) A2 B2 Q mid en b (by omega) (by have := hP.out; simp; omega) (by omega) (by omega) (by simp; omega) z1 z2 HSA.out.right HSB.out.right (fun x hx y hy => HX.out x (List.mem_append_right _ hx) y (List.mem_append_right _ hy)) ?_ w1 hw).mono ?_
          · intro y hy
            refine HIN.out y ?_
            rcases List.mem_append.1 hy with hy | hy
            · exact List.mem_append_left _ (List.mem_append_right _ hy)
            · exact List.mem_append_right _ (List.mem_append_right _ hy)
          · rintro e w' ⟨rfl, S, h1, h2, h3⟩
            exact ⟨rfl, S, h1, h2, by simpa using h3⟩
        have NOM2 : Hid (∀ S1 w1, St w0 (P ++ S1 ++ A2 ++ B2 ++ Q) w1 → (¬ mid < en ∨ ¬ en < b) → ∃ S, SL K S ∧ S.Perm (A2 ++ B2) ∧ St w0 (P ++ S1 ++ S ++ Q) w1) := by
          show ∀ S1 w1, _
          intro S1 w1 hw z
          refine ⟨A2 ++ B2, ?_, List.Perm.refl _, by simpa using hw⟩
          rcases z with z | z
          · have : A2 = [] := List.length_eq_zero_iff.1 (by omega)
            subst this; exact HSB.out.right
          · have : B2 = [] := List.length_eq_zero_iff.1 (by omega)
            subst this; have := HSA.out.right; simpa using this
        have FIN : Hid (∀ S1 S2 w1, SL K S1 → S1.Perm (A1 ++ B1) → SL K S2 → S2.Perm (A2 ++ B2) → St w0 (P ++ S1 ++ S2 ++ Q) w1 → ∃ S, SL K S ∧ S.Perm (A1 ++ A2 ++ (B1 ++ B2)) ∧ St w0 (P ++ S ++ Q) w1) := by
          show ∀ S1 S2 w1, _
          intro S1 S2 w1 h1 h2 h3 h4 h5
          refine ⟨S1 ++ S2, SL.append h1 h3 ?_, ?_, by simpa using h5⟩
          · intro x hx y hy
            exact HCR.out x (h2.subset hx) y (h4.subset hy)
          · refine (h2.append h4).trans ?_
            simp only [List.append_assoc]
            refine List.Perm.append_left A1 ?_
            rw [← List.append_assoc, ← List.append_assoc]
            exact List.Perm.append_right B2 List.perm_append_comm
        clear hlL hS' l1 l2 l3 l4 een hS
        by_cases cA1 : a < t
        · by_cases cA2 : t < m
          · by_cases cB1 : t < mid
            · by_cases cB2 : en < b
              · have g1 : (t : Int) < m := by omega
                have g2 : (m : Int) < (mid : Int) + (m : Int) - (t : Int) := by omega
                have g3 : (a : Int) < t := by omega
                have g4 : (t : Int) < (mid : Int) := by omega
                have g5 : (mid : Int) < (mid : Int) + (m : Int) - (t : Int) := by omega
                have g6 : (mid : Int) + (m : Int) - (t : Int) < b := by omega
                have HR := Lib.hid (ROT.out (by omega) (by omega))
                go_wp2_with (refine HR.out.mono ?_; clear HR; rintro e w1 ⟨rfl, h1⟩)
                all_goals (
                  have H1 := Lib.hid h1
                  clear h1
                  have HM1 := Lib.hid (M1.out w1 H1.out (by omega) (by omega))
                  go_wp2_with (refine HM1.out.mono ?_; clear HM1; rintro e w2 ⟨rfl, S1, s1, s2, s3⟩)
                  all_goals (
                    have K1 := Lib.hid s1
                    have K2 := Lib.hid s2
                    have K3 := Lib.hid s3
                    clear s1 s2 s3
                    have HM2 := Lib.hid (M2.out S1 w2 K2.out K3.out (by omega) (by omega))
                    go_wp2_with (refine HM2.out.mono ?_; clear HM2; rintro e w3 ⟨rfl, S2, s1, s2, s3⟩)
                    all_goals (
                      have K4 := Lib.hid s1
                      have K5 := Lib.hid s2
                      have K6 := Lib.hid s3
                      clear s1 s2 s3
                      first | (refine bodyPost_end (results_none rfl _ _ _) rfl ?_) | (refine bodyPost_ret (results_none rfl _ _ _) rfl ?_)
                      first | exact ⟨rfl, FIN.out S1 S2 w3 K1.out K2.out K4.out K5.out K6.out⟩ | (have hF := FIN.out S1 S2 w3 K1.out K2.out K4.out K5.out K6.out; simp only [List.append_assoc] at hF ⊢; exact ⟨trivial, hF⟩) | (have hF := FIN.out S1 S2 w3 K1.out K2.out K4.out K5.out K6.out; simp only [List.append_assoc] at hF ⊢; exact ⟨rfl, hF⟩))))
              · have g1 : (t : Int) < m := by omega
                have g2 : (m : Int) < (mid : Int) + (m : Int) - (t : Int) := by omega
                have g3 : (a : Int) < t := by omega
                have g4 : (t : Int) < (mid : Int) := by omega
                have g5 : (mid : Int) < (mid : Int) + (m : Int) - (t : Int) := by omega
                have g6 : ¬ (mid : Int) + (m : Int) - (t : Int) < b := by omega
                have HR := Lib.hid (ROT.out (by omega) (by omega))
                go_wp2_with (refine HR.out.mono ?_; clear HR; rintro e w1 ⟨rfl, h1⟩)
                all_goals (
                  have H1 := Lib.hid h1
                  clear h1
                  have HM1 := Lib.hid (M1.out w1 H1.out (by omega) (by omega))
                  go_wp2_with (refine HM1.out.mono ?_; clear HM1; rintro e w2 ⟨rfl, S1, s1, s2, s3⟩)
                  all_goals (
                    have K1 := Lib.hid s1
                    have K2 := Lib.hid s2
                    have K3 := Lib.hid s3
                    clear s1 s2 s3
                    obtain ⟨S2, s1, s2, s3⟩ := NOM2.out S1 w2 K3.out (by omega)
                    have K4 := Lib.hid s1
                    have K5 := Lib.hid s2
                    have K6 := Lib.hid s3
                    clear s1 s2 s3
                    go_wp2_with fail
                    all_goals (
                      first | (refine bodyPost_end (results_none rfl _ _ _) rfl ?_) | (refine bodyPost_ret (results_none rfl _ _ _) rfl ?_)
                      first | exact ⟨rfl, FIN.out S1 S2 w2 K1.out K2.out K4.out K5.out K6.out⟩ | (have hF := FIN.out S1 S2 w2 K1.out K2.out K4.out K5.out K6.out; simp only [List.append_assoc] at hF ⊢; exact ⟨trivial, hF⟩) | (have hF := FIN.out S1 S2 w2 K1.out K2.out K4.out K5.out K6.out; simp only [List.append_assoc] at hF ⊢; exact ⟨rfl, hF⟩))))
            · by_cases cB2 : en < b
              · have g1 : (t : Int) < m := by omega
                have g2 : ¬ (m : Int) < (mid : Int) + (m : Int) - (t : Int) := by omega
                have g3 : (a : Int) < t := by omega
                have g4 : ¬ (t : Int) < (mid : Int) := by omega
                have g5 : (mid : Int) < (mid : Int) + (m : Int) - (t : Int) := by omega
                have g6 : (mid : Int) + (m : Int) - (t : Int) < b := by omega
                have H1 := Lib.hid (NOROT.out (by omega))
                obtain ⟨S1, s1, s2, s3⟩ := NOM1.out wr H1.out (by omega)
                have K1 := Lib.hid s1
                have K2 := Lib.hid s2
                have K3 := Lib.hid s3
                clear s1 s2 s3
                have HM2 := Lib.hid (M2.out S1 wr K2.out K3.out (by omega) (by omega))
                go_wp2_with (refine HM2.out.mono ?_; clear HM2; rintro e w3 ⟨rfl, S2, s1, s2, s3⟩)
                all_goals (
                  have K4 := Lib.hid s1
                  have K5 := Lib.hid s2
                  have K6 := Lib.hid s3
                  clear s1 s2 s3
                  first | (refine bodyPost_end (results_none rfl _ _ _) rfl ?_) | (refine bodyPost_ret (results_none rfl _ _ _) rfl ?_)
                  first | exact ⟨rfl, FIN.out S1 S2 w3 K1.out K2.out K4.out K5.out K6.out⟩ | (have hF := FIN.out S1 S2 w3 K1.out K2.out K4.out K5.out K6.out; simp only [List.append_assoc] at hF ⊢; exact ⟨trivial, hF⟩) | (have hF := FIN.out S1 S2 w3 K1.out K2.out K4.out K5.out K6.out; simp only [List.append_assoc] at hF ⊢; exact ⟨rfl, hF⟩))
              · exfalso; have := l1'.out; have := l2'.out; have := l3'.out; have := l4'.out; omega
          · by_cases cB1 : t < mid
            · by_cases cB2 : en < b
              · have g1 : ¬ (t : Int) < m := by omega
                have g2 : (m : Int) < (mid : Int) + (m : Int) - (t : Int) := by omega
                have g3 : (a : Int) < t := by omega
                have g4 : (t : Int) < (mid : Int) := by omega
                have g5 : ¬ (mid : Int) < (mid : Int) + (m : Int) - (t : Int) := by omega
                have g6 : (mid : Int) + (m : Int) - (t : Int) < b := by omega
                have H1 := Lib.hid (NOROT.out (by omega))
                have HM1 := Lib.hid (M1.out wr H1.out (by omega) (by omega))
                go_wp2_with (refine HM1.out.mono ?_; clear HM1; rintro e w2 ⟨rfl, S1, s1, s2, s3⟩)
                all_goals (
                  have K1 := Lib.hid s1
                  have K2 := Lib.hid s2
                  have K3 := Lib.hid s3
                  clear s1 s2 s3
                  obtain ⟨S2, s1, s2, s3⟩ := NOM2.out S1 w2 K3.out (by omega)
                  have K4 := Lib.hid s1
                  have K5 := Lib.hid s2
                  have K6 := Lib.hid s3
                  clear s1 s2 s3
                  go_wp2_with fail
                  all_goals (
                    first | (refine bodyPost_end (results_none rfl _ _ _) rfl ?_) | (refine bodyPost_ret (results_none rfl _ _ _) rfl ?_)
                    first | exact ⟨rfl, FIN.out S1 S2 w2 K1.out K2.out K4.out K5.out K6.out⟩ | (have hF := FIN.out S1 S2 w2 K1.out K2.out K4.out K5.out K6.out; simp only [List.append_assoc] at hF ⊢; exact ⟨trivial, hF⟩) | (have hF := FIN.out S1 S2 w2 K1.out K2.out K4.out K5.out K6.out; simp only [List.append_assoc] at hF ⊢; exact ⟨rfl, hF⟩)))
              · exfalso; have := l1'.out; have := l2'.out; have := l3'.out; have := l4'.out; omega
            · by_cases cB2 : en < b
              · have g1 : ¬ (t : Int) < m := by omega
                have g2 : ¬ (m : Int) < (mid : Int) + (m : Int) - (t : Int) := by omega
                have g3 : (a : Int) < t := by omega
                have g4 : ¬ (t : Int) < (mid : Int) := by omega
                have g5 : ¬ (mid : Int) < (mid : Int) + (m : Int) - (t : Int) := by omega
                have g6 : (mid : Int) + (m : Int) - (t : Int) < b := by omega
                have H1 := Lib.hid (NOROT.out (by omega))
                obtain ⟨S1, s1, s2, s3⟩ := NOM1.out wr H1.out (by omega)
                have K1 := Lib.hid s1
                have K2 := Lib.hid s2
                have K3 := Lib.hid s3
                clear s1 s2 s3
                obtain ⟨S2, s1, s2, s3⟩ := NOM2.out S1 wr K3.out (by omega)
                have K4 := Lib.hid s1
                have K5 := Lib.hid s2
                have K6 := Lib.hid s3
                clear s1 s2 s3
                go_wp2_with fail
                all_goals (
                  first | (refine bodyPost_end (results_none rfl _ _ _) rfl ?_) | (refine bodyPost_ret (results_none rfl _ _ _) rfl ?_)
                  first | exact ⟨rfl, FIN.out S1 S2 wr K1.out K2.out K4.out K5.out K6.out⟩ | (have hF := FIN.out S1 S2 wr K1.out K2.out K4.out K5.out K6.out; simp only [List.append_assoc] at hF ⊢; exact ⟨trivial, hF⟩) | (have hF := FIN.out S1 S2 wr K1.out K2.out K4.out K5.out K6.out; simp only [List.append_assoc] at hF ⊢; exact ⟨rfl, hF⟩))
              · exfalso; have := l1'.out; have := l2'.out; have := l3'.out; have := l4'.out; omega
        · by_cases cA2 : t < m
          · by_cases cB1 : t < mid
            · by_cases cB2 : en < b
              · have g1 : (t : Int) < m := by omega
                have g2 : (m : Int) < (mid : Int) + (m : Int) - (t : Int) := by omega
                have g3 : ¬ (a : Int) < t := by omega
                have g4 : (t : Int) < (mid : Int) := by omega
                have g5 : (mid : Int) < (mid : Int) + (m : Int) - (t : Int) := by omega
                have g6 : (mid : Int) + (m : Int) - (t : Int) < b := by omega
                have HR := Lib.hid (ROT.out (by omega) (by omega))
                go_wp2_with (refine HR.out.mono ?_; clear HR; rintro e w1 ⟨rfl, h1⟩)
                all_goals (
                  have H1 := Lib.hid h1
                  clear h1
                  obtain ⟨S1, s1, s2, s3⟩ := NOM1.out w1 H1.out (by omega)
                  have K1 := Lib.hid s1
                  have K2 := Lib.hid s2
                  have K3 := Lib.hid s3
                  clear s1 s2 s3
                  have HM2 := Lib.hid (M2.out S1 w1 K2.out K3.out (by omega) (by omega))
                  go_wp2_with (refine HM2.out.mono ?_; clear HM2; rintro e w3 ⟨rfl, S2, s1, s2, s3⟩)
                  all_goals (
                    have K4 := Lib.hid s1
                    have K5 := Lib.hid s2
                    have K6 := Lib.hid s3
                    clear s1 s2 s3
                    first | (refine bodyPost_end (results_none rfl _ _ _) rfl ?_) | (refine bodyPost_ret (results_none rfl _ _ _) rfl ?_)
                    first | exact ⟨rfl, FIN.out S1 S2 w3 K1.out K2.out K4.out K5.out K6.out⟩ | (have hF := FIN.out S1 S2 w3 K1.out K2.out K4.out K5.out K6.out; simp only [List.append_assoc] at hF ⊢; exact ⟨trivial, hF⟩) | (have hF := FIN.out S1 S2 w3 K1.out K2.out K4.out K5.out K6.out; simp only [List.append_assoc] at hF ⊢; exact ⟨rfl, hF⟩)))
              · have g1 : (t : Int) < m := by omega
                have g2 : (m : Int) < (mid : Int) + (m : Int) - (t : Int) := by omega
                have g3 : ¬ (a : Int) < t := by omega
                have g4 : (t : Int) < (mid : Int) := by omega
                have g5 : (mid : Int) < (mid : Int) + (m : Int) - (t : Int) := by omega
                have g6 : ¬ (mid : Int) + (m : Int) - (t : Int) < b := by omega
                have HR := Lib.hid (ROT.out (by omega) (by omega))
                go_wp2_with (refine HR.out.mono ?_; clear HR; rintro e w1 ⟨rfl, h1⟩)
                all_goals (
                  have H1 := Lib.hid h1
                  clear h1
                  obtain ⟨S1, s1, s2, s3⟩ := NOM1.out w1 H1.out (by omega)
                  have K1 := Lib.hid s1
                  have K2 := Lib.hid s2
                  have K3 := Lib.hid s3
                  clear s1 s2 s3
                  obtain ⟨S2, s1, s2, s3⟩ := NOM2.out S1 w1 K3.out (by omega)
                  have K4 := Lib.hid s1
                  have K5 := Lib.hid s2
                  have K6 := Lib.hid s3
                  clear s1 s2 s3
                  go_wp2_with fail
                  all_goals (
                    first | (refine bodyPost_end (results_none rfl _ _ _) rfl ?_) | (refine bodyPost_ret (results_none rfl _ _ _) rfl ?_)
                    first | exact ⟨rfl, FIN.out S1 S2 w1 K1.out K2.out K4.out K5.out K6.out⟩ | (have hF := FIN.out S1 S2 w1 K1.out K2.out K4.out K5.out K6.out; simp only [List.append_assoc] at hF ⊢; exact ⟨trivial, hF⟩) | (have hF := FIN.out S1 S2 w1 K1.out K2.out K4.out K5.out K6.out; simp only [List.append_assoc] at hF ⊢; exact ⟨rfl, hF⟩)))
            · by_cases cB2 : en < b
              · exfalso; have := l1'.out; have := l2'.out; have := l3'.out; have := l4'.out; omega
              · exfalso; have := l1'.out; have := l2'.out; have := l3'.out; have := l4'.out; omega
          · by_cases cB1 : t < mid
            · by_cases cB2 : en < b
              · exfalso; have := l1'.out; have := l2'.out; have := l3'.out; have := l4'.out; omega
              · exfalso; have := l1'.out; have := l2'.out; have := l3'.out; have := l4'.out; omega
            · by_cases cB2 : en < b
              · exfalso; have := l1'.out; have := l2'.out; have := l3'.out; have := l4'.out; omega
              · exfalso; have := l1'.out; have := l2'.out; have := l3'.out; have := l4'.out; omega)
end Go.Proofs.Ytoloiingodigpaa
