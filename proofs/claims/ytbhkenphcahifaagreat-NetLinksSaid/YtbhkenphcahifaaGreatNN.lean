import Derived.Test.YtbhkenphcahifaaGreatNM
namespace Go.Proofs.YtbhkenphcahifaaGreat
open Go.RowKit Go.Shelf
attribute [local go_sem] Oper.semAt_some
set_option maxRecDepth 100000
set_option maxHeartbeats 4000000

theorem rSw1_any {w : World} {sa : Option Addr} {l : List Int} (h : Ints w sa l) (sc : Nat) (hosts : Int) (ht : tOk l hosts) :
    Calls Tryz.prog 51 #[.agg #[.int .i64 1, .slice sa l.length sc, .int .i64 hosts]] w fun e w' => e = .returned (.int .i64 (prodI l)) ∧ Below w.heap.size w w' := by
  have hlen := h.len
  have HL := Lib.hid h
  have hl4 : l.length ≤ 4 := by have := ht.1.2; omega
  have HP := Lib.hid ht.2.2.1
  obtain ⟨N, hN⟩ : ∃ N, N = l.length := ⟨_, rfl⟩
  have HN := Lib.hid hN
  rw [← hN] at hlen hl4 ⊢
  have HN4 := Lib.hid hl4
  have HB := Lib.hid ((Below.refl w.heap.size w).alloc (Nat.le_refl _) (.cells #[.int .i64 1, .slice sa N sc, .int .i64 hosts] 34))
  have Q0 := Lib.hid (heap_alloc_new w (.cells #[.int .i64 1, .slice sa N sc, .int .i64 hosts] 34))
  have c0 := cellR 0 Q0.out rfl
  have c1 := cellR 1 Q0.out rfl
  have c2 := cellR 2 Q0.out rfl
  clear h hN ht Q0 hl4
  obtain ⟨R, hR⟩ : ∃ R, R = prodI l := ⟨_, rfl⟩
  have HR := Lib.hid hR
  rw [← hR]
  clear hR
  go_enter Tryz.func51, Tryz.ntmps51
  go_wp2_with fail
  generalize w.alloc (.cells #[.int .i64 1, .slice sa N sc, .int .i64 hosts] 34) = X at *
  go_loop [3, 4] (fun p i => ∃ (k : Nat) (q : Int), k ≤ N ∧ i = .int .i64 k ∧ p = .int .i64 q ∧ Hid (q = prodI (l.take k)) ∧ 1 ≤ q ∧ Hid (q ≤ 16 ^ k)) (fun _ i => N - (intOf i).toNat)
  case atStart => exact ⟨0, 1, Nat.zero_le _, rfl, rfl, rfl, by decide, by show (1 : Int) ≤ 16 ^ 0; decide⟩
  case round =>
    obtain ⟨k, q, hk, rfl, rfl, HQ, hq1, HQ2⟩ := hrel
    by_cases hlt : k < N
    · have hk1 : k < l.length := by rw [← HN.out]; exact hlt
      obtain ⟨g, o, rfl, hc⟩ := (HL.out.keep HB.out).at_ (ne_nil_of_lt hk1)
      have e0 := hc k hk1
      have HPS : Hid (prodI (l.take (k + 1)) = prodI (l.take k) * l[k]) := by
        show _ = _
        rw [List.take_succ_eq_append_getElem hk1, prodI_snoc]
      have hx := HP.out l[k] (List.getElem_mem hk1)
      generalize l[k] = x at *
      clear hc hk1
      obtain ⟨hm1, hm2⟩ := mul_bound hq1 HQ2.out hx.1 hx.2
      have hl5 := lim16 (show k + 1 ≤ 4 by have := HN4.out; omega)
      rw [Int.pow_succ] at hl5
      have hw : wrap64 (q * x) = q * x := by
        generalize q * x = z at *
        generalize (16 : Int) ^ k * 16 = y at *
        unfold wrap64
        omega
      have HQ3 : Hid (q * x = prodI (l.take (k + 1))) := by show _ = _; rw [HPS.out, ← HQ.out]
      have HQ4 : Hid (q * x ≤ 16 ^ (k + 1)) := by show _ ≤ _; rw [Int.pow_succ]; exact hm2
      clear hx hm2 hl5 HPS HQ HQ2
      go_wp2_with fail
      go_round
      case rel => exact ⟨k + 1, q * x, by omega, by go_num, by rw [hw], HQ3, hm1, HQ4⟩
      case measure => simp [intOf]; omega
    · have hkN : k = N := by omega
      have hqp : Hid (q = R) := by show _ = _; rw [HQ.out, hkN, HN.out, List.take_length, HR.out]
      clear HQ HQ2 HP
      go_wp2_with fail
      go_ret
      exact ⟨by rw [← hqp.out]; rfl, HB.out⟩
theorem rSwitches_any {w : World} {sa : Option Addr} {l : List Int} (h : Ints w sa l) (sc : Nat) (kind hosts : Int) (hv : vOk kind l hosts) :
    Calls Tryz.prog 51 #[.agg #[.int .i64 kind, .slice sa l.length sc, .int .i64 hosts]] w fun e w' => e = .returned (.int .i64 (swI kind l)) ∧ Below w.heap.size w w' := by
  rcases hv with ⟨rfl, ht⟩ | ⟨rfl, hr⟩ | ⟨rfl, hd⟩
  · exact rSw1_any h sc hosts ht
  · obtain ⟨h0, h1, h2, h3, h4⟩ := hr
    obtain ⟨a, b, rfl⟩ := two_of h0
    obtain ⟨g, o, rfl, ht⟩ := h.two
    simp only [List.getD_cons_zero, List.getD_cons_succ] at h1 h2
    obtain ⟨kn, rfl⟩ := Int.eq_ofNat_of_zero_le (show 0 ≤ a by omega)
    obtain ⟨ln, rfl⟩ := Int.eq_ofNat_of_zero_le (show 0 ≤ b by omega)
    exact rSw2_any kn ln (by omega) (by omega) (by omega) ht sc hosts
  · obtain ⟨h0, h1, h2, h3, h4⟩ := hd
    obtain ⟨a, b, rfl⟩ := two_of h0
    obtain ⟨g, o, rfl, ht⟩ := h.two
    simp only [List.getD_cons_zero, List.getD_cons_succ] at h2 h3
    exact rSw3_any a b h2.1 h2.2 h3.1 h3.2 ht sc hosts
theorem rWords_v {w : World} {sa : Option Addr} {l : List Int} (h : Ints w sa l) (sc : Nat) (kind hosts : Int) (hv : rOk l hosts) :
    Calls Tryz.prog 95 #[.agg #[.int .i64 kind, .slice sa l.length sc, .int .i64 hosts]] w fun e w' => e = .returned (.int .i64 (wordsI l)) ∧ Below w.heap.size w w' := by
  obtain ⟨h0, h1, h2, h3, h4⟩ := hv
  obtain ⟨a, b, rfl⟩ := two_of h0
  obtain ⟨g, o, rfl, ht⟩ := h.two
  simp only [List.getD_cons_zero, List.getD_cons_succ] at h1 h2
  obtain ⟨kn, rfl⟩ := Int.eq_ofNat_of_zero_le (show 0 ≤ a by omega)
  obtain ⟨ln, rfl⟩ := Int.eq_ofNat_of_zero_le (show 0 ≤ b by omega)
  exact rWords_any kn ln (by omega) (by omega) (by omega) ht sc kind hosts
theorem rHomes_any {w : World} {sa : Option Addr} {l : List Int} (h : Ints w sa l) (sc : Nat) (kind hosts : Int) (hv : vOk kind l hosts) :
    Calls Tryz.prog 60 #[.agg #[.int .i64 kind, .slice sa l.length sc, .int .i64 hosts]] w fun e w' => e = .returned (.int .i64 (hoI kind l)) ∧ Below w.heap.size w w' := by
  have HB := Lib.hid ((Below.refl w.heap.size w).alloc (Nat.le_refl _) (.cells #[.int .i64 kind, .slice sa l.length sc, .int .i64 hosts] 34))
  have Q0 := Lib.hid (heap_alloc_new w (.cells #[.int .i64 kind, .slice sa l.length sc, .int .i64 hosts] 34))
  have c0 := cellR 0 Q0.out rfl
  have c1 := cellR 1 Q0.out rfl
  have c2 := cellR 2 Q0.out rfl
  by_cases h2 : kind = 2
  · subst h2
    have hr : rOk l hosts := by rcases hv with ⟨h1, _⟩ | ⟨_, h1⟩ | ⟨h1, _⟩ <;> first | exact h1 | cases h1
    have HC := Lib.hid (fun W (hb : Below w.heap.size w W) => rWords_v (h.keep hb) sc 2 hosts hr)
    have HO : Hid (hoI 2 l = wordsI l) := rfl
    rw [HO.out]
    generalize wordsI l = V at *
    have hlen := h.len
    clear h hv hr HO Q0
    generalize l.length = N at *
    go_enter Tryz.func60, Tryz.ntmps60
    go_wp2_with fail
    generalize w.alloc (.cells #[.int .i64 2, .slice sa N sc, .int .i64 hosts] 34) = X at *
    refine (HC.out _ HB.out).mono ?_
    rintro e w1 ⟨rfl, hb1⟩
    clear HC c0 c1 c2
    go_wp2_with fail
    go_ret
    exact ⟨rfl, HB.out.trans (hb1.mono HB.out.size)⟩
  · have HC := Lib.hid (fun W (hb : Below w.heap.size w W) => rSwitches_any (h.keep hb) sc kind hosts hv)
    have HO : Hid (hoI kind l = swI kind l) := by show _ = _; unfold hoI; rw [if_neg h2]
    rw [HO.out]
    generalize swI kind l = V at *
    have hb2 : (kind == 2) = false := by rw [beq_eq_false_iff_ne]; exact h2
    have hlen := h.len
    clear h hv h2 HO Q0
    generalize l.length = N at *
    go_enter Tryz.func60, Tryz.ntmps60
    go_wp2_with fail
    generalize w.alloc (.cells #[.int .i64 kind, .slice sa N sc, .int .i64 hosts] 34) = X at *
    refine (HC.out _ HB.out).mono ?_
    rintro e w1 ⟨rfl, hb1⟩
    clear HC c0 c1 c2
    go_wp2_with fail
    go_ret
    exact ⟨rfl, HB.out.trans (hb1.mono HB.out.size)⟩
theorem rSize_any {w : World} {sa : Option Addr} {l : List Int} (h : Ints w sa l) (sc : Nat) (kind hosts : Int) :
    Calls Tryz.prog 40 #[.agg #[.int .i64 kind, .slice sa l.length sc, .int .i64 hosts]] w fun e w' => e = .returned (.tuple #[.int .i64 (szI kind l hosts), .int .i64 (hsI kind l hosts), .int .i64 (errI kind l hosts)]) ∧ Below w.heap.size w w' := by
  have HB := Lib.hid ((Below.refl w.heap.size w).alloc (Nat.le_refl _) (.cells #[.int .i64 kind, .slice sa l.length sc, .int .i64 hosts] 34))
  have Q0 := Lib.hid (heap_alloc_new w (.cells #[.int .i64 kind, .slice sa l.length sc, .int .i64 hosts] 34))
  have c0 := cellR 0 Q0.out rfl
  have c1 := cellR 1 Q0.out rfl
  have c2 := cellR 2 Q0.out rfl
  have HK := Lib.hid (fun W (hb : Below w.heap.size w W) => rCheck_any (h.keep hb) sc kind hosts)
  by_cases hv : vOk kind l hosts
  case neg =>
    rw [show errI kind l hosts = 2 by unfold errI; rw [if_neg hv]] at HK ⊢
    rw [show szI kind l hosts = 0 by unfold szI; rw [if_neg hv], show hsI kind l hosts = 0 by unfold hsI; rw [if_neg hv]]
    have hlen := h.len
    clear h hv Q0
    generalize l.length = N at *
    go_enter Tryz.func40, Tryz.ntmps40
    go_wp2_with fail
    generalize w.alloc (.cells #[.int .i64 kind, .slice sa N sc, .int .i64 hosts] 34) = X at *
    refine (HK.out _ HB.out).mono ?_
    rintro e w1 ⟨rfl, hb1⟩
    clear HK c0 c1 c2
    go_wp2_with fail
    go_ret3
    exact ⟨rfl, HB.out.trans (hb1.mono HB.out.size)⟩
  rw [show errI kind l hosts = 0 by unfold errI; rw [if_pos hv]] at HK ⊢
  rw [show szI kind l hosts = swI kind l by unfold szI; rw [if_pos hv], show hsI kind l hosts = hoI kind l * hosts by unfold hsI; rw [if_pos hv]]
  have HSW := Lib.hid (fun W (hb : Below w.heap.size w W) => rSwitches_any (h.keep hb) sc kind hosts hv)
  have HHO := Lib.hid (fun W (hb : Below w.heap.size w W) => rHomes_any (h.keep hb) sc kind hosts hv)
  have hw9 : IntKind.i64.wrap (hoI kind l * hosts) = hoI kind l * hosts := by
    rw [IntKind.wrap_i64]
    obtain ⟨v1, v2, v3, v4, v5, v6⟩ := v_bound hv
    have m1 := Int.mul_le_mul v2 v6 (by omega) (by decide)
    have m2 := Int.mul_nonneg (show 0 ≤ hoI kind l by omega) (show 0 ≤ hosts by omega)
    generalize hoI kind l * hosts = z at *; omega
  generalize swI kind l = SV at *
  generalize hoI kind l = HV at *
  have hlen := h.len
  clear h hv
  generalize l.length = N at *
  go_enter Tryz.func40, Tryz.ntmps40
  go_wp2_with fail
  generalize w.alloc (.cells #[.int .i64 kind, .slice sa N sc, .int .i64 hosts] 34) = X at *
  refine (HK.out _ HB.out).mono ?_
  rintro e w1 ⟨rfl, hb1⟩
  have HB1 := Lib.hid (HB.out.trans (hb1.mono HB.out.size))
  have C2 := Lib.hid (kcell hb1 c2)
  have Q1 := Lib.hid (heapB hb1 Q0.out)
  clear HK c0 c1 c2 HB Q0 hb1
  go_wp2_with fail
  refine (wpIn_wide (n := 0)).1 ?_
  refine region_det (by kernel_rfl) (I := fun listed a' w' => Hid (Below w1.heap.size w1 w') ∧ a' = ⟨#[Value.agg #[.int .i64 kind, .slice sa N sc, .int .i64 hosts], Value.pointer (some ⟨w.heap.size, 0, none⟩), (if listed.getD 7 false = true then Value.int IntKind.i64 (SV) else Value.int IntKind.i64 (0)), (if listed.getD 8 false = true then Value.int IntKind.i64 (HV * hosts) else Value.int IntKind.i64 (0)), (if listed.getD 9 false = true then Value.int IntKind.i64 (0) else Value.int IntKind.i64 (0)), Value.int IntKind.i64 (0), Value.agg #[.int .i64 kind, .slice sa N sc, .int .i64 hosts], Value.int IntKind.i64 (0), Value.int IntKind.i64 (0), Value.bool false, undef, (if listed.getD 0 false = true then Value.agg #[.int .i64 kind, .slice sa N sc, .int .i64 hosts] else undef), (if listed.getD 1 false = true then Value.int IntKind.i64 (SV) else undef), (if listed.getD 2 false = true then Value.agg #[.int .i64 kind, .slice sa N sc, .int .i64 hosts] else undef), (if listed.getD 3 false = true then Value.int IntKind.i64 (HV) else undef), (if listed.getD 4 false = true then Value.pointer (some ⟨w.heap.size, 2, none⟩) else undef), (if listed.getD 5 false = true then Value.int IntKind.i64 (hosts) else undef), (if listed.getD 6 false = true then Value.int IntKind.i64 (HV * hosts) else undef)], []⟩) (hup_check (by kernel_rfl)) ?h0 ?step ?fin
  case h0 => exact ⟨(Below.refl _ _).drew, rfl⟩
  case step =>
    intro listed a' w' i hs hbi hdep hi ⟨IB, ha⟩
    obtain ⟨ls⟩ := listed
    match ls, hs with
    | [x0, x1, x2, x3, x4, x5, x6, x7, x8, x9], _ =>
    subst ha
    have hi' : i = 0 ∨ i = 1 ∨ i = 2 ∨ i = 3 ∨ i = 4 ∨ i = 5 ∨ i = 6 ∨ i = 7 ∨ i = 8 ∨ i = 9 := by simp at hi; omega
    rcases hi' with rfl | rfl | rfl | rfl | rfl | rfl | rfl | rfl | rfl | rfl
    · obtain rfl : x0 = false := by simpa using hbi
      refine wpOpIn_load_row rfl rfl 34 _ rfl w.heap.size rfl 34 _ _ _ (heapB IB.out Q1.out) Tryz.underlying34 rfl info30 ?_
      exact ⟨IB, rfl⟩
    · obtain rfl : x1 = false := by simpa using hbi
      obtain rfl : x0 = true := hdep _ rfl ⟨0, .data⟩ (by simp) rfl
      refine wpOpIn_call (args := #[Value.agg #[.int .i64 kind, .slice sa N sc, .int .i64 hosts]]) rfl rfl (sem_call1 rfl rfl (enters_of Tryz.func51 (by kernel_rfl) rfl)) (HSW.out w' (HB1.out.trans (IB.out.mono HB1.out.size))) ?_
      rintro e V ⟨rfl, hb⟩
      exact ⟨_, rfl, (IB.out.trans (hb.mono IB.out.size)), rfl⟩
    · obtain rfl : x2 = false := by simpa using hbi
      refine wpOpIn_load_row rfl rfl 34 _ rfl w.heap.size rfl 34 _ _ _ (heapB IB.out Q1.out) Tryz.underlying34 rfl info30 ?_
      exact ⟨IB, rfl⟩
    · obtain rfl : x3 = false := by simpa using hbi
      obtain rfl : x2 = true := hdep _ rfl ⟨2, .data⟩ (by simp) rfl
      refine wpOpIn_call (args := #[Value.agg #[.int .i64 kind, .slice sa N sc, .int .i64 hosts]]) rfl rfl (sem_call1 rfl rfl (enters_of Tryz.func60 (by kernel_rfl) rfl)) (HHO.out w' (HB1.out.trans (IB.out.mono HB1.out.size))) ?_
      rintro e V ⟨rfl, hb⟩
      exact ⟨_, rfl, (IB.out.trans (hb.mono IB.out.size)), rfl⟩
    · obtain rfl : x4 = false := by simpa using hbi
      refine wpOpIn_plain (v := Value.pointer (some ⟨w.heap.size, 2, none⟩)) (w' := w') rfl rfl (by simp [Oper.semAt, execOp, go_sem]) ?_
      exact ⟨IB, rfl⟩
    · obtain rfl : x5 = false := by simpa using hbi
      obtain rfl : x4 = true := hdep _ rfl ⟨4, .data⟩ (by simp) rfl
      have c2 := kcell IB.out C2.out
      refine wpOpIn_plain (v := Value.int IntKind.i64 (hosts)) (w' := w') rfl rfl (by simp [Oper.semAt, execOp, go_sem, c2]) ?_
      exact ⟨IB, rfl⟩
    · obtain rfl : x6 = false := by simpa using hbi
      obtain rfl : x3 = true := hdep _ rfl ⟨3, .data⟩ (by simp) rfl
      obtain rfl : x5 = true := hdep _ rfl ⟨5, .data⟩ (by simp) rfl
      refine wpOpIn_plain (v := Value.int IntKind.i64 (HV * hosts)) (w' := w') rfl rfl (by simp [Oper.semAt, execOp, go_sem, hw9]) ?_
      exact ⟨IB, rfl⟩
    · obtain rfl : x7 = false := by simpa using hbi
      obtain rfl : x1 = true := hdep _ rfl ⟨1, .data⟩ (by simp) rfl
      refine wpOpIn_plain rfl rfl rfl ?_
      exact ⟨IB, rfl⟩
    · obtain rfl : x8 = false := by simpa using hbi
      obtain rfl : x6 = true := hdep _ rfl ⟨6, .data⟩ (by simp) rfl
      refine wpOpIn_plain rfl rfl rfl ?_
      exact ⟨IB, rfl⟩
    · obtain rfl : x9 = false := by simpa using hbi
      refine wpOpIn_plain rfl rfl rfl ?_
      exact ⟨IB, rfl⟩
  case fin =>
  intro listed a' Z hs hall ⟨IB, ha⟩
  obtain ⟨ls⟩ := listed
  match ls, hs with
  | [x0, x1, x2, x3, x4, x5, x6, x7, x8, x9], _ =>
  obtain rfl : x0 = true := hall 0 (by simp)
  obtain rfl : x1 = true := hall 1 (by simp)
  obtain rfl : x2 = true := hall 2 (by simp)
  obtain rfl : x3 = true := hall 3 (by simp)
  obtain rfl : x4 = true := hall 4 (by simp)
  obtain rfl : x5 = true := hall 5 (by simp)
  obtain rfl : x6 = true := hall 6 (by simp)
  obtain rfl : x7 = true := hall 7 (by simp)
  obtain rfl : x8 = true := hall 8 (by simp)
  obtain rfl : x9 = true := hall 9 (by simp)
  subst ha
  have HZ : Hid (Below w1.heap.size w1 Z) := IB
  clear IB hall hs
  dsimp only [Exit.then, Exit.inBlock]
  go_wp2_with fail
  go_ret3
  exact ⟨rfl, HB1.out.trans (HZ.out.mono HB1.out.size)⟩
theorem rIs_any {w : World} {sa : Option Addr} {l : List Int} (h : Ints w sa l) (sc : Nat) (kind hosts x : Int) :
    Calls Tryz.prog 55 #[.agg #[.int .i64 kind, .slice sa l.length sc, .int .i64 hosts], .int .i64 x] w fun e w' => e = .returned (.int .i64 (plaE kind l hosts x)) ∧ Below w.heap.size w w' := by
  have HB := Lib.hid ((Below.refl w.heap.size w).alloc (Nat.le_refl _) (.cells #[.int .i64 kind, .slice sa l.length sc, .int .i64 hosts] 34))
  have Q0 := Lib.hid (heap_alloc_new w (.cells #[.int .i64 kind, .slice sa l.length sc, .int .i64 hosts] 34))
  have c0 := cellR 0 Q0.out rfl
  have c1 := cellR 1 Q0.out rfl
  have c2 := cellR 2 Q0.out rfl
  have HK := Lib.hid (fun W (hb : Below w.heap.size w W) => rCheck_any (h.keep hb) sc kind hosts)
  have hlen := h.len
  by_cases hv : vOk kind l hosts
  case neg =>
    rw [show errI kind l hosts = 2 by unfold errI; rw [if_neg hv]] at HK
    rw [show plaE kind l hosts x = 2 by unfold plaE; rw [if_neg hv]]
    clear h hv Q0
    generalize l.length = N at *
    go_enter Tryz.func55, Tryz.ntmps55
    go_wp2_with fail
    generalize w.alloc (.cells #[.int .i64 kind, .slice sa N sc, .int .i64 hosts] 34) = X at *
    refine (HK.out _ HB.out).mono ?_
    rintro e w1 ⟨rfl, hb1⟩
    clear HK c0 c1 c2
    go_wp2_with fail
    go_ret
    exact ⟨rfl, HB.out.trans (hb1.mono HB.out.size)⟩
  rw [show errI kind l hosts = 0 by unfold errI; rw [if_pos hv]] at HK
  have HSW := Lib.hid (fun W (hb : Below w.heap.size w W) => rSwitches_any (h.keep hb) sc kind hosts hv)
  have HP : Hid (plaE kind l hosts x = if 0 ≤ x ∧ x ≤ swI kind l - 1 then 0 else 3) := by
    show _ = _
    unfold plaE inB; rw [if_pos hv]
    simp
  generalize swI kind l = SV at *
  generalize plaE kind l hosts x = E at *
  clear h hv
  generalize l.length = N at *
  by_cases hx : x < 0
  case pos =>
    have HE : Hid (E = 3) := by rw [HP.out, if_neg (by omega)]; rfl
    have hd : decide (x < 0) = true := decide_eq_true hx
    clear HP HSW Q0
    go_enter Tryz.func55, Tryz.ntmps55
    go_wp2_with fail
    generalize w.alloc (.cells #[.int .i64 kind, .slice sa N sc, .int .i64 hosts] 34) = X at *
    refine (HK.out _ HB.out).mono ?_
    rintro e w1 ⟨rfl, hb1⟩
    clear HK c0 c1 c2
    go_wp2_with fail
    go_ret
    exact ⟨by rw [HE.out]; rfl, HB.out.trans (hb1.mono HB.out.size)⟩
  have hd : decide (x < 0) = false := decide_eq_false hx
  by_cases hhi : x < SV
  case neg =>
    have HE : Hid (E = 3) := by rw [HP.out, if_neg (by omega)]; rfl
    have hd2 : decide (SV ≤ x) = true := decide_eq_true (by omega)
    clear HP
    go_enter Tryz.func55, Tryz.ntmps55
    go_wp2_with fail
    generalize w.alloc (.cells #[.int .i64 kind, .slice sa N sc, .int .i64 hosts] 34) = X at *
    refine (HK.out _ HB.out).mono ?_
    rintro e w1 ⟨rfl, hb1⟩
    have HB1 := Lib.hid (HB.out.trans (hb1.mono HB.out.size))
    have q1 := heapB hb1 Q0.out
    clear HK c0 c1 c2 HB hb1 Q0
    have c0 := cellR 0 q1 rfl
    have c1 := cellR 1 q1 rfl
    have c2 := cellR 2 q1 rfl
    clear q1
    go_wp2_with fail
    refine (HSW.out _ HB1.out).mono ?_
    rintro e w2 ⟨rfl, hb2⟩
    have HB2 := Lib.hid (HB1.out.trans (hb2.mono HB1.out.size))
    clear HSW c0 c1 c2 HB1 hb2
    go_wp2_with fail
    go_ret
    exact ⟨by rw [HE.out]; rfl, HB2.out⟩
  case pos =>
    have HE : Hid (E = 0) := by rw [HP.out, if_pos (by omega)]; rfl
    have hd2 : decide (SV ≤ x) = false := decide_eq_false (by omega)
    clear HP
    go_enter Tryz.func55, Tryz.ntmps55
    go_wp2_with fail
    generalize w.alloc (.cells #[.int .i64 kind, .slice sa N sc, .int .i64 hosts] 34) = X at *
    refine (HK.out _ HB.out).mono ?_
    rintro e w1 ⟨rfl, hb1⟩
    have HB1 := Lib.hid (HB.out.trans (hb1.mono HB.out.size))
    have q1 := heapB hb1 Q0.out
    clear HK c0 c1 c2 HB hb1 Q0
    have c0 := cellR 0 q1 rfl
    have c1 := cellR 1 q1 rfl
    have c2 := cellR 2 q1 rfl
    clear q1
    go_wp2_with fail
    refine (HSW.out _ HB1.out).mono ?_
    rintro e w2 ⟨rfl, hb2⟩
    have HB2 := Lib.hid (HB1.out.trans (hb2.mono HB1.out.size))
    clear HSW c0 c1 c2 HB1 hb2
    go_wp2_with fail
    go_ret
    exact ⟨by rw [HE.out]; rfl, HB2.out⟩
end Go.Proofs.YtbhkenphcahifaaGreat
