import Derived.Test.YtbhkenphcahifaaGreatNJ
namespace Go.Proofs.YtbhkenphcahifaaGreat
open Go.RowKit Go.Shelf
attribute [local go_sem] Oper.semAt_some
set_option maxRecDepth 100000
set_option maxHeartbeats 4000000

theorem rpower_any (k n : Nat) (hk : k ≤ 16) (hn : n ≤ 5) (w : World) : Calls Tryz.prog 63 #[.int .i64 k, .int .i64 n] w fun e w' => e = .returned (.int .i64 ((k ^ n : Nat) : Int)) ∧ w = w' := by
  have HP : Hid (∀ j, j ≤ n → k ^ j ≤ 1048576) := fun j hj => pow_small hk (by omega)
  have HS : Hid (∀ j, k ^ (j + 1) = k ^ j * k) := fun j => Nat.pow_succ ..
  go_enter Tryz.func63, Tryz.ntmps63
  go_wp2_with fail
  go_loop [5, 6] (fun p i => ∃ j : Nat, j ≤ n ∧ i = .int .i64 j ∧ p = .int .i64 ((k ^ j : Nat) : Int)) (fun _ i => n - (intOf i).toNat)
  case atStart => exact ⟨0, Nat.zero_le _, rfl, by simp⟩
  case round =>
    obtain ⟨j, hj, rfl, rfl⟩ := hrel
    by_cases hlt : j < n
    · have h1 := HP.out j hj
      have h2 := HS.out j
      have h3 := HP.out (j + 1) hlt
      obtain ⟨P2, hP2⟩ : ∃ P2, P2 = k ^ (j + 1) := ⟨_, rfl⟩
      rw [← hP2] at h2 h3
      have HP2 := Lib.hid hP2
      clear hP2
      obtain ⟨P, hP⟩ : ∃ P, P = k ^ j := ⟨_, rfl⟩
      rw [← hP] at h1 h2 ⊢
      clear hP
      have hw : wrap64 ((P : Int) * k) = (P2 : Int) := by
        rw [h2]
        have : ((P * k : Nat) : Int) = (P : Int) * k := by simp
        rw [← this]
        unfold wrap64
        omega
      have HH := Lib.hid h2
      clear h2
      go_wp2_with fail
      go_round
      case rel => exact ⟨j + 1, by omega, by go_num, by rw [← HP2.out, hw]⟩
      case measure => simp [intOf]; omega
    · have hjn : j = n := by omega
      subst hjn
      go_wp2_with fail
      go_ret
      exact ⟨rfl, rfl⟩
theorem same_of {f : FuncId} {args : Array Value} {v : Value} (h : ∀ W, Calls Tryz.prog f args W fun e w' => e = .returned v ∧ W = w') : Hid (∀ W : World, Calls Tryz.prog f args W fun e w' => e = .returned v ∧ w' = W) := fun W => (h W).mono fun _ _ ⟨h1, h2⟩ => ⟨h1, h2.symm⟩

theorem rCheck1_any {w : World} {sa : Option Addr} {l : List Int} (h : Ints w sa l) (sc : Nat) (hosts : Int) :
    Calls Tryz.prog 50 #[.agg #[.int .i64 1, .slice sa l.length sc, .int .i64 hosts]] w fun e w' => e = .returned (.int .i64 (errI 1 l hosts)) ∧ Below w.heap.size w w' := by
  have hlen := h.len
  have HL := Lib.hid h
  obtain ⟨N, hN⟩ : ∃ N, N = l.length := ⟨_, rfl⟩
  have HN := Lib.hid hN
  rw [← hN] at hlen ⊢
  have HT : Hid (tOk l hosts = ((1 ≤ (N : Int) ∧ (N : Int) ≤ 4) ∧ (1 ≤ hosts ∧ hosts ≤ 4) ∧ (∀ x ∈ l, 2 ≤ x ∧ x ≤ 16) ∧ prodI l ≤ 256)) := by show _ = _; unfold tOk; rw [hN]
  have WI := Lib.hid (fun x lo hi W => rwithin_any x lo hi W)
  have HB := Lib.hid ((Below.refl w.heap.size w).alloc (Nat.le_refl _) (.cells #[.int .i64 1, .slice sa N sc, .int .i64 hosts] 34))
  have q0 := heap_alloc_new w (.cells #[.int .i64 1, .slice sa N sc, .int .i64 hosts] 34)
  have c0 := cellR 0 q0 rfl
  have c1 := cellR 1 q0 rfl
  have c2 := cellR 2 q0 rfl
  clear q0
  clear h hN
  have HE0 : Hid (¬ tOk l hosts → errI 1 l hosts = 2) := fun h => by
    unfold errI; rw [if_neg]; rintro (⟨_, h1⟩ | ⟨h1, _⟩ | ⟨h1, _⟩)
    · exact h h1
    · cases h1
    · cases h1
  have HE1 : Hid (tOk l hosts → errI 1 l hosts = 0) := fun h => by unfold errI; rw [if_pos (.inl ⟨rfl, h⟩)]
  generalize errI 1 l hosts = E at *
  by_cases g1 : 1 ≤ (N : Int) ∧ (N : Int) ≤ 4
  case neg =>
    have HV := Lib.hid (HE0.out (by rw [HT.out]; exact fun h => g1 h.1))
    have W1 := Lib.hid (fun W => WI.out (N : Int) 1 4 W)
    rw [show decide (1 ≤ (N : Int) ∧ (N : Int) ≤ 4) = false from decide_eq_false g1] at W1
    clear WI g1 HT HE0 HE1
    go_enter Tryz.func50, Tryz.ntmps50
    go_wp2_with fail
    generalize w.alloc (.cells #[.int .i64 1, .slice sa N sc, .int .i64 hosts] 34) = X at *
    refine (W1.out _).mono ?_
    rintro e w1 ⟨rfl, rfl⟩
    clear W1
    go_wp2_with fail
    go_loop [3, 4, 5] (fun g p i => g = .bool false ∧ i = .int .i64 0 ∧ p = .int .i64 1) (fun _ _ _ => 0)
    case atStart => exact ⟨rfl, rfl, rfl⟩
    case round =>
      obtain ⟨rfl, rfl, rfl⟩ := hrel
      by_cases hlt : 0 < N
      · go_wp2_with fail
        go_ret
        exact ⟨by rw [HV.out]; rfl, HB.out⟩
      · obtain rfl : N = 0 := by omega
        go_wp2_with fail
        go_ret
        exact ⟨by rw [HV.out]; rfl, HB.out⟩
  have W1 := Lib.hid (fun W => WI.out (N : Int) 1 4 W)
  rw [show decide (1 ≤ (N : Int) ∧ (N : Int) ≤ 4) = true from decide_eq_true g1] at W1
  by_cases g2 : 1 ≤ hosts ∧ hosts ≤ 4
  case neg =>
    have HV := Lib.hid (HE0.out (by rw [HT.out]; exact fun h => g2 h.2.1))
    have W2 := Lib.hid (fun W => WI.out hosts 1 4 W)
    rw [show decide (1 ≤ hosts ∧ hosts ≤ 4) = false from decide_eq_false g2] at W2
    have hN0 : 0 < N := by omega
    clear WI g1 g2 HT HE0 HE1
    go_enter Tryz.func50, Tryz.ntmps50
    go_wp2_with fail
    generalize w.alloc (.cells #[.int .i64 1, .slice sa N sc, .int .i64 hosts] 34) = X at *
    refine (W1.out _).mono ?_
    rintro e w1 ⟨rfl, rfl⟩
    clear W1
    go_wp2_with fail
    refine (W2.out _).mono ?_
    rintro e w1 ⟨rfl, rfl⟩
    clear W2
    go_wp2_with fail
    go_loop [3, 4, 5] (fun g p i => g = .bool false ∧ i = .int .i64 0 ∧ p = .int .i64 1) (fun _ _ _ => 0)
    case atStart => exact ⟨rfl, rfl, rfl⟩
    case round =>
      obtain ⟨rfl, rfl, rfl⟩ := hrel
      go_wp2_with fail
      go_ret
      exact ⟨by rw [HV.out]; rfl, HB.out⟩
  have W2 := Lib.hid (fun W => WI.out hosts 1 4 W)
  rw [show decide (1 ≤ hosts ∧ hosts ≤ 4) = true from decide_eq_true g2] at W2
  have G1 := Lib.hid g1
  have G2 := Lib.hid g2
  clear g1 g2
  go_enter Tryz.func50, Tryz.ntmps50
  go_wp2_with fail
  generalize w.alloc (.cells #[.int .i64 1, .slice sa N sc, .int .i64 hosts] 34) = X at *
  refine (W1.out _).mono ?_
  rintro e w1 ⟨rfl, rfl⟩
  clear W1
  go_wp2_with fail
  refine (W2.out _).mono ?_
  rintro e w1 ⟨rfl, rfl⟩
  clear W2
  go_wp2_with fail
  go_loop [3, 4, 5] (fun g p i => ∃ (k : Nat) (q : Int) (gd : Bool), k ≤ N ∧ i = .int .i64 k ∧ p = .int .i64 q ∧ g = .bool gd ∧ Hid (gd = false → ¬ tOk l hosts) ∧ (gd = true → 1 ≤ q) ∧ Hid (gd = true → q = prodI (l.take k) ∧ q ≤ 16 ^ k ∧ ∀ j (hj : j < l.length), j < k → 2 ≤ l[j] ∧ l[j] ≤ 16)) (fun _ _ i => N - (intOf i).toNat)
  case atStart => exact ⟨0, 1, true, Nat.zero_le _, rfl, rfl, rfl, (fun h => by cases h), fun _ => by decide, fun _ => ⟨rfl, by show (1 : Int) ≤ 16 ^ 0; decide, fun j _ h => by omega⟩⟩
  case round =>
    obtain ⟨k, q, gd, hk, rfl, rfl, rfl, HG0, hq, HG1⟩ := hrel
    cases gd with
    | false =>
      have HV := Lib.hid (HE0.out (HG0.out rfl))
      clear hq HG0 HG1 HE0 HE1 HT
      by_cases hlt : k < N
      · go_wp2_with fail
        go_ret
        exact ⟨by rw [HV.out]; rfl, HB.out⟩
      · go_wp2_with fail
        go_ret
        exact ⟨by rw [HV.out]; rfl, HB.out⟩
    | true =>
      have hq1 := hq rfl
      obtain ⟨hQ, hQ2, hP⟩ := HG1.out rfl
      clear hq HG0 HG1
      by_cases hlt : k < N
      · have hk1 : k < l.length := by rw [← HN.out]; exact hlt
        obtain ⟨g, o, rfl, hc⟩ := (HL.out.keep HB.out).at_ (ne_nil_of_lt hk1)
        have e0 := hc k hk1
        have HPS : Hid (prodI (l.take (k + 1)) = prodI (l.take k) * l[k]) := by
          show _ = _
          rw [List.take_succ_eq_append_getElem hk1, prodI_snoc]
        have HP2 : Hid (2 ≤ l[k] ∧ l[k] ≤ 16 → ∀ j (hj : j < l.length), j < k + 1 → 2 ≤ l[j] ∧ l[j] ≤ 16) := fun h j hj h2 => by
          by_cases h3 : j < k
          · exact hP j hj h3
          · obtain rfl : j = k := by omega
            exact h
        have HNB : Hid (¬ (2 ≤ l[k] ∧ l[k] ≤ 16) → ¬ tOk l hosts) := fun h h2 => by
          rw [HT.out] at h2
          exact h (h2.2.2.1 _ (List.getElem_mem hk1))
        generalize l[k] = x at *
        clear hc hk1 hP
        by_cases hx : 2 ≤ x ∧ x ≤ 16
        · have W3 := Lib.hid (fun W => WI.out x 2 16 W)
          rw [show decide (2 ≤ x ∧ x ≤ 16) = true from decide_eq_true hx] at W3
          obtain ⟨hm1, hm2⟩ := mul_bound hq1 hQ2 hx.1 hx.2
          have hl5 := lim16 (show k + 1 ≤ 4 by have := G1.out; omega)
          rw [Int.pow_succ] at hl5
          have hw : wrap64 (q * x) = q * x := by
            generalize q * x = z at *
            generalize (16 : Int) ^ k * 16 = y at *
            unfold wrap64
            omega
          have HQ3 : Hid (q * x = prodI (l.take (k + 1)) ∧ q * x ≤ 16 ^ (k + 1)) := ⟨by rw [HPS.out, ← hQ], by rw [Int.pow_succ]; exact hm2⟩
          have HP3 := Lib.hid (HP2.out hx)
          clear hx hm2 hl5 HPS HP2 HNB hQ hQ2
          go_wp2_with fail
          refine (W3.out _).mono ?_
          rintro e w1 ⟨rfl, rfl⟩
          clear W3
          go_wp2_with fail
          go_round
          case rel => exact ⟨k + 1, q * x, true, by omega, by go_num, by rw [hw], rfl, (fun h => by cases h), fun _ => hm1, fun _ => ⟨HQ3.out.1, HQ3.out.2, HP3.out⟩⟩
          case measure => simp [intOf]; omega
        · have W3 := Lib.hid (fun W => WI.out x 2 16 W)
          rw [show decide (2 ≤ x ∧ x ≤ 16) = false from decide_eq_false hx] at W3
          have HNB2 := Lib.hid (HNB.out hx)
          clear hx HPS HP2 HNB hQ hQ2 WI
          go_wp2_with fail
          refine (W3.out _).mono ?_
          rintro e w1 ⟨rfl, rfl⟩
          clear W3
          go_wp2_with fail
          go_round
          case rel => exact ⟨k + 1, _, false, by omega, by go_num, rfl, rfl, fun _ => HNB2.out, (fun h => by cases h), (fun h => by cases h)⟩
          case measure => simp [intOf]; omega
      · have hkN : k = N := by omega
        have hall : ∀ x ∈ l, 2 ≤ x ∧ x ≤ 16 := fun x hx => by
          obtain ⟨j, hj, rfl⟩ := List.getElem_of_mem hx
          exact hP j hj (by have := HN.out; omega)
        have hqp : q = prodI l := by rw [hQ, hkN, HN.out, List.take_length]
        have HD : Hid (q ≤ 256 ↔ tOk l hosts) := by
          show _ ↔ _
          rw [HT.out, hqp]
          exact ⟨fun h => ⟨G1.out, G2.out, hall, h⟩, fun h => h.2.2.2⟩
        clear hall hqp hQ hQ2 hP HT
        by_cases h256 : q ≤ 256
        · have HV := Lib.hid (HE1.out (HD.out.1 h256))
          clear HD HE0 HE1
          go_wp2_with fail
          go_ret
          exact ⟨by rw [HV.out]; rfl, HB.out⟩
        · have HV := Lib.hid (HE0.out fun h => h256 (HD.out.2 h))
          clear HD HE0 HE1
          go_wp2_with fail
          go_ret
          exact ⟨by rw [HV.out]; rfl, HB.out⟩

end Go.Proofs.YtbhkenphcahifaaGreat
