import Derived.Test.YtbhkenphcahifaaGreatNO
namespace Go.Proofs.YtbhkenphcahifaaGreat
open Go.RowKit Go.Shelf
attribute [local go_sem] Oper.semAt_some
set_option maxRecDepth 100000
set_option maxHeartbeats 4000000

theorem spec_any (sa : Option Addr) (m sc : Nat) (kind hosts : Int) (w : World) :
    Calls Tryz.prog 12 #[.agg #[.int .i64 kind, .slice sa m sc, .int .i64 hosts]] w fun e w' => e = .returned (.agg #[.int .i64 kind, .slice sa m sc, .int .i64 hosts]) ∧ Below w.heap.size w w' := by
  obtain ⟨hbx, q0, q1, hz⟩ := twoN w (.cells #[.int .i64 kind, .slice sa m sc, .int .i64 hosts] 24) (.cells #[.int .i64 0, .slice none 0 0, .int .i64 0] 34)
  have HB := Lib.hid hbx
  have Q1 := Lib.hid q1
  have c0 := cellR 0 q0 rfl
  have c1 := cellR 1 q0 rfl
  have c2 := cellR 2 q0 rfl
  have d0 := cellR 0 q1 rfl
  have d1 := cellR 1 q1 rfl
  have d2 := cellR 2 q1 rfl
  have f0 := frozen_of_row _ _ 0 _ _ q1
  have f1 := frozen_of_row _ _ 1 _ _ q1
  have f2 := frozen_of_row _ _ 2 _ _ q1
  have l1 := (Array.getElem?_eq_some_iff.1 q1).1
  clear hbx q0 q1 hz
  obtain ⟨hb9, _, hr, _⟩ := twoN w (.cells #[.int .i64 kind, .slice sa m sc, .int .i64 hosts] 24) (.cells #[.int .i64 kind, .slice sa m sc, .int .i64 hosts] 34)
  have HR := Lib.hid hr
  have HB9 := Lib.hid hb9
  clear hr hb9
  go_enter Tryz.func12, Tryz.ntmps12
  go_wp2_with fail
  have hr := HR.out
  refine bodyPost_ret (v := .agg #[.int .i64 kind, .slice sa m sc, .int .i64 hosts]) ?_ rfl ⟨rfl, HB9.out⟩
  simp [results, Act.put, run_loadVar_row _ _ 34 34 _ _ _ hr Tryz.underlying34 rfl info30, Tryz.results12, asAddr]
theorem equal_any {w : World} {a b : Option Addr} {l m : List Int} (hl : Ints w a l) (hm : Ints w b m) (ca cb : Nat) :
    Calls Tryz.prog 15 #[.slice a l.length ca, .slice b m.length cb] w fun e w' => e = .returned (.bool (decide (l = m))) ∧ Below w.heap.size w w' := by
  have h1 := hl.len
  have h2 := hm.len
  by_cases hn : l.length = m.length
  case neg =>
    have hd : decide (l = m) = false := decide_eq_false fun h => hn (by rw [h])
    rw [hd]
    have hne : ((l.length : Int) != (m.length : Int)) = true := by rw [bne_iff_ne]; omega
    clear hl hm hd hn
    generalize l.length = N at *
    generalize m.length = M at *
    go_enter Tryz.func15, Tryz.ntmps15
    go_wp2_with fail
    go_ret
    exact ⟨rfl, Below.refl _ _⟩
  have HL := Lib.hid hl
  have HM := Lib.hid hm
  obtain ⟨R, hR⟩ : ∃ R, R = decide (l = m) := ⟨_, rfl⟩
  have HR := Lib.hid hR
  rw [← hR, ← hn]
  obtain ⟨N, hN⟩ : ∃ N, N = l.length := ⟨_, rfl⟩
  have HN := Lib.hid hN
  have HN2 : Hid (N = m.length) := by show _ = _; rw [hN, hn]
  rw [← hN] at h1 ⊢
  clear hl hm hR hN hn h2
  go_enter Tryz.func15, Tryz.ntmps15
  go_wp2_with fail
  go_loopw [5] (fun i wr => ∃ k : Nat, k ≤ N ∧ i = .int .i64 k ∧ Hid (∀ j (h1 : j < l.length) (h2 : j < m.length), j < k → l[j] = m[j]) ∧ Below w.heap.size w wr) (fun i _ => N - (intOf i).toNat)
  case atStart => exact ⟨0, Nat.zero_le _, rfl, fun j _ _ h => by omega, Below.refl _ _⟩
  case round =>
    obtain ⟨k, hk, rfl, HP, hb⟩ := hrel
    by_cases hlt : k < N
    · have k1 : k < l.length := by rw [← HN.out]; exact hlt
      have k2 : k < m.length := by rw [← HN2.out]; exact hlt
      obtain ⟨g, o, rfl, hc⟩ := (HL.out.keep hb).at_ (ne_nil_of_lt k1)
      obtain ⟨g2, o2, rfl, hc2⟩ := (HM.out.keep hb).at_ (ne_nil_of_lt k2)
      have e0 := hc k k1
      have e1 := hc2 k k2
      have HP2 : Hid (l[k] = m[k] → ∀ j (h1 : j < l.length) (h2 : j < m.length), j < k + 1 → l[j] = m[j]) := fun h j a1 a2 a3 => by
        by_cases h3 : j < k
        · exact HP.out j a1 a2 h3
        · obtain rfl : j = k := by omega
          exact h
      have HNE : Hid (l[k] ≠ m[k] → R = false) := fun h => by
        rw [HR.out]; exact decide_eq_false fun e => h (by subst e; rfl)
      generalize l[k] = x at *
      generalize m[k] = y at *
      clear hc hc2 k1 k2 HP
      have HB := Lib.hid hb
      clear hb
      by_cases hxy : x = y
      · have hne : (x != y) = false := by simp [hxy]
        have HP3 := Lib.hid (HP2.out hxy)
        clear hxy HP2 HNE
        go_wp2_with fail
        go_quiet (fail)
        go_wp2_with fail
        go_roundw
        case rel => exact ⟨k + 1, by omega, by go_num, HP3, below_drewN HB.out _⟩
        case measure => simp [intOf]; omega
      · have hne : (x != y) = true := bne_iff_ne.2 hxy
        have HR2 := Lib.hid (HNE.out hxy)
        clear hxy HP2 HNE
        go_wp2_with fail
        go_quiet (fail)
        go_wp2_with fail
        go_ret
        exact ⟨by rw [HR2.out]; rfl, below_drewN HB.out _⟩
    · have HR2 : Hid (R = true) := by
        show _ = _
        rw [HR.out]
        have hle : l.length = m.length := by rw [← HN.out, ← HN2.out]
        exact decide_eq_true (List.ext_getElem hle fun j a1 a2 => HP.out j a1 a2 (by have := HN.out; omega))
      have hkn : k = N := by omega
      subst hkn
      clear HP
      go_wp2_with fail
      go_ret
      exact ⟨by rw [HR2.out]; rfl, hb⟩
end Go.Proofs.YtbhkenphcahifaaGreat
