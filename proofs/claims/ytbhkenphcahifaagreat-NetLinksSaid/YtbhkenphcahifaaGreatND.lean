import Derived.Test.YtbhkenphcahifaaGreatNC
namespace Go.Proofs.YtbhkenphcahifaaGreat
open Go.RowKit Go.Shelf
attribute [local go_sem] Oper.semAt_some
set_option maxRecDepth 100000
set_option maxHeartbeats 4000000

theorem below_drewN {B : Nat} {a w : World} (h : Below B a w) (n : Nat) : Below B a (w.drewN n) := h.trans ⟨rfl, rfl, rfl, Nat.le_refl _, fun _ _ => rfl⟩
theorem info109 : (Tryz.prog.info? 142).map (·.size) = some 3 := by kernel_rfl
theorem info113 : (Tryz.prog.info? 146).map (·.size) = some 3 := by kernel_rfl
/-- is a tree valid -/
def rOk (l : List Int) (h : Int) : Prop := l.length = 2 ∧ (2 ≤ l.getD 0 0 ∧ l.getD 0 0 ≤ 8) ∧ (1 ≤ l.getD 1 0 ∧ l.getD 1 0 ≤ 4) ∧ (l.getD 0 0).toNat ^ (l.getD 1 0).toNat ≤ 256 ∧ h = l.getD 0 0
instance (l : List Int) (h : Int) : Decidable (rOk l h) := by unfold rOk; infer_instance
/-- how many words a level of a tree has -/
def wordsI (l : List Int) : Int := ((l.getD 0 0).toNat ^ ((l.getD 1 0).toNat - 1) : Nat)
/-- is a dragonfly valid -/
def dOk (l : List Int) (h : Int) : Prop := l.length = 2 ∧ (1 ≤ h ∧ h ≤ 4) ∧ (1 ≤ l.getD 0 0 ∧ l.getD 0 0 ≤ 16) ∧ (1 ≤ l.getD 1 0 ∧ l.getD 1 0 ≤ 4) ∧ l.getD 0 0 * (l.getD 0 0 * l.getD 1 0 + 1) ≤ 256
instance (l : List Int) (h : Int) : Decidable (dOk l h) := by unfold dOk; infer_instance
theorem drag_bound {a h : Int} (h1 : 1 ≤ a) (h2 : a ≤ 16) (h3 : 1 ≤ h) (h4 : h ≤ 4) : 1 ≤ a * h ∧ a * h ≤ 64 ∧ 1 ≤ a * (a * h + 1) ∧ a * (a * h + 1) ≤ 1040 := by
  have e1 := Int.mul_le_mul h1 h3 (by decide) (by omega)
  have e2 := Int.mul_le_mul h2 h4 (by omega) (by decide)
  have e3 := Int.mul_le_mul h1 (show (1 : Int) ≤ a * h + 1 by omega) (by decide) (by omega)
  have e4 := Int.mul_le_mul h2 (show a * h + 1 ≤ 65 by omega) (by omega) (by decide)
  omega
theorem two_of {l : List Int} (h : l.length = 2) : ∃ a b, l = [a, b] := by
  match l, h with
  | [a, b], _ => exact ⟨a, b, rfl⟩

theorem treeOf_any {w : World} {sa : Option Addr} {l : List Int} (h : Ints w sa l) (sc : Nat) (kind hosts : Int) :
    Calls Tryz.prog 90 #[.agg #[.int .i64 kind, .slice sa l.length sc, .int .i64 hosts]] w fun e w' => Below w.heap.size w w' ∧ ∃ a b c : Int, e = .returned (.tuple #[.agg #[.int .i64 a, .int .i64 b, .int .i64 c], .bool (decide (rOk l hosts))]) ∧ (rOk l hosts → a = l.getD 0 0 ∧ b = l.getD 1 0 ∧ c = wordsI l) := by
  have hlen := h.len
  have HL := Lib.hid h
  obtain ⟨N, hN⟩ : ∃ N, N = l.length := ⟨_, rfl⟩
  have HN := Lib.hid hN
  rw [← hN] at hlen ⊢
  obtain ⟨hbx, q0, q1, hz⟩ := twoN w (.cells #[.int .i64 kind, .slice sa N sc, .int .i64 hosts] 24) (.cells #[.int .i64 0, .int .i64 0, .int .i64 0] 142)
  have HB := Lib.hid hbx
  have Q0 := Lib.hid q0
  have Q1 := Lib.hid q1
  have WI := Lib.hid (fun x lo hi W => within_any x lo hi W)
  have PW := Lib.hid (fun k n (hk : k ≤ 16) (hn : n ≤ 5) W => power_any k n hk hn W)
  clear h hN hbx
  have c1 := cellR 1 q0 rfl
  have c2 := cellR 2 q0 rfl
  have d0 := cellR 0 q1 rfl
  have d1 := cellR 1 q1 rfl
  have d2 := cellR 2 q1 rfl
  have f0 := frozen_of_row _ _ 0 _ _ q1
  have f1 := frozen_of_row _ _ 1 _ _ q1
  have f2 := frozen_of_row _ _ 2 _ _ q1
  have l1 := (Array.getElem?_eq_some_iff.1 q1).1
  clear q0 q1

  by_cases hl2 : N = 2
  case neg =>
    have HV : Hid (decide (rOk l hosts) = false ∧ ¬ rOk l hosts) := by
      have : ¬ rOk l hosts := by unfold rOk; intro h; exact hl2 (by rw [HN.out]; exact h.1)
      exact ⟨decide_eq_false this, this⟩
    have hni : ((N : Int) != 2) = true := by rw [bne_iff_ne]; omega
    clear hl2
    go_enter Tryz.func90, Tryz.ntmps90
    have hX : True := trivial
    go_wp2_with fail
    refine bodyPost_ret (v := .tuple #[.agg #[.int .i64 0, .int .i64 0, .int .i64 0], .bool false]) ?_ rfl ⟨HB.out, 0, 0, 0, by rw [HV.out.1], fun h => absurd h HV.out.2⟩
    simp [results, Act.put, run_loadVar_row _ _ 142 142 _ _ _ Q1.out Tryz.underlying142 rfl info109, Tryz.results90, asAddr]
  subst hl2
  obtain ⟨k, lv, rfl⟩ := two_of HN.out.symm
  obtain ⟨g, o, rfl, hc⟩ := (HL.out.keep HB.out).at_ (by simp)
  have e0 := hc 0 (by simp)
  have e1 := hc 1 (by simp)
  rw [Nat.add_zero] at e0
  simp only [List.getElem_cons_zero, List.getElem_cons_succ] at e0 e1
  clear hc HL
  by_cases hW1 : 2 ≤ k ∧ k ≤ 8
  case neg =>
    have HV : Hid (decide (rOk [k, lv] hosts) = false ∧ ¬ rOk [k, lv] hosts) := by
      have : ¬ rOk [k, lv] hosts := by unfold rOk; intro h; exact hW1 h.2.1
      exact ⟨decide_eq_false this, this⟩
    have W1 := Lib.hid (fun W => WI.out k 2 8 W)
    rw [show decide (2 ≤ k ∧ k ≤ 8) = false from decide_eq_false hW1] at W1
    clear hW1 WI PW
    go_enter Tryz.func90, Tryz.ntmps90
    go_wp2_with fail
    generalize (w.alloc (.cells #[.int .i64 kind, .slice (some ⟨g, o, none⟩) 2 sc, .int .i64 hosts] 24)).alloc (.cells #[.int .i64 0, .int .i64 0, .int .i64 0] 142) = X at *
    go_quiet (fail)
    have HB2 := Lib.hid (below_drewN HB.out nq)
    have Q2 : Hid ((X.drewN nq).heap[w.heap.size + 1]? = some (.cells #[.int .i64 0, .int .i64 0, .int .i64 0] 142 (0, 0))) := Q1.out
    have Q3 : Hid ((X.drewN nq).heap[w.heap.size]? = some (.cells #[.int .i64 kind, .slice (some ⟨g, o, none⟩) 2 sc, .int .i64 hosts] 24 (0, 0))) := Q0.out
    generalize X.drewN nq = Y at *
    clear c1 c2 d0 d1 d2 f0 f1 f2 l1 e0 e1
    have c2 := cellR 2 Q3.out rfl
    have d0 := cellR 0 Q2.out rfl
    have d1 := cellR 1 Q2.out rfl
    have d2 := cellR 2 Q2.out rfl
    have f0 := frozen_of_row _ _ 0 _ _ Q2.out
    have f1 := frozen_of_row _ _ 1 _ _ Q2.out
    have f2 := frozen_of_row _ _ 2 _ _ Q2.out
    have l1 := (Array.getElem?_eq_some_iff.1 Q2.out).1
    go_wp2_with fail
    refine (W1.out _).mono ?_
    rintro e w1 ⟨rfl, rfl⟩
    clear W1
    go_wp2_with fail
    have hr := put3 (v0 := .int .i64 0) (v1 := .int .i64 0) (v2 := .int .i64 0) Q2.out
    have hb9 := ((HB2.out.setCell (p := ⟨w.heap.size + 1, 0, none⟩) (Nat.le_succ _) (.int .i64 0)).setCell (p := ⟨w.heap.size + 1, 1, none⟩) (Nat.le_succ _) (.int .i64 0)).setCell (p := ⟨w.heap.size + 1, 2, none⟩) (Nat.le_succ _) (.int .i64 0)
    refine bodyPost_ret (v := .tuple #[.agg #[.int .i64 0, .int .i64 0, .int .i64 0], .bool false]) ?_ rfl ⟨hb9, 0, 0, 0, by rw [HV.out.1], fun h => absurd h HV.out.2⟩
    simp [results, Act.put, run_loadVar_row _ _ 142 142 _ _ _ hr Tryz.underlying142 rfl info109, Tryz.results90, asAddr]
  have W1 := Lib.hid (fun W => WI.out k 2 8 W)
  rw [show decide (2 ≤ k ∧ k ≤ 8) = true from decide_eq_true hW1] at W1
  by_cases hW2 : 1 ≤ lv ∧ lv ≤ 4
  case neg =>
    have HV : Hid (decide (rOk [k, lv] hosts) = false ∧ ¬ rOk [k, lv] hosts) := by
      have : ¬ rOk [k, lv] hosts := by unfold rOk; intro h; exact hW2 h.2.2.1
      exact ⟨decide_eq_false this, this⟩
    have W2 := Lib.hid (fun W => WI.out lv 1 4 W)
    rw [show decide (1 ≤ lv ∧ lv ≤ 4) = false from decide_eq_false hW2] at W2
    clear hW1 hW2 WI PW
    go_enter Tryz.func90, Tryz.ntmps90
    go_wp2_with fail
    generalize (w.alloc (.cells #[.int .i64 kind, .slice (some ⟨g, o, none⟩) 2 sc, .int .i64 hosts] 24)).alloc (.cells #[.int .i64 0, .int .i64 0, .int .i64 0] 142) = X at *
    go_quiet (fail)
    have HB2 := Lib.hid (below_drewN HB.out nq)
    have Q2 : Hid ((X.drewN nq).heap[w.heap.size + 1]? = some (.cells #[.int .i64 0, .int .i64 0, .int .i64 0] 142 (0, 0))) := Q1.out
    have Q3 : Hid ((X.drewN nq).heap[w.heap.size]? = some (.cells #[.int .i64 kind, .slice (some ⟨g, o, none⟩) 2 sc, .int .i64 hosts] 24 (0, 0))) := Q0.out
    generalize X.drewN nq = Y at *
    clear c1 c2 d0 d1 d2 f0 f1 f2 l1 e0 e1
    have c2 := cellR 2 Q3.out rfl
    have d0 := cellR 0 Q2.out rfl
    have d1 := cellR 1 Q2.out rfl
    have d2 := cellR 2 Q2.out rfl
    have f0 := frozen_of_row _ _ 0 _ _ Q2.out
    have f1 := frozen_of_row _ _ 1 _ _ Q2.out
    have f2 := frozen_of_row _ _ 2 _ _ Q2.out
    have l1 := (Array.getElem?_eq_some_iff.1 Q2.out).1
    go_wp2_with fail
    refine (W1.out _).mono ?_
    rintro e w1 ⟨rfl, rfl⟩
    clear W1
    go_wp2_with fail
    refine (W2.out _).mono ?_
    rintro e w1 ⟨rfl, rfl⟩
    clear W2
    go_wp2_with fail
    have hr := put3 (v0 := .int .i64 0) (v1 := .int .i64 0) (v2 := .int .i64 0) Q2.out
    have hb9 := ((HB2.out.setCell (p := ⟨w.heap.size + 1, 0, none⟩) (Nat.le_succ _) (.int .i64 0)).setCell (p := ⟨w.heap.size + 1, 1, none⟩) (Nat.le_succ _) (.int .i64 0)).setCell (p := ⟨w.heap.size + 1, 2, none⟩) (Nat.le_succ _) (.int .i64 0)
    refine bodyPost_ret (v := .tuple #[.agg #[.int .i64 0, .int .i64 0, .int .i64 0], .bool false]) ?_ rfl ⟨hb9, 0, 0, 0, by rw [HV.out.1], fun h => absurd h HV.out.2⟩
    simp [results, Act.put, run_loadVar_row _ _ 142 142 _ _ _ hr Tryz.underlying142 rfl info109, Tryz.results90, asAddr]
  have W2 := Lib.hid (fun W => WI.out lv 1 4 W)
  rw [show decide (1 ≤ lv ∧ lv ≤ 4) = true from decide_eq_true hW2] at W2
  obtain ⟨kn, rfl⟩ := Int.eq_ofNat_of_zero_le (show 0 ≤ k by omega)
  obtain ⟨ln, rfl⟩ := Int.eq_ofNat_of_zero_le (show 0 ≤ lv by omega)
  have W3 := Lib.hid (fun W => PW.out kn ln (by omega) (by omega) W)
  have W4 := Lib.hid (fun W => PW.out kn (ln - 1) (by omega) (by omega) W)
  have hps := pow_small (k := kn) (n := ln) (by omega) (by omega)
  have hG := Lib.hid (And.intro hW1 hW2)
  have HWD : Hid (wordsI [(kn : Int), (ln : Int)] = ((kn ^ (ln - 1) : Nat) : Int)) := rfl
  have hli : ((ln - 1 : Nat) : Int) = (ln : Int) - 1 := by omega
  rw [hli] at W4
  have HRK : Hid (rOk [(kn : Int), (ln : Int)] hosts ↔ (kn ^ ln ≤ 256 ∧ hosts = kn)) := by
    show _ ↔ _
    unfold rOk
    simp only [List.length_cons, List.length_nil, List.getD_cons_zero, List.getD_cons_succ, Int.toNat_natCast]
    exact ⟨fun h => ⟨h.2.2.2.1, h.2.2.2.2⟩, fun h => ⟨by trivial, hW1, hW2, h.1, h.2⟩⟩
  obtain ⟨pw, hpw⟩ : ∃ pw, pw = kn ^ ln := ⟨_, rfl⟩
  rw [← hpw] at W3 HRK hps
  obtain ⟨pv, hpv⟩ : ∃ pv, pv = kn ^ (ln - 1) := ⟨_, rfl⟩
  rw [← hpv] at W4 HWD
  clear hpw hpv hW1 hW2 WI PW hli
  by_cases h256 : 256 < pw
  case pos =>
    have HV : Hid (decide (rOk [(kn : Int), (ln : Int)] hosts) = false ∧ ¬ rOk [(kn : Int), (ln : Int)] hosts) := by
      have : ¬ rOk [(kn : Int), (ln : Int)] hosts := fun h => by have := (HRK.out.1 h).1; omega
      exact ⟨decide_eq_false this, this⟩
    have h256i : (256 : Int) < pw := by omega
    clear HRK
    go_enter Tryz.func90, Tryz.ntmps90
    go_wp2_with fail
    generalize (w.alloc (.cells #[.int .i64 kind, .slice (some ⟨g, o, none⟩) 2 sc, .int .i64 hosts] 24)).alloc (.cells #[.int .i64 0, .int .i64 0, .int .i64 0] 142) = X at *
    go_quiet (fail)
    have HB2 := Lib.hid (below_drewN HB.out nq)
    have Q2 : Hid ((X.drewN nq).heap[w.heap.size + 1]? = some (.cells #[.int .i64 0, .int .i64 0, .int .i64 0] 142 (0, 0))) := Q1.out
    have Q3 : Hid ((X.drewN nq).heap[w.heap.size]? = some (.cells #[.int .i64 kind, .slice (some ⟨g, o, none⟩) 2 sc, .int .i64 hosts] 24 (0, 0))) := Q0.out
    generalize X.drewN nq = Y at *
    clear c1 c2 d0 d1 d2 f0 f1 f2 l1 e0 e1
    have c2 := cellR 2 Q3.out rfl
    have d0 := cellR 0 Q2.out rfl
    have d1 := cellR 1 Q2.out rfl
    have d2 := cellR 2 Q2.out rfl
    have f0 := frozen_of_row _ _ 0 _ _ Q2.out
    have f1 := frozen_of_row _ _ 1 _ _ Q2.out
    have f2 := frozen_of_row _ _ 2 _ _ Q2.out
    have l1 := (Array.getElem?_eq_some_iff.1 Q2.out).1
    go_wp2_with fail
    refine (W1.out _).mono ?_
    rintro e w1 ⟨rfl, rfl⟩
    clear W1
    go_wp2_with fail
    refine (W2.out _).mono ?_
    rintro e w1 ⟨rfl, rfl⟩
    clear W2
    go_wp2_with fail
    refine (W3.out _).mono ?_
    rintro e w1 ⟨rfl, rfl⟩
    clear W3
    go_wp2_with fail
    have hr := put3 (v0 := .int .i64 0) (v1 := .int .i64 0) (v2 := .int .i64 0) Q2.out
    have hb9 := ((HB2.out.setCell (p := ⟨w.heap.size + 1, 0, none⟩) (Nat.le_succ _) (.int .i64 0)).setCell (p := ⟨w.heap.size + 1, 1, none⟩) (Nat.le_succ _) (.int .i64 0)).setCell (p := ⟨w.heap.size + 1, 2, none⟩) (Nat.le_succ _) (.int .i64 0)
    refine bodyPost_ret (v := .tuple #[.agg #[.int .i64 0, .int .i64 0, .int .i64 0], .bool false]) ?_ rfl ⟨hb9, 0, 0, 0, by rw [HV.out.1], fun h => absurd h HV.out.2⟩
    simp [results, Act.put, run_loadVar_row _ _ 142 142 _ _ _ hr Tryz.underlying142 rfl info109, Tryz.results90, asAddr]
  have h256i : ¬ (256 : Int) < pw := by omega
  by_cases hho : hosts = kn
  case neg =>
    have HV : Hid (decide (rOk [(kn : Int), (ln : Int)] hosts) = false ∧ ¬ rOk [(kn : Int), (ln : Int)] hosts) := by
      have : ¬ rOk [(kn : Int), (ln : Int)] hosts := fun h => hho (HRK.out.1 h).2
      exact ⟨decide_eq_false this, this⟩
    have hhn : (hosts != (kn : Int)) = true := bne_iff_ne.2 hho
    clear HRK hho
    go_enter Tryz.func90, Tryz.ntmps90
    go_wp2_with fail
    generalize (w.alloc (.cells #[.int .i64 kind, .slice (some ⟨g, o, none⟩) 2 sc, .int .i64 hosts] 24)).alloc (.cells #[.int .i64 0, .int .i64 0, .int .i64 0] 142) = X at *
    go_quiet (fail)
    have HB2 := Lib.hid (below_drewN HB.out nq)
    have Q2 : Hid ((X.drewN nq).heap[w.heap.size + 1]? = some (.cells #[.int .i64 0, .int .i64 0, .int .i64 0] 142 (0, 0))) := Q1.out
    have Q3 : Hid ((X.drewN nq).heap[w.heap.size]? = some (.cells #[.int .i64 kind, .slice (some ⟨g, o, none⟩) 2 sc, .int .i64 hosts] 24 (0, 0))) := Q0.out
    generalize X.drewN nq = Y at *
    clear c1 c2 d0 d1 d2 f0 f1 f2 l1 e0 e1
    have c2 := cellR 2 Q3.out rfl
    have d0 := cellR 0 Q2.out rfl
    have d1 := cellR 1 Q2.out rfl
    have d2 := cellR 2 Q2.out rfl
    have f0 := frozen_of_row _ _ 0 _ _ Q2.out
    have f1 := frozen_of_row _ _ 1 _ _ Q2.out
    have f2 := frozen_of_row _ _ 2 _ _ Q2.out
    have l1 := (Array.getElem?_eq_some_iff.1 Q2.out).1
    go_wp2_with fail
    refine (W1.out _).mono ?_
    rintro e w1 ⟨rfl, rfl⟩
    clear W1
    go_wp2_with fail
    refine (W2.out _).mono ?_
    rintro e w1 ⟨rfl, rfl⟩
    clear W2
    go_wp2_with fail
    refine (W3.out _).mono ?_
    rintro e w1 ⟨rfl, rfl⟩
    clear W3
    go_wp2_with fail
    have hr := put3 (v0 := .int .i64 0) (v1 := .int .i64 0) (v2 := .int .i64 0) Q2.out
    have hb9 := ((HB2.out.setCell (p := ⟨w.heap.size + 1, 0, none⟩) (Nat.le_succ _) (.int .i64 0)).setCell (p := ⟨w.heap.size + 1, 1, none⟩) (Nat.le_succ _) (.int .i64 0)).setCell (p := ⟨w.heap.size + 1, 2, none⟩) (Nat.le_succ _) (.int .i64 0)
    refine bodyPost_ret (v := .tuple #[.agg #[.int .i64 0, .int .i64 0, .int .i64 0], .bool false]) ?_ rfl ⟨hb9, 0, 0, 0, by rw [HV.out.1], fun h => absurd h HV.out.2⟩
    simp [results, Act.put, run_loadVar_row _ _ 142 142 _ _ _ hr Tryz.underlying142 rfl info109, Tryz.results90, asAddr]
  have HV : Hid (decide (rOk [(kn : Int), (ln : Int)] hosts) = true ∧ True) := ⟨decide_eq_true (HRK.out.2 ⟨by omega, hho⟩), trivial⟩
  have hhn : (hosts != (kn : Int)) = false := by simp [hho]
  clear HRK hho
  have hlw : wrap64 ((ln : Int) - 1) = (ln : Int) - 1 := by have := hG.out.2; unfold wrap64; omega
  go_enter Tryz.func90, Tryz.ntmps90
  go_wp2_with fail
  generalize (w.alloc (.cells #[.int .i64 kind, .slice (some ⟨g, o, none⟩) 2 sc, .int .i64 hosts] 24)).alloc (.cells #[.int .i64 0, .int .i64 0, .int .i64 0] 142) = X at *
  go_quiet (fail)
  have HB2 := Lib.hid (below_drewN HB.out nq)
  have Q2 : Hid ((X.drewN nq).heap[w.heap.size + 1]? = some (.cells #[.int .i64 0, .int .i64 0, .int .i64 0] 142 (0, 0))) := Q1.out
  have Q3 : Hid ((X.drewN nq).heap[w.heap.size]? = some (.cells #[.int .i64 kind, .slice (some ⟨g, o, none⟩) 2 sc, .int .i64 hosts] 24 (0, 0))) := Q0.out
  generalize X.drewN nq = Y at *
  clear c1 c2 d0 d1 d2 f0 f1 f2 l1 e0 e1
  have c2 := cellR 2 Q3.out rfl
  have d0 := cellR 0 Q2.out rfl
  have d1 := cellR 1 Q2.out rfl
  have d2 := cellR 2 Q2.out rfl
  have f0 := frozen_of_row _ _ 0 _ _ Q2.out
  have f1 := frozen_of_row _ _ 1 _ _ Q2.out
  have f2 := frozen_of_row _ _ 2 _ _ Q2.out
  have l1 := (Array.getElem?_eq_some_iff.1 Q2.out).1
  go_wp2_with fail
  refine (W1.out _).mono ?_
  rintro e w1 ⟨rfl, rfl⟩
  clear W1
  go_wp2_with fail
  refine (W2.out _).mono ?_
  rintro e w1 ⟨rfl, rfl⟩
  clear W2
  go_wp2_with fail
  refine (W3.out _).mono ?_
  rintro e w1 ⟨rfl, rfl⟩
  clear W3
  go_wp2_with fail
  refine (W4.out _).mono ?_
  rintro e w1 ⟨rfl, rfl⟩
  clear W4
  go_wp2_with fail
  have hr := put3 (v0 := .int .i64 (kn : Int)) (v1 := .int .i64 (ln : Int)) (v2 := .int .i64 (pv : Int)) Q2.out
  have hb9 := ((HB2.out.setCell (p := ⟨w.heap.size + 1, 0, none⟩) (Nat.le_succ _) (.int .i64 (kn : Int))).setCell (p := ⟨w.heap.size + 1, 1, none⟩) (Nat.le_succ _) (.int .i64 (ln : Int))).setCell (p := ⟨w.heap.size + 1, 2, none⟩) (Nat.le_succ _) (.int .i64 (pv : Int))
  refine bodyPost_ret (v := .tuple #[.agg #[.int .i64 (kn : Int), .int .i64 (ln : Int), .int .i64 (pv : Int)], .bool true]) ?_ rfl ⟨hb9, (kn : Int), (ln : Int), (pv : Int), by rw [HV.out.1], fun _ => ⟨rfl, rfl, HWD.out.symm⟩⟩
  simp [results, Act.put, run_loadVar_row _ _ 142 142 _ _ _ hr Tryz.underlying142 rfl info109, Tryz.results90, asAddr]

theorem dragonflyOf_any {w : World} {sa : Option Addr} {l : List Int} (h : Ints w sa l) (sc : Nat) (kind hosts : Int) :
    Calls Tryz.prog 91 #[.agg #[.int .i64 kind, .slice sa l.length sc, .int .i64 hosts]] w fun e w' => Below w.heap.size w w' ∧ ∃ a b c : Int, e = .returned (.tuple #[.agg #[.int .i64 a, .int .i64 b, .int .i64 c], .bool (decide (dOk l hosts))]) ∧ (dOk l hosts → a = l.getD 0 0 ∧ b = l.getD 1 0 ∧ c = l.getD 0 0 * l.getD 1 0 + 1) := by
  have hlen := h.len
  have HL := Lib.hid h
  obtain ⟨N, hN⟩ : ∃ N, N = l.length := ⟨_, rfl⟩
  have HN := Lib.hid hN
  rw [← hN] at hlen ⊢
  obtain ⟨hbx, q0, q1, hz⟩ := twoN w (.cells #[.int .i64 kind, .slice sa N sc, .int .i64 hosts] 24) (.cells #[.int .i64 0, .int .i64 0, .int .i64 0] 146)
  have HB := Lib.hid hbx
  have Q0 := Lib.hid q0
  have Q1 := Lib.hid q1
  have WI := Lib.hid (fun x lo hi W => within_any x lo hi W)
  have PW := Lib.hid (fun k n (hk : k ≤ 16) (hn : n ≤ 5) W => power_any k n hk hn W)
  clear h hN hbx
  have c1 := cellR 1 q0 rfl
  have c2 := cellR 2 q0 rfl
  have d0 := cellR 0 q1 rfl
  have d1 := cellR 1 q1 rfl
  have d2 := cellR 2 q1 rfl
  have f0 := frozen_of_row _ _ 0 _ _ q1
  have f1 := frozen_of_row _ _ 1 _ _ q1
  have f2 := frozen_of_row _ _ 2 _ _ q1
  have l1 := (Array.getElem?_eq_some_iff.1 q1).1
  clear q0 q1

  clear PW
  by_cases hl2 : N = 2
  case neg =>
    have HV : Hid (decide (dOk l hosts) = false ∧ ¬ dOk l hosts) := by
      have : ¬ dOk l hosts := by unfold dOk; intro h; exact hl2 (by rw [HN.out]; exact h.1)
      exact ⟨decide_eq_false this, this⟩
    have hni : ((N : Int) != 2) = true := by rw [bne_iff_ne]; omega
    clear hl2
    go_enter Tryz.func91, Tryz.ntmps91
    go_wp2_with fail
    refine bodyPost_ret (v := .tuple #[.agg #[.int .i64 0, .int .i64 0, .int .i64 0], .bool false]) ?_ rfl ⟨HB.out, 0, 0, 0, by rw [HV.out.1], fun h => absurd h HV.out.2⟩
    simp [results, Act.put, run_loadVar_row _ _ 146 146 _ _ _ Q1.out Tryz.underlying146 rfl info113, Tryz.results91, asAddr]
  subst hl2
  obtain ⟨k, lv, rfl⟩ := two_of HN.out.symm
  obtain ⟨g, o, rfl, hc⟩ := (HL.out.keep HB.out).at_ (by simp)
  have e0 := hc 0 (by simp)
  have e1 := hc 1 (by simp)
  rw [Nat.add_zero] at e0
  simp only [List.getElem_cons_zero, List.getElem_cons_succ] at e0 e1
  clear hc HL
  by_cases hW0 : 1 ≤ hosts ∧ hosts ≤ 4
  case neg =>
    have HV : Hid (decide (dOk [k, lv] hosts) = false ∧ ¬ dOk [k, lv] hosts) := by
      have : ¬ dOk [k, lv] hosts := by unfold dOk; intro h; exact hW0 h.2.1
      exact ⟨decide_eq_false this, this⟩
    have W0 := Lib.hid (fun W => WI.out hosts 1 4 W)
    rw [show decide (1 ≤ hosts ∧ hosts ≤ 4) = false from decide_eq_false hW0] at W0
    clear hW0 WI
    go_enter Tryz.func91, Tryz.ntmps91
    go_wp2_with fail
    generalize (w.alloc (.cells #[.int .i64 kind, .slice (some ⟨g, o, none⟩) 2 sc, .int .i64 hosts] 24)).alloc (.cells #[.int .i64 0, .int .i64 0, .int .i64 0] 146) = X at *
    refine (W0.out _).mono ?_
    rintro e w1 ⟨rfl, rfl⟩
    clear W0
    go_wp2_with fail
    have hr := put3 (v0 := .int .i64 0) (v1 := .int .i64 0) (v2 := .int .i64 0) Q1.out
    have hb9 := ((HB.out.setCell (p := ⟨w.heap.size + 1, 0, none⟩) (Nat.le_succ _) (.int .i64 0)).setCell (p := ⟨w.heap.size + 1, 1, none⟩) (Nat.le_succ _) (.int .i64 0)).setCell (p := ⟨w.heap.size + 1, 2, none⟩) (Nat.le_succ _) (.int .i64 0)
    refine bodyPost_ret (v := .tuple #[.agg #[.int .i64 0, .int .i64 0, .int .i64 0], .bool false]) ?_ rfl ⟨hb9, 0, 0, 0, by rw [HV.out.1], fun h => absurd h HV.out.2⟩
    simp [results, Act.put, run_loadVar_row _ _ 146 146 _ _ _ hr Tryz.underlying146 rfl info113, Tryz.results91, asAddr]
  have W0 := Lib.hid (fun W => WI.out hosts 1 4 W)
  rw [show decide (1 ≤ hosts ∧ hosts ≤ 4) = true from decide_eq_true hW0] at W0
  by_cases hW1 : 1 ≤ k ∧ k ≤ 16
  case neg =>
    have HV : Hid (decide (dOk [k, lv] hosts) = false ∧ ¬ dOk [k, lv] hosts) := by
      have : ¬ dOk [k, lv] hosts := by unfold dOk; intro h; exact hW1 h.2.2.1
      exact ⟨decide_eq_false this, this⟩
    have W1 := Lib.hid (fun W => WI.out k 1 16 W)
    rw [show decide (1 ≤ k ∧ k ≤ 16) = false from decide_eq_false hW1] at W1
    clear hW0 hW1 WI
    go_enter Tryz.func91, Tryz.ntmps91
    go_wp2_with fail
    generalize (w.alloc (.cells #[.int .i64 kind, .slice (some ⟨g, o, none⟩) 2 sc, .int .i64 hosts] 24)).alloc (.cells #[.int .i64 0, .int .i64 0, .int .i64 0] 146) = X at *
    refine (W0.out _).mono ?_
    rintro e w1 ⟨rfl, rfl⟩
    clear W0
    go_wp2_with fail
    go_quiet (fail)
    have HB2 := Lib.hid (below_drewN HB.out nq)
    have Q2 : Hid ((X.drewN nq).heap[w.heap.size + 1]? = some (.cells #[.int .i64 0, .int .i64 0, .int .i64 0] 146 (0, 0))) := Q1.out
    have Q3 : Hid ((X.drewN nq).heap[w.heap.size]? = some (.cells #[.int .i64 kind, .slice (some ⟨g, o, none⟩) 2 sc, .int .i64 hosts] 24 (0, 0))) := Q0.out
    generalize X.drewN nq = Y at *
    clear c1 c2 d0 d1 d2 f0 f1 f2 l1 e0 e1
    have c2 := cellR 2 Q3.out rfl
    have d0 := cellR 0 Q2.out rfl
    have d1 := cellR 1 Q2.out rfl
    have d2 := cellR 2 Q2.out rfl
    have f0 := frozen_of_row _ _ 0 _ _ Q2.out
    have f1 := frozen_of_row _ _ 1 _ _ Q2.out
    have f2 := frozen_of_row _ _ 2 _ _ Q2.out
    have l1 := (Array.getElem?_eq_some_iff.1 Q2.out).1
    go_wp2_with fail
    refine (W1.out _).mono ?_
    rintro e w1 ⟨rfl, rfl⟩
    clear W1
    go_wp2_with fail
    have hr := put3 (v0 := .int .i64 0) (v1 := .int .i64 0) (v2 := .int .i64 0) Q2.out
    have hb9 := ((HB2.out.setCell (p := ⟨w.heap.size + 1, 0, none⟩) (Nat.le_succ _) (.int .i64 0)).setCell (p := ⟨w.heap.size + 1, 1, none⟩) (Nat.le_succ _) (.int .i64 0)).setCell (p := ⟨w.heap.size + 1, 2, none⟩) (Nat.le_succ _) (.int .i64 0)
    refine bodyPost_ret (v := .tuple #[.agg #[.int .i64 0, .int .i64 0, .int .i64 0], .bool false]) ?_ rfl ⟨hb9, 0, 0, 0, by rw [HV.out.1], fun h => absurd h HV.out.2⟩
    simp [results, Act.put, run_loadVar_row _ _ 146 146 _ _ _ hr Tryz.underlying146 rfl info113, Tryz.results91, asAddr]
  have W1 := Lib.hid (fun W => WI.out k 1 16 W)
  rw [show decide (1 ≤ k ∧ k ≤ 16) = true from decide_eq_true hW1] at W1
  by_cases hW2 : 1 ≤ lv ∧ lv ≤ 4
  case neg =>
    have HV : Hid (decide (dOk [k, lv] hosts) = false ∧ ¬ dOk [k, lv] hosts) := by
      have : ¬ dOk [k, lv] hosts := by unfold dOk; intro h; exact hW2 h.2.2.2.1
      exact ⟨decide_eq_false this, this⟩
    have W2 := Lib.hid (fun W => WI.out lv 1 4 W)
    rw [show decide (1 ≤ lv ∧ lv ≤ 4) = false from decide_eq_false hW2] at W2
    clear hW0 hW1 hW2 WI
    go_enter Tryz.func91, Tryz.ntmps91
    go_wp2_with fail
    generalize (w.alloc (.cells #[.int .i64 kind, .slice (some ⟨g, o, none⟩) 2 sc, .int .i64 hosts] 24)).alloc (.cells #[.int .i64 0, .int .i64 0, .int .i64 0] 146) = X at *
    refine (W0.out _).mono ?_
    rintro e w1 ⟨rfl, rfl⟩
    clear W0
    go_wp2_with fail
    go_quiet (fail)
    have HB2 := Lib.hid (below_drewN HB.out nq)
    have Q2 : Hid ((X.drewN nq).heap[w.heap.size + 1]? = some (.cells #[.int .i64 0, .int .i64 0, .int .i64 0] 146 (0, 0))) := Q1.out
    have Q3 : Hid ((X.drewN nq).heap[w.heap.size]? = some (.cells #[.int .i64 kind, .slice (some ⟨g, o, none⟩) 2 sc, .int .i64 hosts] 24 (0, 0))) := Q0.out
    generalize X.drewN nq = Y at *
    clear c1 c2 d0 d1 d2 f0 f1 f2 l1 e0 e1
    have c2 := cellR 2 Q3.out rfl
    have d0 := cellR 0 Q2.out rfl
    have d1 := cellR 1 Q2.out rfl
    have d2 := cellR 2 Q2.out rfl
    have f0 := frozen_of_row _ _ 0 _ _ Q2.out
    have f1 := frozen_of_row _ _ 1 _ _ Q2.out
    have f2 := frozen_of_row _ _ 2 _ _ Q2.out
    have l1 := (Array.getElem?_eq_some_iff.1 Q2.out).1
    go_wp2_with fail
    refine (W1.out _).mono ?_
    rintro e w1 ⟨rfl, rfl⟩
    clear W1
    go_wp2_with fail
    refine (W2.out _).mono ?_
    rintro e w1 ⟨rfl, rfl⟩
    clear W2
    go_wp2_with fail
    have hr := put3 (v0 := .int .i64 0) (v1 := .int .i64 0) (v2 := .int .i64 0) Q2.out
    have hb9 := ((HB2.out.setCell (p := ⟨w.heap.size + 1, 0, none⟩) (Nat.le_succ _) (.int .i64 0)).setCell (p := ⟨w.heap.size + 1, 1, none⟩) (Nat.le_succ _) (.int .i64 0)).setCell (p := ⟨w.heap.size + 1, 2, none⟩) (Nat.le_succ _) (.int .i64 0)
    refine bodyPost_ret (v := .tuple #[.agg #[.int .i64 0, .int .i64 0, .int .i64 0], .bool false]) ?_ rfl ⟨hb9, 0, 0, 0, by rw [HV.out.1], fun h => absurd h HV.out.2⟩
    simp [results, Act.put, run_loadVar_row _ _ 146 146 _ _ _ hr Tryz.underlying146 rfl info113, Tryz.results91, asAddr]
  have W2 := Lib.hid (fun W => WI.out lv 1 4 W)
  rw [show decide (1 ≤ lv ∧ lv ≤ 4) = true from decide_eq_true hW2] at W2
  obtain ⟨b1, b2, b3, b4⟩ := drag_bound hW1.1 hW1.2 hW2.1 hW2.2
  have HDK : Hid (dOk [k, lv] hosts ↔ k * (k * lv + 1) ≤ 256) := by
    show _ ↔ _
    unfold dOk
    simp only [List.length_cons, List.length_nil, List.getD_cons_zero, List.getD_cons_succ]
    exact ⟨fun h => h.2.2.2.2, fun h => ⟨by trivial, hW0, hW1, hW2, h⟩⟩
  have w1' : wrap64 (k * lv) = k * lv := by generalize k * lv = z at *; unfold wrap64; omega
  have w2' : wrap64 (k * lv + 1) = k * lv + 1 := by generalize k * lv = z at *; unfold wrap64; omega
  have w3' : wrap64 (k * (k * lv + 1)) = k * (k * lv + 1) := by generalize k * (k * lv + 1) = z at *; unfold wrap64; omega
  clear hW0 hW1 hW2 WI
  by_cases h256 : 256 < k * (k * lv + 1)
  case pos =>
    have HV : Hid (decide (dOk [k, lv] hosts) = false ∧ ¬ dOk [k, lv] hosts) := by
      have : ¬ dOk [k, lv] hosts := fun h => by have := HDK.out.1 h; omega
      exact ⟨decide_eq_false this, this⟩
    clear HDK
    go_enter Tryz.func91, Tryz.ntmps91
    go_wp2_with fail
    generalize (w.alloc (.cells #[.int .i64 kind, .slice (some ⟨g, o, none⟩) 2 sc, .int .i64 hosts] 24)).alloc (.cells #[.int .i64 0, .int .i64 0, .int .i64 0] 146) = X at *
    refine (W0.out _).mono ?_
    rintro e w1 ⟨rfl, rfl⟩
    clear W0
    go_wp2_with fail
    go_quiet (fail)
    have HB2 := Lib.hid (below_drewN HB.out nq)
    have Q2 : Hid ((X.drewN nq).heap[w.heap.size + 1]? = some (.cells #[.int .i64 0, .int .i64 0, .int .i64 0] 146 (0, 0))) := Q1.out
    have Q3 : Hid ((X.drewN nq).heap[w.heap.size]? = some (.cells #[.int .i64 kind, .slice (some ⟨g, o, none⟩) 2 sc, .int .i64 hosts] 24 (0, 0))) := Q0.out
    generalize X.drewN nq = Y at *
    clear c1 c2 d0 d1 d2 f0 f1 f2 l1 e0 e1
    have c2 := cellR 2 Q3.out rfl
    have d0 := cellR 0 Q2.out rfl
    have d1 := cellR 1 Q2.out rfl
    have d2 := cellR 2 Q2.out rfl
    have f0 := frozen_of_row _ _ 0 _ _ Q2.out
    have f1 := frozen_of_row _ _ 1 _ _ Q2.out
    have f2 := frozen_of_row _ _ 2 _ _ Q2.out
    have l1 := (Array.getElem?_eq_some_iff.1 Q2.out).1
    go_wp2_with fail
    refine (W1.out _).mono ?_
    rintro e w1 ⟨rfl, rfl⟩
    clear W1
    go_wp2_with fail
    refine (W2.out _).mono ?_
    rintro e w1 ⟨rfl, rfl⟩
    clear W2
    go_wp2_with fail
    have hr := put3 (v0 := .int .i64 0) (v1 := .int .i64 0) (v2 := .int .i64 0) Q2.out
    have hb9 := ((HB2.out.setCell (p := ⟨w.heap.size + 1, 0, none⟩) (Nat.le_succ _) (.int .i64 0)).setCell (p := ⟨w.heap.size + 1, 1, none⟩) (Nat.le_succ _) (.int .i64 0)).setCell (p := ⟨w.heap.size + 1, 2, none⟩) (Nat.le_succ _) (.int .i64 0)
    refine bodyPost_ret (v := .tuple #[.agg #[.int .i64 0, .int .i64 0, .int .i64 0], .bool false]) ?_ rfl ⟨hb9, 0, 0, 0, by rw [HV.out.1], fun h => absurd h HV.out.2⟩
    simp [results, Act.put, run_loadVar_row _ _ 146 146 _ _ _ hr Tryz.underlying146 rfl info113, Tryz.results91, asAddr]
  have HV : Hid (decide (dOk [k, lv] hosts) = true ∧ True) := ⟨decide_eq_true (HDK.out.2 (by omega)), trivial⟩
  clear HDK
  go_enter Tryz.func91, Tryz.ntmps91
  go_wp2_with fail
  generalize (w.alloc (.cells #[.int .i64 kind, .slice (some ⟨g, o, none⟩) 2 sc, .int .i64 hosts] 24)).alloc (.cells #[.int .i64 0, .int .i64 0, .int .i64 0] 146) = X at *
  refine (W0.out _).mono ?_
  rintro e w1 ⟨rfl, rfl⟩
  clear W0
  go_wp2_with fail
  go_quiet (fail)
  have HB2 := Lib.hid (below_drewN HB.out nq)
  have Q2 : Hid ((X.drewN nq).heap[w.heap.size + 1]? = some (.cells #[.int .i64 0, .int .i64 0, .int .i64 0] 146 (0, 0))) := Q1.out
  have Q3 : Hid ((X.drewN nq).heap[w.heap.size]? = some (.cells #[.int .i64 kind, .slice (some ⟨g, o, none⟩) 2 sc, .int .i64 hosts] 24 (0, 0))) := Q0.out
  generalize X.drewN nq = Y at *
  clear c1 c2 d0 d1 d2 f0 f1 f2 l1 e0 e1
  have c2 := cellR 2 Q3.out rfl
  have d0 := cellR 0 Q2.out rfl
  have d1 := cellR 1 Q2.out rfl
  have d2 := cellR 2 Q2.out rfl
  have f0 := frozen_of_row _ _ 0 _ _ Q2.out
  have f1 := frozen_of_row _ _ 1 _ _ Q2.out
  have f2 := frozen_of_row _ _ 2 _ _ Q2.out
  have l1 := (Array.getElem?_eq_some_iff.1 Q2.out).1
  go_wp2_with fail
  refine (W1.out _).mono ?_
  rintro e w1 ⟨rfl, rfl⟩
  clear W1
  go_wp2_with fail
  refine (W2.out _).mono ?_
  rintro e w1 ⟨rfl, rfl⟩
  clear W2
  go_wp2_with fail
  have hr := put3 (v0 := .int .i64 k) (v1 := .int .i64 lv) (v2 := .int .i64 (k * lv + 1)) Q2.out
  have hb9 := ((HB2.out.setCell (p := ⟨w.heap.size + 1, 0, none⟩) (Nat.le_succ _) (.int .i64 k)).setCell (p := ⟨w.heap.size + 1, 1, none⟩) (Nat.le_succ _) (.int .i64 lv)).setCell (p := ⟨w.heap.size + 1, 2, none⟩) (Nat.le_succ _) (.int .i64 (k * lv + 1))
  refine bodyPost_ret (v := .tuple #[.agg #[.int .i64 k, .int .i64 lv, .int .i64 (k * lv + 1)], .bool true]) ?_ rfl ⟨hb9, k, lv, (k * lv + 1), by rw [HV.out.1], fun _ => ⟨rfl, rfl, rfl⟩⟩
  simp [results, Act.put, run_loadVar_row _ _ 146 146 _ _ _ hr Tryz.underlying146 rfl info113, Tryz.results91, asAddr]
end Go.Proofs.YtbhkenphcahifaaGreat
