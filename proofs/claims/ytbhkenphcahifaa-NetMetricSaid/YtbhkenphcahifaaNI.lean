import Derived.Test.YtbhkenphcahifaaNH
namespace Go.Proofs.Ytbhkenphcahifaa
open Go.RowKit Go.Shelf
attribute [local go_sem] Oper.semAt_some
set_option maxRecDepth 100000
set_option maxHeartbeats 4000000

theorem v_kind {kind : Int} {l : List Int} {h : Int} (hv : vOk kind l h) : kind = 1 ∨ kind = 2 ∨ kind = 3 := by
  rcases hv with ⟨h1, _⟩ | ⟨h1, _⟩ | ⟨h1, _⟩
  · exact .inl h1
  · exact .inr (.inl h1)
  · exact .inr (.inr h1)
def errI (kind : Int) (l : List Int) (h : Int) : Int := if vOk kind l h then 0 else 2
def szI (kind : Int) (l : List Int) (h : Int) : Int := if vOk kind l h then swI kind l else 0
def hsI (kind : Int) (l : List Int) (h : Int) : Int := if vOk kind l h then hoI kind l * h else 0
theorem Size_bad {w : World} {sa : Option Addr} {l : List Int} (h : Ints w sa l) (sc : Nat) (kind hosts : Int) (hv : ¬ vOk kind l hosts) :
    Calls Try.prog 11 #[.agg #[.int .i64 kind, .slice sa l.length sc, .int .i64 hosts]] w fun e w' => e = .returned (.tuple #[.int .i64 0, .int .i64 0, .int .i64 2]) ∧ Below w.heap.size w w' := by
  have HO : Hid (∀ W, Below w.heap.size w W → Calls Try.prog 42 #[.agg #[.int .i64 kind, .slice sa l.length sc, .int .i64 hosts]] W fun e w' => Below W.heap.size W w' ∧ ((vOk kind l hosts ∧ e = .returned (.tuple #[netV kind sa sc l, .int .i64 0])) ∨ (¬ vOk kind l hosts ∧ e = .returned (.tuple #[.nilIface, .int .i64 2])))) := fun W hb => networkOf_any (h.keep hb) sc kind hosts
  have HB := Lib.hid ((Below.refl w.heap.size w).alloc (Nat.le_refl _) (.cells #[.int .i64 kind, .slice sa l.length sc, .int .i64 hosts] 24))
  have q0 := heap_alloc_new w (.cells #[.int .i64 kind, .slice sa l.length sc, .int .i64 hosts] 24)
  have c0 := cellR 0 q0 rfl
  have c1 := cellR 1 q0 rfl
  have c2 := cellR 2 q0 rfl
  clear h q0
  go_enter Try.func11, Try.ntmps11
  go_wp2_with fail
  generalize w.alloc (.cells #[.int .i64 kind, .slice sa l.length sc, .int .i64 hosts] 24) = X at *
  refine (HO.out _ HB.out).mono ?_
  rintro e w1 ⟨hb1, ⟨hn, _⟩ | ⟨_, rfl⟩⟩
  · exact absurd hn hv
  · have HB1 := Lib.hid (HB.out.trans (hb1.mono HB.out.size))
    clear c0 c1 c2 HB hb1 HO
    go_wp2_with fail
    go_ret3
    exact ⟨rfl, HB1.out⟩
theorem Size_any {w : World} {sa : Option Addr} {l : List Int} (h : Ints w sa l) (sc : Nat) (kind hosts : Int) :
    Calls Try.prog 11 #[.agg #[.int .i64 kind, .slice sa l.length sc, .int .i64 hosts]] w fun e w' => e = .returned (.tuple #[.int .i64 (szI kind l hosts), .int .i64 (hsI kind l hosts), .int .i64 (errI kind l hosts)]) ∧ Below w.heap.size w w' := by
  unfold szI hsI errI
  by_cases hv : vOk kind l hosts
  · rw [if_pos hv, if_pos hv, if_pos hv]
    rcases v_kind hv with rfl | rfl | rfl
    · exact Size1_any h sc hosts hv
    · exact Size2_any h sc hosts hv
    · exact Size3_any h sc hosts hv
  · rw [if_neg hv, if_neg hv, if_neg hv]
    exact Size_bad h sc kind hosts hv
theorem Check_any {w : World} {sa : Option Addr} {l : List Int} (h : Ints w sa l) (sc : Nat) (kind hosts : Int) :
    Calls Try.prog 14 #[.agg #[.int .i64 kind, .slice sa l.length sc, .int .i64 hosts]] w fun e w' => e = .returned (.int .i64 (errI kind l hosts)) ∧ Below w.heap.size w w' := by
  have HO : Hid (∀ W, Below w.heap.size w W → Calls Try.prog 42 #[.agg #[.int .i64 kind, .slice sa l.length sc, .int .i64 hosts]] W fun e w' => Below W.heap.size W w' ∧ ((vOk kind l hosts ∧ e = .returned (.tuple #[netV kind sa sc l, .int .i64 0])) ∨ (¬ vOk kind l hosts ∧ e = .returned (.tuple #[.nilIface, .int .i64 2])))) := fun W hb => networkOf_any (h.keep hb) sc kind hosts
  have HB := Lib.hid ((Below.refl w.heap.size w).alloc (Nat.le_refl _) (.cells #[.int .i64 kind, .slice sa l.length sc, .int .i64 hosts] 24))
  have HE : Hid (errI kind l hosts = if vOk kind l hosts then 0 else 2) := rfl
  have q0 := heap_alloc_new w (.cells #[.int .i64 kind, .slice sa l.length sc, .int .i64 hosts] 24)
  have c0 := cellR 0 q0 rfl
  have c1 := cellR 1 q0 rfl
  have c2 := cellR 2 q0 rfl
  clear h q0
  generalize errI kind l hosts = E at *
  go_enter Try.func14, Try.ntmps14
  go_wp2_with fail
  generalize w.alloc (.cells #[.int .i64 kind, .slice sa l.length sc, .int .i64 hosts] 24) = X at *
  refine (HO.out _ HB.out).mono ?_
  rintro e w1 ⟨hb1, ⟨hn, rfl⟩ | ⟨hn, rfl⟩⟩
  · have HB1 := Lib.hid (HB.out.trans (hb1.mono HB.out.size))
    have HE2 : Hid (E = 0) := by rw [HE.out, if_pos hn]; rfl
    clear c0 c1 c2 HB hb1 HO HE hn
    go_wp2_with fail
    go_ret
    exact ⟨by rw [HE2.out]; rfl, HB1.out⟩
  · have HB1 := Lib.hid (HB.out.trans (hb1.mono HB.out.size))
    have HE2 : Hid (E = 2) := by rw [HE.out, if_neg hn]; rfl
    clear c0 c1 c2 HB hb1 HO HE hn
    go_wp2_with fail
    go_ret
    exact ⟨by rw [HE2.out]; rfl, HB1.out⟩
/-- the switch of a host, or the error -/
def homI (kind : Int) (l : List Int) (h host : Int) : Int := if vOk kind l h ∧ 0 ≤ host ∧ host < hoI kind l * h then host / h else 0
def homE (kind : Int) (l : List Int) (h host : Int) : Int := if vOk kind l h then (if 0 ≤ host ∧ host < hoI kind l * h then 0 else 3) else 2
theorem Home_any {w : World} {sa : Option Addr} {l : List Int} (h : Ints w sa l) (sc : Nat) (kind hosts host : Int) :
    Calls Try.prog 16 #[.agg #[.int .i64 kind, .slice sa l.length sc, .int .i64 hosts], .int .i64 host] w fun e w' => e = .returned (.tuple #[.int .i64 (homI kind l hosts host), .int .i64 (homE kind l hosts host)]) ∧ Below w.heap.size w w' := by
  have HO : Hid (∀ W, Below w.heap.size w W → Calls Try.prog 11 #[.agg #[.int .i64 kind, .slice sa l.length sc, .int .i64 hosts]] W fun e w' => e = .returned (.tuple #[.int .i64 (szI kind l hosts), .int .i64 (hsI kind l hosts), .int .i64 (errI kind l hosts)]) ∧ Below W.heap.size W w') := fun W hb => Size_any (h.keep hb) sc kind hosts
  have HB := Lib.hid ((Below.refl w.heap.size w).alloc (Nat.le_refl _) (.cells #[.int .i64 kind, .slice sa l.length sc, .int .i64 hosts] 24))
  have Q0 := Lib.hid (heap_alloc_new w (.cells #[.int .i64 kind, .slice sa l.length sc, .int .i64 hosts] 24))
  have c0 := cellR 0 Q0.out rfl
  have c1 := cellR 1 Q0.out rfl
  have c2 := cellR 2 Q0.out rfl
  have HI : Hid (homI kind l hosts host = if vOk kind l hosts ∧ 0 ≤ host ∧ host < hoI kind l * hosts then host / hosts else 0) := rfl
  have HE : Hid (homE kind l hosts host = if vOk kind l hosts then (if 0 ≤ host ∧ host < hoI kind l * hosts then 0 else 3) else 2) := rfl
  have HS : Hid (hsI kind l hosts = if vOk kind l hosts then hoI kind l * hosts else 0) := rfl
  have HR : Hid (errI kind l hosts = if vOk kind l hosts then 0 else 2) := rfl
  have HVB : Hid (vOk kind l hosts → 1 ≤ hosts ∧ hoI kind l * hosts ≤ 2048) := fun hv => by
    obtain ⟨v1, v2, v3, v4, v5, v6⟩ := v_bound hv
    exact ⟨v5, by have := Int.mul_le_mul v2 v6 (by omega) (by decide); omega⟩
  clear h
  generalize homI kind l hosts host = RI at *
  generalize homE kind l hosts host = RE at *
  generalize szI kind l hosts = SZ at *
  generalize hsI kind l hosts = HS_ at *
  generalize errI kind l hosts = ER at *
  generalize hoI kind l * hosts = HH at *
  by_cases hv : vOk kind l hosts
  case neg =>
    have e1 : Hid (RI = 0) := by rw [HI.out, if_neg (fun h => hv h.1)]; rfl
    have e2 : Hid (RE = 2) := by rw [HE.out, if_neg hv]; rfl
    have e3 : ER = 2 := by rw [HR.out, if_neg hv]
    subst e3
    clear HI HE HS HR HVB hv
    go_enter Try.func16, Try.ntmps16
    go_wp2_with fail
    generalize w.alloc (.cells #[.int .i64 kind, .slice sa l.length sc, .int .i64 hosts] 24) = X at *
    refine (HO.out _ HB.out).mono ?_
    rintro e w1 ⟨rfl, hb1⟩
    have HB1 := Lib.hid (HB.out.trans (hb1.mono HB.out.size))
    clear c0 c1 c2 HB hb1 HO Q0
    go_wp2_with fail
    go_ret2
    exact ⟨by rw [e1.out, e2.out]; rfl, HB1.out⟩
  have e3 : ER = 0 := by rw [HR.out, if_pos hv]
  have e4 : HS_ = HH := by rw [HS.out, if_pos hv]
  subst e3 e4
  obtain ⟨b1, b2⟩ := HVB.out hv
  by_cases hlo : host < 0
  case pos =>
    have e1 : Hid (RI = 0) := by rw [HI.out, if_neg (fun h => by omega)]; rfl
    have e2 : Hid (RE = 3) := by rw [HE.out, if_pos hv, if_neg (fun h => by omega)]; rfl
    have hd : decide (host < 0) = true := decide_eq_true hlo
    clear HI HE HS HR HVB hv
    go_enter Try.func16, Try.ntmps16
    go_wp2_with fail
    generalize w.alloc (.cells #[.int .i64 kind, .slice sa l.length sc, .int .i64 hosts] 24) = X at *
    refine (HO.out _ HB.out).mono ?_
    rintro e w1 ⟨rfl, hb1⟩
    have HB1 := Lib.hid (HB.out.trans (hb1.mono HB.out.size))
    clear c0 c1 c2 HB hb1 HO Q0
    go_wp2_with fail
    go_ret2
    exact ⟨by rw [e1.out, e2.out]; rfl, HB1.out⟩
  have hd : decide (host < 0) = false := decide_eq_false hlo
  by_cases hhi : host < HS_
  case neg =>
    have e1 : Hid (RI = 0) := by rw [HI.out, if_neg (fun h => hhi h.2.2)]; rfl
    have e2 : Hid (RE = 3) := by rw [HE.out, if_pos hv, if_neg (fun h => hhi h.2)]; rfl
    have hd2 : decide (HS_ ≤ host) = true := decide_eq_true (by omega)
    clear HI HE HS HR HVB hv
    go_enter Try.func16, Try.ntmps16
    go_wp2_with fail
    generalize w.alloc (.cells #[.int .i64 kind, .slice sa l.length sc, .int .i64 hosts] 24) = X at *
    refine (HO.out _ HB.out).mono ?_
    rintro e w1 ⟨rfl, hb1⟩
    have HB1 := Lib.hid (HB.out.trans (hb1.mono HB.out.size))
    clear c0 c1 c2 HB hb1 HO Q0
    go_wp2_with fail
    go_ret2
    exact ⟨by rw [e1.out, e2.out]; rfl, HB1.out⟩
  have e1 : Hid (RI = host / hosts) := by rw [HI.out, if_pos ⟨hv, by omega, hhi⟩]; rfl
  have e2 : Hid (RE = 0) := by rw [HE.out, if_pos hv, if_pos ⟨by omega, hhi⟩]; rfl
  have hd2 : decide (HS_ ≤ host) = false := decide_eq_false (by omega)
  have hq := i64_quo host hosts (by omega) (by omega) b1
  have hne : hosts ≠ 0 := by omega
  have hdle := Int.ediv_le_self hosts (show 0 ≤ host by omega)
  have hdnn := Int.ediv_nonneg (show 0 ≤ host by omega) (show 0 ≤ hosts by omega)
  have hw : wrap64 (host.tdiv hosts) = host / hosts := by rw [Int.tdiv_eq_ediv_of_nonneg (by omega)]; unfold wrap64; omega
  clear HI HE HS HR HVB hv
  go_enter Try.func16, Try.ntmps16
  go_wp2_with fail
  generalize w.alloc (.cells #[.int .i64 kind, .slice sa l.length sc, .int .i64 hosts] 24) = X at *
  refine (HO.out _ HB.out).mono ?_
  rintro e w1 ⟨rfl, hb1⟩
  have HB1 := Lib.hid (HB.out.trans (hb1.mono HB.out.size))
  have Q1 := Lib.hid (heapB hb1 Q0.out)
  clear c0 c1 c2 HB hb1 HO Q0
  have c2 := cellR 2 Q1.out rfl
  go_wp2_with fail
  go_ret2
  exact ⟨by rw [e1.out, e2.out]; first | rfl | (rw [← hw]; rfl), HB1.out⟩
theorem allBelow_any {w : World} {sa : Option Addr} {l : List Int} (h : Ints w sa l) (sc : Nat) (n : Int) (hn : 0 ≤ n) (hn2 : n ≤ 1000000) : Calls Try.prog 65 #[.int .i64 n, .slice sa l.length sc] w fun e w' => e = .returned (.bool (l.all fun x => decide (0 ≤ x ∧ x ≤ n - 1))) ∧ w = w' := by
  have hlen := h.len
  have HL := Lib.hid h
  have WI := Lib.hid (fun x W => within_any x 0 (n - 1) W)
  obtain ⟨N, hN⟩ : ∃ N, N = l.length := ⟨_, rfl⟩
  have HN := Lib.hid hN
  rw [← hN] at hlen ⊢
  obtain ⟨R, hR⟩ : ∃ R, R = l.all fun x => decide (0 ≤ x ∧ x ≤ n - 1) := ⟨_, rfl⟩
  have HR := Lib.hid hR
  rw [← hR]
  have hw : wrap64 (n - 1) = n - 1 := by unfold wrap64; omega
  clear h hN hR
  go_enter Try.func65, Try.ntmps65
  go_wp2_with fail
  go_loop [9] (fun i => ∃ k : Nat, k ≤ N ∧ i = .int .i64 k ∧ Hid (∀ j (hj : j < l.length), j < k → 0 ≤ l[j] ∧ l[j] ≤ n - 1)) (fun i => N - (intOf i).toNat)
  case atStart => exact ⟨0, Nat.zero_le _, rfl, fun j _ h => by omega⟩
  case round =>
    obtain ⟨k, hk, rfl, HP⟩ := hrel
    by_cases hlt : k < N
    · have hk1 : k < l.length := by rw [← HN.out]; exact hlt
      obtain ⟨g, o, rfl, hc⟩ := HL.out.at_ (ne_nil_of_lt hk1)
      have e0 := hc k hk1
      have HP2 : Hid (0 ≤ l[k] ∧ l[k] ≤ n - 1 → ∀ j (hj : j < l.length), j < k + 1 → 0 ≤ l[j] ∧ l[j] ≤ n - 1) := fun h j hj h2 => by
        by_cases h3 : j < k
        · exact HP.out j hj h3
        · obtain rfl : j = k := by omega
          exact h
      have HNR : Hid (¬ (0 ≤ l[k] ∧ l[k] ≤ n - 1) → R = false) := fun h => by
        rw [HR.out, List.all_eq_false]
        exact ⟨l[k], List.getElem_mem hk1, by simpa using h⟩
      generalize l[k] = x at *
      clear hc hk1 HP
      by_cases hx : 0 ≤ x ∧ x ≤ n - 1
      · have W1 := Lib.hid (fun W => WI.out x W)
        rw [show decide (0 ≤ x ∧ x ≤ n - 1) = true from decide_eq_true hx] at W1
        have HP3 := Lib.hid (HP2.out hx)
        clear hx HP2 HNR
        go_wp2_with fail
        refine (W1.out _).mono ?_
        rintro e w1 ⟨rfl, rfl⟩
        clear W1
        go_wp2_with fail
        go_round
        case rel => exact ⟨k + 1, by omega, by go_num, HP3⟩
        case measure => simp [intOf]; omega
      · have W1 := Lib.hid (fun W => WI.out x W)
        rw [show decide (0 ≤ x ∧ x ≤ n - 1) = false from decide_eq_false hx] at W1
        have HR2 := Lib.hid (HNR.out hx)
        clear hx HP2 HNR
        go_wp2_with fail
        refine (W1.out _).mono ?_
        rintro e w1 ⟨rfl, rfl⟩
        clear W1
        go_wp2_with fail
        go_ret
        exact ⟨by rw [HR2.out]; rfl, rfl⟩
    · have HR2 : Hid (R = true) := by
        show _ = _
        rw [HR.out, List.all_eq_true]
        intro x hx
        obtain ⟨j, hj, rfl⟩ := List.getElem_of_mem hx
        exact decide_eq_true (HP.out j hj (by have := HN.out; omega))
      have hkn : k = N := by omega
      subst hkn
      clear HP
      go_wp2_with fail
      go_ret
      exact ⟨by rw [HR2.out]; rfl, rfl⟩
end Go.Proofs.Ytbhkenphcahifaa
