import Derived.Test.YtbhkenphcahifaaGreatNH
namespace Go.Proofs.YtbhkenphcahifaaGreat
open Go.RowKit Go.Shelf
attribute [local go_sem] Oper.semAt_some
set_option maxRecDepth 100000
set_option maxHeartbeats 4000000

theorem v_kind {kind : Int} {l : List Int} {h : Int} (hv : vOk kind l h) : kind = 1 ∨ kind = 2 ∨ kind = 3 := by
  rcases hv with ⟨h1, _⟩ | ⟨h1, _⟩ | ⟨h1, _⟩
  · exact .inl h1
  · exact .inr (.inl h1)
  · exact .inr (.inr h1)
def errI (kind : Int) (l : List Int) (h : Int) : Int := if vOk kind l h then 0 else 2
def szI (kind : Int) (l : List Int) (h : Int) : Int := if vOk kind l h then swI kind l else 0
def hsI (kind : Int) (l : List Int) (h : Int) : Int := if vOk kind l h then hoI kind l * h else 0
theorem Size_bad {w : World} {sa : Option Addr} {l : List Int} (h : Ints w sa l) (sc : Nat) (kind hosts : Int) (hv : ¬ vOk kind l hosts) :
    Calls Tryz.prog 41 #[.agg #[.int .i64 kind, .slice sa l.length sc, .int .i64 hosts]] w fun e w' => e = .returned (.tuple #[.int .i64 0, .int .i64 0, .int .i64 2]) ∧ Below w.heap.size w w' := by
  have HO : Hid (∀ W, Below w.heap.size w W → Calls Tryz.prog 47 #[.agg #[.int .i64 kind, .slice sa l.length sc, .int .i64 hosts]] W fun e w' => Below W.heap.size W w' ∧ ((vOk kind l hosts ∧ e = .returned (.tuple #[netV kind sa sc l, .int .i64 0])) ∨ (¬ vOk kind l hosts ∧ e = .returned (.tuple #[.nilIface, .int .i64 2])))) := fun W hb => networkOf_any (h.keep hb) sc kind hosts
  have HB := Lib.hid ((Below.refl w.heap.size w).alloc (Nat.le_refl _) (.cells #[.int .i64 kind, .slice sa l.length sc, .int .i64 hosts] 24))
  have q0 := heap_alloc_new w (.cells #[.int .i64 kind, .slice sa l.length sc, .int .i64 hosts] 24)
  have c0 := cellR 0 q0 rfl
  have c1 := cellR 1 q0 rfl
  have c2 := cellR 2 q0 rfl
  clear h q0
  go_enter Tryz.func41, Tryz.ntmps41
  go_wp2_with fail
  generalize w.alloc (.cells #[.int .i64 kind, .slice sa l.length sc, .int .i64 hosts] 24) = X at *
  refine (HO.out _ HB.out).mono ?_
  rintro e w1 ⟨hb1, ⟨hn, _⟩ | ⟨_, rfl⟩⟩
  · exact absurd hn hv
  · have HB1 := Lib.hid (HB.out.trans (hb1.mono HB.out.size))
    clear c0 c1 c2 HB hb1 HO
    go_wp2_with fail
    go_ret3
    exact ⟨rfl, HB1.out⟩
theorem Size_any {w : World} {sa : Option Addr} {l : List Int} (h : Ints w sa l) (sc : Nat) (kind hosts : Int) :
    Calls Tryz.prog 41 #[.agg #[.int .i64 kind, .slice sa l.length sc, .int .i64 hosts]] w fun e w' => e = .returned (.tuple #[.int .i64 (szI kind l hosts), .int .i64 (hsI kind l hosts), .int .i64 (errI kind l hosts)]) ∧ Below w.heap.size w w' := by
  unfold szI hsI errI
  by_cases hv : vOk kind l hosts
  · rw [if_pos hv, if_pos hv, if_pos hv]
    rcases v_kind hv with rfl | rfl | rfl
    · exact Size1_any h sc hosts hv
    · exact Size2_any h sc hosts hv
    · exact Size3_any h sc hosts hv
  · rw [if_neg hv, if_neg hv, if_neg hv]
    exact Size_bad h sc kind hosts hv
/-- the switch of a host, or the error -/
def homI (kind : Int) (l : List Int) (h host : Int) : Int := if vOk kind l h ∧ 0 ≤ host ∧ host < hoI kind l * h then host / h else 0
def homE (kind : Int) (l : List Int) (h host : Int) : Int := if vOk kind l h then (if 0 ≤ host ∧ host < hoI kind l * h then 0 else 3) else 2
theorem allBelow_any {w : World} {sa : Option Addr} {l : List Int} (h : Ints w sa l) (sc : Nat) (n : Int) (hn : 0 ≤ n) (hn2 : n ≤ 1000000) : Calls Tryz.prog 97 #[.int .i64 n, .slice sa l.length sc] w fun e w' => e = .returned (.bool (l.all fun x => decide (0 ≤ x ∧ x ≤ n - 1))) ∧ w = w' := by
  have hlen := h.len
  have HL := Lib.hid h
  have WI := Lib.hid (fun x W => within_any x 0 (n - 1) W)
  obtain ⟨N, hN⟩ : ∃ N, N = l.length := ⟨_, rfl⟩
  have HN := Lib.hid hN
  rw [← hN] at hlen ⊢
  obtain ⟨R, hR⟩ : ∃ R, R = l.all fun x => decide (0 ≤ x ∧ x ≤ n - 1) := ⟨_, rfl⟩
  have HR := Lib.hid hR
  rw [← hR]
  have hw : wrap64 (n - 1) = n - 1 := by unfold wrap64; omega
  clear h hN hR
  go_enter Tryz.func97, Tryz.ntmps97
  go_wp2_with fail
  go_loop [9] (fun i => ∃ k : Nat, k ≤ N ∧ i = .int .i64 k ∧ Hid (∀ j (hj : j < l.length), j < k → 0 ≤ l[j] ∧ l[j] ≤ n - 1)) (fun i => N - (intOf i).toNat)
  case atStart => exact ⟨0, Nat.zero_le _, rfl, fun j _ h => by omega⟩
  case round =>
    obtain ⟨k, hk, rfl, HP⟩ := hrel
    by_cases hlt : k < N
    · have hk1 : k < l.length := by rw [← HN.out]; exact hlt
      obtain ⟨g, o, rfl, hc⟩ := HL.out.at_ (ne_nil_of_lt hk1)
      have e0 := hc k hk1
      have HP2 : Hid (0 ≤ l[k] ∧ l[k] ≤ n - 1 → ∀ j (hj : j < l.length), j < k + 1 → 0 ≤ l[j] ∧ l[j] ≤ n - 1) := fun h j hj h2 => by
        by_cases h3 : j < k
        · exact HP.out j hj h3
        · obtain rfl : j = k := by omega
          exact h
      have HNR : Hid (¬ (0 ≤ l[k] ∧ l[k] ≤ n - 1) → R = false) := fun h => by
        rw [HR.out, List.all_eq_false]
        exact ⟨l[k], List.getElem_mem hk1, by simpa using h⟩
      generalize l[k] = x at *
      clear hc hk1 HP
      by_cases hx : 0 ≤ x ∧ x ≤ n - 1
      · have W1 := Lib.hid (fun W => WI.out x W)
        rw [show decide (0 ≤ x ∧ x ≤ n - 1) = true from decide_eq_true hx] at W1
        have HP3 := Lib.hid (HP2.out hx)
        clear hx HP2 HNR
        go_wp2_with fail
        refine (W1.out _).mono ?_
        rintro e w1 ⟨rfl, rfl⟩
        clear W1
        go_wp2_with fail
        go_round
        case rel => exact ⟨k + 1, by omega, by go_num, HP3⟩
        case measure => simp [intOf]; omega
      · have W1 := Lib.hid (fun W => WI.out x W)
        rw [show decide (0 ≤ x ∧ x ≤ n - 1) = false from decide_eq_false hx] at W1
        have HR2 := Lib.hid (HNR.out hx)
        clear hx HP2 HNR
        go_wp2_with fail
        refine (W1.out _).mono ?_
        rintro e w1 ⟨rfl, rfl⟩
        clear W1
        go_wp2_with fail
        go_ret
        exact ⟨by rw [HR2.out]; rfl, rfl⟩
    · have HR2 : Hid (R = true) := by
        show _ = _
        rw [HR.out, List.all_eq_true]
        intro x hx
        obtain ⟨j, hj, rfl⟩ := List.getElem_of_mem hx
        exact decide_eq_true (HP.out j hj (by have := HN.out; omega))
      have hkn : k = N := by omega
      subst hkn
      clear HP
      go_wp2_with fail
      go_ret
      exact ⟨by rw [HR2.out]; rfl, rfl⟩
end Go.Proofs.YtbhkenphcahifaaGreat
