import Derived.Test.YtbhkenphcahifaaGreatNB
namespace Go.Proofs.YtbhkenphcahifaaGreat
open Go.RowKit Go.Shelf
attribute [local go_sem] Oper.semAt_some
set_option maxRecDepth 100000
set_option maxHeartbeats 4000000

/-- the product of a list -/
def prodI (l : List Int) : Int := l.foldl (· * ·) 1
theorem prodI_snoc (l : List Int) (x : Int) : prodI (l ++ [x]) = prodI l * x := by simp [prodI]
/-- is a torus valid -/
def tOk (l : List Int) (h : Int) : Prop := (1 ≤ (l.length : Int) ∧ (l.length : Int) ≤ 4) ∧ (1 ≤ h ∧ h ≤ 4) ∧ (∀ x ∈ l, 2 ≤ x ∧ x ≤ 16) ∧ prodI l ≤ 256
instance (l : List Int) (h : Int) : Decidable (tOk l h) := by unfold tOk; infer_instance
theorem mul_bound {p x B : Int} (h1 : 1 ≤ p) (h2 : p ≤ B) (h3 : 2 ≤ x) (h4 : x ≤ 16) : 1 ≤ p * x ∧ p * x ≤ B * 16 := by
  constructor
  · have := Int.mul_le_mul h1 (show (1 : Int) ≤ x by omega) (by decide) (by omega)
    omega
  · exact Int.mul_le_mul h2 h4 (by omega) (by omega)
theorem lim16 {k : Nat} (h : k ≤ 4) : (16 : Int) ^ k ≤ 65536 := by
  have : k = 0 ∨ k = 1 ∨ k = 2 ∨ k = 3 ∨ k = 4 := by omega
  rcases this with rfl | rfl | rfl | rfl | rfl <;> decide
theorem put2 {w : World} {b : Nat} {a0 a1 v0 v1 : Value} {t : TypeId} (h : w.heap[b]? = some (.cells #[a0, a1] t (0, 0))) : ((w.setCell ⟨b, 0, none⟩ v0).setCell ⟨b, 1, none⟩ v1).heap[b]? = some (.cells #[v0, v1] t (0, 0)) := by
  have h1 := heap_setCell_same w b 0 _ _ v0 h
  rw [heap_setCell_same _ b 1 _ _ v1 h1]
  rfl
theorem put3 {w : World} {b : Nat} {a0 a1 a2 v0 v1 v2 : Value} {t : TypeId} (h : w.heap[b]? = some (.cells #[a0, a1, a2] t (0, 0))) : (((w.setCell ⟨b, 0, none⟩ v0).setCell ⟨b, 1, none⟩ v1).setCell ⟨b, 2, none⟩ v2).heap[b]? = some (.cells #[v0, v1, v2] t (0, 0)) := by
  have h1 := heap_setCell_same w b 0 _ _ v0 h
  have h2 := heap_setCell_same _ b 1 _ _ v1 h1
  rw [heap_setCell_same _ b 2 _ _ v2 h2]
  rfl
theorem cellR {w : World} {b : Nat} {cs : Array Value} {t : TypeId} {fr : Nat × Nat} {v : Value} (j : Nat) (h : w.heap[b]? = some (.cells cs t fr)) (hv : cs[j]? = some v) : w.cell? ⟨b, j, none⟩ = some v := (cell_of_row w b j _ _ _ h).trans hv
theorem heapB {w w' : World} {b : Nat} {o : Obj} (hb : Below w.heap.size w w') (h : w.heap[b]? = some o) : w'.heap[b]? = some o := (hb.block b (Array.getElem?_eq_some_iff.1 h).1).trans h
theorem kcell {w w' : World} (hb : Below w.heap.size w w') {p : Addr} {v : Value} (h : w.cell? p = some v) : w'.cell? p = some v := (hb.cell (block_lt_of_cell h)).trans h
/-- two new blocks -/
theorem twoN (w : World) (a b : Obj) : Below w.heap.size w ((w.alloc a).alloc b) ∧ ((w.alloc a).alloc b).heap[w.heap.size]? = some a ∧ ((w.alloc a).alloc b).heap[w.heap.size + 1]? = some b ∧ ((w.alloc a).alloc b).heap.size = w.heap.size + 2 := by
  refine ⟨((Below.refl _ _).alloc (Nat.le_refl _) _).alloc (by simp) _, (Below.heap_alloc _ _ _ (by simp)).trans (heap_alloc_new w _), ?_, by simp⟩
  have := heap_alloc_new (w.alloc a) b
  rwa [show (w.alloc a).heap.size = w.heap.size + 1 by simp] at this
theorem info105 : (Tryz.prog.info? 138).map (·.size) = some 2 := by kernel_rfl
theorem torusOf_any {w : World} {sa : Option Addr} {l : List Int} (h : Ints w sa l) (sc : Nat) (kind hosts : Int) :
    Calls Tryz.prog 89 #[.agg #[.int .i64 kind, .slice sa l.length sc, .int .i64 hosts]] w fun e w' => Below w.heap.size w w' ∧ ∃ (a : Option Addr) (n c : Nat) (m : Int), e = .returned (.tuple #[.agg #[.slice a n c, .int .i64 m], .bool (decide (tOk l hosts))]) ∧ (tOk l hosts → a = sa ∧ n = l.length ∧ c = sc ∧ m = prodI l) := by
  have hlen := h.len
  have HL := Lib.hid h
  obtain ⟨N, hN⟩ : ∃ N, N = l.length := ⟨_, rfl⟩
  have HN := Lib.hid hN
  rw [← hN] at hlen ⊢
  obtain ⟨hbx, q0, q1, hz⟩ := twoN w (.cells #[.int .i64 kind, .slice sa N sc, .int .i64 hosts] 24) (.cells #[.slice none 0 0, .int .i64 0] 138)
  have HB := Lib.hid hbx
  have Q0 := Lib.hid q0
  have Q1 := Lib.hid q1
  have HT : Hid (tOk l hosts = ((1 ≤ (N : Int) ∧ (N : Int) ≤ 4) ∧ (1 ≤ hosts ∧ hosts ≤ 4) ∧ (∀ x ∈ l, 2 ≤ x ∧ x ≤ 16) ∧ prodI l ≤ 256)) := by show _ = _; unfold tOk; rw [hN]
  have WI := Lib.hid (fun x lo hi W => within_any x lo hi W)
  clear h hN hbx
  have c1 := cellR 1 q0 rfl
  have c2 := cellR 2 q0 rfl
  have d0 := cellR 0 q1 rfl
  have d1 := cellR 1 q1 rfl
  have f0 := frozen_of_row _ _ 0 _ _ q1
  have f1 := frozen_of_row _ _ 1 _ _ q1
  have l1 := (Array.getElem?_eq_some_iff.1 q1).1
  clear q0 q1
  by_cases g1 : 1 ≤ (N : Int) ∧ (N : Int) ≤ 4
  case neg =>
    have HV : Hid (decide (tOk l hosts) = false ∧ ¬ tOk l hosts) := by
      have : ¬ tOk l hosts := by rw [HT.out]; exact fun h => g1 h.1
      exact ⟨decide_eq_false this, this⟩
    have hd : decide (1 ≤ (N : Int) ∧ (N : Int) ≤ 4) = false := decide_eq_false g1
    have W1 := Lib.hid (fun W => WI.out (N : Int) 1 4 W)
    rw [hd] at W1
    clear WI g1 hd HT
    go_enter Tryz.func89, Tryz.ntmps89
    go_wp2_with fail
    generalize ((w.alloc (.cells #[.int .i64 kind, .slice sa N sc, .int .i64 hosts] 24)).alloc (.cells #[.slice none 0 0, .int .i64 0] 138)) = X at *
    refine (W1.out _).mono ?_
    rintro e w1 ⟨rfl, rfl⟩
    clear W1
    go_wp2_with fail
    have hr := put2 (v0 := .slice none 0 0) (v1 := .int .i64 0) Q1.out
    have hb9 := (HB.out.setCell (p := ⟨w.heap.size + 1, 0, none⟩) (Nat.le_succ _) (.slice none 0 0)).setCell (p := ⟨w.heap.size + 1, 1, none⟩) (Nat.le_succ _) (.int .i64 0)
    refine bodyPost_ret (v := .tuple #[.agg #[.slice none 0 0, .int .i64 0], .bool false]) ?_ rfl ⟨hb9, none, 0, 0, 0, by rw [HV.out.1], fun h => absurd h HV.out.2⟩
    simp [results, Act.put, run_loadVar_row _ _ 138 138 _ _ _ hr Tryz.underlying138 rfl info105, Tryz.results89, asAddr]
  have hd1 : decide (1 ≤ (N : Int) ∧ (N : Int) ≤ 4) = true := decide_eq_true g1
  have W1 := Lib.hid (fun W => WI.out (N : Int) 1 4 W)
  rw [hd1] at W1
  by_cases g2 : 1 ≤ hosts ∧ hosts ≤ 4
  case neg =>
    have HV : Hid (decide (tOk l hosts) = false ∧ ¬ tOk l hosts) := by
      have : ¬ tOk l hosts := by rw [HT.out]; exact fun h => g2 h.2.1
      exact ⟨decide_eq_false this, this⟩
    have hd : decide (1 ≤ hosts ∧ hosts ≤ 4) = false := decide_eq_false g2
    have W2 := Lib.hid (fun W => WI.out hosts 1 4 W)
    rw [hd] at W2
    clear WI g1 g2 hd hd1 HT
    go_enter Tryz.func89, Tryz.ntmps89
    go_wp2_with fail
    generalize ((w.alloc (.cells #[.int .i64 kind, .slice sa N sc, .int .i64 hosts] 24)).alloc (.cells #[.slice none 0 0, .int .i64 0] 138)) = X at *
    refine (W1.out _).mono ?_
    rintro e w1 ⟨rfl, rfl⟩
    clear W1
    go_wp2_with fail
    refine (W2.out _).mono ?_
    rintro e w1 ⟨rfl, rfl⟩
    clear W2
    go_wp2_with fail
    have hr := put2 (v0 := .slice none 0 0) (v1 := .int .i64 0) Q1.out
    have hb9 := (HB.out.setCell (p := ⟨w.heap.size + 1, 0, none⟩) (Nat.le_succ _) (.slice none 0 0)).setCell (p := ⟨w.heap.size + 1, 1, none⟩) (Nat.le_succ _) (.int .i64 0)
    refine bodyPost_ret (v := .tuple #[.agg #[.slice none 0 0, .int .i64 0], .bool false]) ?_ rfl ⟨hb9, none, 0, 0, 0, by rw [HV.out.1], fun h => absurd h HV.out.2⟩
    simp [results, Act.put, run_loadVar_row _ _ 138 138 _ _ _ hr Tryz.underlying138 rfl info105, Tryz.results89, asAddr]
  have hd2 : decide (1 ≤ hosts ∧ hosts ≤ 4) = true := decide_eq_true g2
  have W2 := Lib.hid (fun W => WI.out hosts 1 4 W)
  rw [hd2] at W2
  have G1 := Lib.hid g1
  have G2 := Lib.hid g2
  clear g1 g2 hd1 hd2
  go_enter Tryz.func89, Tryz.ntmps89
  go_wp2_with fail
  generalize ((w.alloc (.cells #[.int .i64 kind, .slice sa N sc, .int .i64 hosts] 24)).alloc (.cells #[.slice none 0 0, .int .i64 0] 138)) = X at *
  refine (W1.out _).mono ?_
  rintro e w1 ⟨rfl, rfl⟩
  clear W1
  go_wp2_with fail
  refine (W2.out _).mono ?_
  rintro e w1 ⟨rfl, rfl⟩
  clear W2
  go_wp2_with fail
  go_loop [4, 22] (fun p i => ∃ (k : Nat) (q : Int), k ≤ N ∧ i = .int .i64 k ∧ p = .int .i64 q ∧ Hid (q = prodI (l.take k)) ∧ 1 ≤ q ∧ Hid (q ≤ 16 ^ k) ∧ Hid (∀ j (hj : j < l.length), j < k → 2 ≤ l[j] ∧ l[j] ≤ 16)) (fun _ i => N - (intOf i).toNat)
  case atStart => exact ⟨0, 1, Nat.zero_le _, rfl, rfl, rfl, by decide, by show (1 : Int) ≤ 16 ^ 0; decide, fun j _ h => by omega⟩
  case round =>
    obtain ⟨k, q, hk, rfl, rfl, HQ, hq1, HQ2, HP⟩ := hrel
    by_cases hlt : k < N
    · have hk1 : k < l.length := by rw [← HN.out]; exact hlt
      obtain ⟨g, o, rfl, hc⟩ := (HL.out.keep HB.out).at_ (ne_nil_of_lt hk1)
      have e0 := hc k hk1
      have HPS : Hid (prodI (l.take (k + 1)) = prodI (l.take k) * l[k]) := by
        show _ = _
        rw [List.take_succ_eq_append_getElem hk1, prodI_snoc]
      have HP2 : Hid (2 ≤ l[k] ∧ l[k] ≤ 16 → ∀ j (hj : j < l.length), j < k + 1 → 2 ≤ l[j] ∧ l[j] ≤ 16) := fun h j hj h2 => by
        by_cases h3 : j < k
        · exact HP.out j hj h3
        · obtain rfl : j = k := by omega
          exact h
      have HNB : Hid (¬ (2 ≤ l[k] ∧ l[k] ≤ 16) → ¬ tOk l hosts) := fun h h2 => by
        rw [HT.out] at h2
        exact h (h2.2.2.1 _ (List.getElem_mem hk1))
      generalize l[k] = x at *
      clear hc hk1 HP
      by_cases hx : 2 ≤ x ∧ x ≤ 16
      · have hd : decide (2 ≤ x ∧ x ≤ 16) = true := decide_eq_true hx
        have W3 := Lib.hid (fun W => WI.out x 2 16 W)
        rw [hd] at W3
        obtain ⟨hm1, hm2⟩ := mul_bound hq1 HQ2.out hx.1 hx.2
        have hl5 := lim16 (show k + 1 ≤ 4 by have := G1.out; omega)
        rw [Int.pow_succ] at hl5
        have hw : wrap64 (q * x) = q * x := by
          generalize q * x = z at *
          generalize (16 : Int) ^ k * 16 = y at *
          unfold wrap64
          omega
        have HQ3 : Hid (q * x = prodI (l.take (k + 1))) := by show _ = _; rw [HPS.out, ← HQ.out]
        have HQ4 : Hid (q * x ≤ 16 ^ (k + 1)) := by show _ ≤ _; rw [Int.pow_succ]; exact hm2
        have HP3 := Lib.hid (HP2.out hx)
        clear hd hx hm2 hl5 HPS HP2 HNB HQ HQ2
        go_wp2_with fail
        refine (W3.out _).mono ?_
        rintro e w1 ⟨rfl, rfl⟩
        clear W3
        go_wp2_with fail
        go_round
        case rel => exact ⟨k + 1, q * x, by omega, by go_num, by rw [hw], HQ3, hm1, HQ4, HP3⟩
        case measure => simp [intOf]; omega
      · have hd : decide (2 ≤ x ∧ x ≤ 16) = false := decide_eq_false hx
        have W3 := Lib.hid (fun W => WI.out x 2 16 W)
        rw [hd] at W3
        have HV : Hid (decide (tOk l hosts) = false ∧ ¬ tOk l hosts) := ⟨decide_eq_false (HNB.out hx), HNB.out hx⟩
        clear hd hx HPS HP2 HNB HQ HQ2 WI
        go_wp2_with fail
        refine (W3.out _).mono ?_
        rintro e w1 ⟨rfl, rfl⟩
        clear W3
        go_wp2_with fail
        have hr := put2 (v0 := .slice none 0 0) (v1 := .int .i64 0) Q1.out
        have hb9 := (HB.out.setCell (p := ⟨w.heap.size + 1, 0, none⟩) (Nat.le_succ _) (.slice none 0 0)).setCell (p := ⟨w.heap.size + 1, 1, none⟩) (Nat.le_succ _) (.int .i64 0)
        refine bodyPost_ret (v := .tuple #[.agg #[.slice none 0 0, .int .i64 0], .bool false]) ?_ rfl ⟨hb9, none, 0, 0, 0, by rw [HV.out.1], fun h => absurd h HV.out.2⟩
        simp [results, Act.put, run_loadVar_row _ _ 138 138 _ _ _ hr Tryz.underlying138 rfl info105, Tryz.results89, asAddr]
    · have hkN : k = N := by omega
      have hall : ∀ x ∈ l, 2 ≤ x ∧ x ≤ 16 := fun x hx => by
        obtain ⟨j, hj, rfl⟩ := List.getElem_of_mem hx
        exact HP.out j hj (by have := HN.out; omega)
      have hqp : q = prodI l := by rw [HQ.out, hkN, HN.out, List.take_length]
      have HD : Hid (decide (q ≤ 256) = decide (tOk l hosts)) := by
        show _ = _
        rw [decide_eq_decide, HT.out, hqp]
        exact ⟨fun h => ⟨G1.out, G2.out, hall, h⟩, fun h => h.2.2.2⟩
      have HQP := Lib.hid hqp
      clear hall hqp HQ HQ2 HP HT
      by_cases h256 : q ≤ 256
      · have hrt : decide (tOk l hosts) = true := by rw [← HD.out]; exact decide_eq_true h256
        have HRT := Lib.hid hrt
        clear hrt
        go_wp2_with fail
        have hr := put2 (v0 := .slice sa N sc) (v1 := .int .i64 q) Q1.out
        have hb9 := (HB.out.setCell (p := ⟨w.heap.size + 1, 0, none⟩) (Nat.le_succ _) (.slice sa N sc)).setCell (p := ⟨w.heap.size + 1, 1, none⟩) (Nat.le_succ _) (.int .i64 q)
        refine bodyPost_ret (v := .tuple #[.agg #[.slice sa N sc, .int .i64 q], .bool true]) ?_ rfl ⟨hb9, sa, N, sc, q, by rw [HRT.out], fun _ => ⟨rfl, rfl, rfl, HQP.out⟩⟩
        simp [results, Act.put, run_loadVar_row _ _ 138 138 _ _ _ hr Tryz.underlying138 rfl info105, Tryz.results89, asAddr]
      · have hrt : decide (tOk l hosts) = false := by rw [← HD.out]; exact decide_eq_false h256
        have HRT := Lib.hid hrt
        clear hrt
        go_wp2_with fail
        have hr := put2 (v0 := .slice sa N sc) (v1 := .int .i64 q) Q1.out
        have hb9 := (HB.out.setCell (p := ⟨w.heap.size + 1, 0, none⟩) (Nat.le_succ _) (.slice sa N sc)).setCell (p := ⟨w.heap.size + 1, 1, none⟩) (Nat.le_succ _) (.int .i64 q)
        refine bodyPost_ret (v := .tuple #[.agg #[.slice sa N sc, .int .i64 q], .bool false]) ?_ rfl ⟨hb9, sa, N, sc, q, by rw [HRT.out], fun _ => ⟨rfl, rfl, rfl, HQP.out⟩⟩
        simp [results, Act.put, run_loadVar_row _ _ 138 138 _ _ _ hr Tryz.underlying138 rfl info105, Tryz.results89, asAddr]
end Go.Proofs.YtbhkenphcahifaaGreat
