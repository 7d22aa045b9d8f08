import Derived.Test.YtjcdnaandbockaaGreatGs
import Derived.Test.YtjcdnaandbockaaGreatGj
import Derived.Test.YtjcdnaandbockaaGreatGk
namespace Go.Proofs.YtjcdnaandbockaaGreat
open Go.RowKit Go.Shelf
attribute [local go_sem] Oper.semAt_some
set_option maxRecDepth 100000
set_option maxHeartbeats 4000000

theorem pick_eq (op : Int) (x y : Nat) (hx : x < 18446744073709551616) (hy : y < 18446744073709551616) (ho : op = 3 ∨ op = 4) :
    realOp op x y = if (nanB x || nanB y) = true then 9221120237041090560 else if decide (cmpN (levelN y) (levelN x) < 0) = (op == 3) then y else x := by
  have hinj : nanB x = false → nanB y = false → levelN x = levelN y → x = y := by
    intro h1 h2
    unfold levelN oneN
    simp only [h1, h2, Bool.false_eq_true, if_false]
    split <;> split <;> omega
  unfold realOp
  rcases ho with rfl | rfl
  · rw [if_neg (by decide), if_pos rfl]
    unfold pickN
    cases hnx : nanB x <;> cases hny : nanB y <;> simp only [Bool.or_self, Bool.or_true, Bool.or_false, Bool.false_eq_true, if_false, if_true]
    have := hinj hnx hny
    unfold cmpN
    rcases Nat.lt_trichotomy (levelN x) (levelN y) with h | h | h
    · simp [h, show ¬ levelN y < levelN x by omega]
    · simp [h, this h]
    · simp [h, show ¬ levelN x < levelN y by omega]
  · rw [if_neg (by decide), if_neg (by decide)]
    unfold pickN
    cases hnx : nanB x <;> cases hny : nanB y <;> simp only [Bool.or_self, Bool.or_true, Bool.or_false, Bool.false_eq_true, if_false, if_true]
    have := hinj hnx hny
    unfold cmpN
    rcases Nat.lt_trichotomy (levelN x) (levelN y) with h | h | h
    · simp [h, show ¬ levelN y < levelN x by omega]
    · simp [h, this h]
    · simp [h, show ¬ levelN x < levelN y by omega]
theorem rreals_pick (op : Int) (x y : Nat) (hx : x < 18446744073709551616) (hy : y < 18446744073709551616) (ho : op = 3 ∨ op = 4) (w : World) : Calls Tryz.prog 61 #[.int .i64 op, .int .u64 x, .int .u64 y] w fun e w' => e = .returned (.int .u64 ((realOp op x y : Nat) : Int)) ∧ w = w' := by
  have HR := Lib.hid (pick_eq op x y hx hy ho)
  obtain ⟨R, hR⟩ : ∃ R, R = realOp op x y := ⟨_, rfl⟩
  rw [← hR] at HR ⊢
  clear hR
  have HNX := Lib.hid (fun w => risNaN_any x hx w)
  have HNY := Lib.hid (fun w => risNaN_any y hy w)
  have HC := Lib.hid (fun w => rcompare_any y x hy hx w)
  clear hx hy
  generalize nanB x = nx at *
  generalize nanB y = ny at *
  generalize cmpN (levelN y) (levelN x) = c at *
  cases nx with
  | true =>
    have HR2 : Hid (R = 9221120237041090560) := HR.out
    clear HR
    rcases ho with rfl | rfl
    all_goals
      go_enter Tryz.func61, Tryz.ntmps61
      go_wp2_with fail
      refine (HNX.out _).mono ?_
      rintro e w1 ⟨rfl, rfl⟩
      go_wp2_with fail
      go_ret
      exact ⟨by rw [HR2.out]; rfl, rfl⟩
  | false =>
    cases ny with
    | true =>
      have HR2 : Hid (R = 9221120237041090560) := HR.out
      clear HR
      rcases ho with rfl | rfl
      all_goals
        go_enter Tryz.func61, Tryz.ntmps61
        go_wp2_with fail
        refine (HNX.out _).mono ?_
        rintro e w1 ⟨rfl, rfl⟩
        go_wp2_with fail
        refine (HNY.out _).mono ?_
        rintro e w2 ⟨rfl, rfl⟩
        go_wp2_with fail
        go_ret
        exact ⟨by rw [HR2.out]; rfl, rfl⟩
    | false =>
      have HR1 : Hid (R = if decide (c < 0) = (op == 3) then y else x) := HR.out
      clear HR
      rcases ho with rfl | rfl <;> by_cases hc : c < 0
      all_goals
        first | (have d1 : decide (c < 0) = true := decide_eq_true hc) | (have d1 : decide (c < 0) = false := decide_eq_false hc)
        rw [d1] at HR1
        have HR2 := Lib.hid HR1.out
        clear HR1 hc
        go_enter Tryz.func61, Tryz.ntmps61
        go_wp2_with fail
        refine (HNX.out _).mono ?_
        rintro e w1 ⟨rfl, rfl⟩
        go_wp2_with fail
        refine (HNY.out _).mono ?_
        rintro e w2 ⟨rfl, rfl⟩
        go_wp2_with fail
        refine (HC.out _).mono ?_
        rintro e w3 ⟨rfl, rfl⟩
        go_wp2_with fail
        go_ret
        exact ⟨by rw [HR2.out]; rfl, rfl⟩
end Go.Proofs.YtjcdnaandbockaaGreat

namespace Go.Proofs.YtjcdnaandbockaaGreat
open Go.RowKit Go.Shelf
attribute [local go_sem] Oper.semAt_some
set_option maxRecDepth 100000
set_option maxHeartbeats 4000000

theorem join_zero {f : Facts} (hf : f.Ok) : joinF zeroF f = f := by
  obtain ⟨V, s, z⟩ := f
  have h := hf.V
  unfold joinF zeroF
  simp only [Nat.zero_add, Nat.zero_or, Nat.zero_max]
  rw [Nat.mod_eq_of_lt h]
theorem rm_zero {x : Nat} (hx : x < 18446744073709551616) : rmF zeroF (factsN x) = factsN x := by
  have ho := factsN_ok hx
  unfold rmF
  rw [if_pos]
  · exact join_zero ho
  · rw [show zeroF.V + (factsN x).V = (factsN x).V from Nat.zero_add _, Nat.mod_eq_of_lt ho.V, fit_iff ho.V, abs_iv ho.V]
    exact mid_le (factsN_abs hx)
theorem rm_two {x y : Nat} (hx : x < 18446744073709551616) (hy : y < 18446744073709551616) : rmF (factsN x) (factsN y) = joinF (factsN x) (factsN y) := by
  unfold rmF
  rw [if_pos]
  rw [fit_iff (Nat.mod_lt _ big_pos), top_eq]
  exact join2_abs hx hy
theorem rreals_sum (x y : Nat) (hx : x < 18446744073709551616) (hy : y < 18446744073709551616) (w : World) : Calls Tryz.prog 61 #[.int .i64 1, .int .u64 x, .int .u64 y] w fun e w' => e = .returned (.int .u64 ((realOp 1 x y : Nat) : Int)) ∧ Below w.heap.size w w' := by
  have h0 : Below w.heap.size w (w.alloc (.cells (qA false none 0 0 false false false 0) 48)) := (Below.refl _ _).alloc (Nat.le_refl _) _
  have HB := Lib.hid h0
  have HA := Lib.hid (radd22_any (racc_new w) ⟨big_pos, by decide, by decide⟩ hx)
  have hz := rm_zero hx
  rw [hz] at HA
  clear h0 hz
  go_enter Tryz.func61, Tryz.ntmps61
  go_wp2_with fail
  refine HA.out.mono ?_
  rintro e w1 ⟨rfl, hA1, hS1⟩
  have HA2 := Lib.hid (radd22_any hA1 (factsN_ok hx) hy)
  rw [rm_two hx hy] at HA2
  have HS1 := Lib.hid hS1
  clear hA1 hS1 HA
  go_wp2_with fail
  refine HA2.out.mono ?_
  rintro e w2 ⟨rfl, hA1, hS1⟩
  have HV := Lib.hid (rvalue22_any hA1 (joinF_ok (factsN_ok hx) (factsN_ok hy)) (poss_join (poss_facts x) (poss_facts y) (factsN_ok hx) (factsN_ok hy)))
  have HS2 := Lib.hid (HS1.out.trans hS1)
  clear hA1 hS1 HA2 HS1
  go_wp2_with fail
  refine HV.out.mono ?_
  rintro e w3 ⟨rfl, rfl⟩
  go_wp2_with fail
  go_ret
  exact ⟨rfl, HB.out.trans (HS2.out.below (Nat.le_refl _) (by simp))⟩
end Go.Proofs.YtjcdnaandbockaaGreat

namespace Go.Proofs.YtjcdnaandbockaaGreat
open Go.RowKit Go.Shelf
attribute [local go_sem] Oper.semAt_some
set_option maxRecDepth 100000
set_option maxHeartbeats 4000000

theorem rreals_any (op : Int) (x y : Nat) (hx : x < 18446744073709551616) (hy : y < 18446744073709551616) (ho : op = 1 ∨ op = 3 ∨ op = 4) (w : World) : Calls Tryz.prog 61 #[.int .i64 op, .int .u64 x, .int .u64 y] w fun e w' => e = .returned (.int .u64 ((realOp op x y : Nat) : Int)) ∧ Below w.heap.size w w' := by
  rcases ho with rfl | ho
  · exact rreals_sum x y hx hy w
  · exact (rreals_pick op x y hx hy ho w).mono fun e w' h => ⟨h.1, h.2 ▸ Below.refl _ _⟩
theorem rresult_any (op kind : Int) (u v : Vl) (hu : u.Ok) (hv : v.Ok) (hk : kind = 1 ∨ kind = 2 ∨ kind = 3) (ho : op ∈ keysOf kind) (w : World) : Calls Tryz.prog 37 #[.int .i64 op, .int .i64 kind, vA u, vA v] w fun e w' => e = .returned (vA (opV op kind u v)) ∧ Below w.heap.size w w' := by
  have HP := Lib.hid (fun h W => rpairs_any op u v hu hv h W)
  obtain ⟨x, p⟩ := u
  obtain ⟨y, q⟩ := v
  obtain ⟨hb, h1, h2, h3, hz⟩ := three w (.cells #[.int .u64 x, .int .i64 p] 24) (.cells #[.int .u64 y, .int .i64 q] 24) (.cells #[.int .u64 0, .int .i64 0] 24)
  have HI := Lib.hid (fun h W => rints_any op x y hu.x hv.x h W)
  have HRe := Lib.hid (fun h W => rreals_any op x y hu.x hv.x h W)
  have HV : Hid (opV op kind ⟨x, p⟩ ⟨y, q⟩ = if kind = 1 then ⟨intOp op x y, 0⟩ else if kind = 2 then ⟨realOp op x y, 0⟩ else opV op 3 ⟨x, p⟩ ⟨y, q⟩) := by
    show _ = _
    unfold opV
    simp only [show ¬ ((3 : Int) = 1) by decide, show ¬ ((3 : Int) = 2) by decide, if_false]
  obtain ⟨R, hR⟩ : ∃ R, R = opV op kind ⟨x, p⟩ ⟨y, q⟩ := ⟨_, rfl⟩
  rw [← hR] at HV ⊢
  clear hR hu hv
  generalize intOp op x y = NI at *
  generalize realOp op x y = NR at *
  generalize opV op 3 ⟨x, p⟩ ⟨y, q⟩ = NP at *
  have HB := Lib.hid hb
  have H3 := Lib.hid h3
  have x0 := cellR 0 h1 rfl
  have x1 := cellR 1 h1 rfl
  have y0 := cellR 0 h2 rfl
  have y1 := cellR 1 h2 rfl
  clear hb h1 h2 h3
  unfold vA at HP ⊢
  rcases hk with rfl | rfl | rfl
  · have hop : 1 ≤ op ∧ op ≤ 9 := by simp [keysOf] at ho; omega
    have HR : Hid (R = ⟨NI, 0⟩) := HV.out
    have HC := Lib.hid (HI.out hop)
    clear HV HP HI HRe hop ho
    go_enter Tryz.func37, Tryz.ntmps37
    go_wp2_with fail
    generalize ((w.alloc (.cells #[.int .u64 x, .int .i64 p] 24)).alloc (.cells #[.int .u64 y, .int .i64 q] 24)).alloc (.cells #[.int .u64 0, .int .i64 0] 24) = X at *
    refine (HC.out _).mono ?_
    rintro e w1 ⟨rfl, rfl⟩
    have hb := Below.refl X.heap.size X
    clear HC
    have G3 := Lib.hid (heapB hb H3.out)
    have GB := Lib.hid (HB.out.trans (hb.mono (by rw [hz]; omega)))
    have d0 := cellR 0 G3.out rfl
    have d1 := cellR 1 G3.out rfl
    have f0 := frozen_of_row _ _ 0 _ _ G3.out
    have f1 := frozen_of_row _ _ 1 _ _ G3.out
    have l0 := (Array.getElem?_eq_some_iff.1 G3.out).1
    clear HB H3 hb x0 x1 y0 y1
    go_wp2_with fail
    have hr := put2 G3.out (.int .u64 NI) (.int .i64 0)
    have hb9 := (GB.out.setCell (p := ⟨w.heap.size + 1 + 1, 0, none⟩) (by show _ ≤ _ + 1 + 1; omega) (.int .u64 NI)).setCell (p := ⟨w.heap.size + 1 + 1, 1, none⟩) (by show _ ≤ _ + 1 + 1; omega) (.int .i64 0)
    refine bodyPost_ret (v := .agg #[.int .u64 NI, .int .i64 0]) ?_ rfl ⟨by rw [HR.out], hb9⟩
    simp [results, Act.put, run_loadVar_row _ _ 24 24 _ _ _ hr Tryz.underlying24 rfl info54, Tryz.results37, asAddr]
  · have hop : op = 1 ∨ op = 3 ∨ op = 4 := by simp [keysOf] at ho; omega
    have HR : Hid (R = ⟨NR, 0⟩) := HV.out
    have HC := Lib.hid (HRe.out hop)
    clear HV HP HI HRe hop ho
    go_enter Tryz.func37, Tryz.ntmps37
    go_wp2_with fail
    generalize ((w.alloc (.cells #[.int .u64 x, .int .i64 p] 24)).alloc (.cells #[.int .u64 y, .int .i64 q] 24)).alloc (.cells #[.int .u64 0, .int .i64 0] 24) = X at *
    refine (HC.out _).mono ?_
    rintro e w1 ⟨rfl, hb⟩
    clear HC
    have G3 := Lib.hid (heapB hb H3.out)
    have GB := Lib.hid (HB.out.trans (hb.mono (by rw [hz]; omega)))
    have d0 := cellR 0 G3.out rfl
    have d1 := cellR 1 G3.out rfl
    have f0 := frozen_of_row _ _ 0 _ _ G3.out
    have f1 := frozen_of_row _ _ 1 _ _ G3.out
    have l0 := (Array.getElem?_eq_some_iff.1 G3.out).1
    clear HB H3 hb x0 x1 y0 y1
    go_wp2_with fail
    have hr := put2 G3.out (.int .u64 NR) (.int .i64 0)
    have hb9 := (GB.out.setCell (p := ⟨w.heap.size + 1 + 1, 0, none⟩) (by show _ ≤ _ + 1 + 1; omega) (.int .u64 NR)).setCell (p := ⟨w.heap.size + 1 + 1, 1, none⟩) (by show _ ≤ _ + 1 + 1; omega) (.int .i64 0)
    refine bodyPost_ret (v := .agg #[.int .u64 NR, .int .i64 0]) ?_ rfl ⟨by rw [HR.out], hb9⟩
    simp [results, Act.put, run_loadVar_row _ _ 24 24 _ _ _ hr Tryz.underlying24 rfl info54, Tryz.results37, asAddr]
  · obtain ⟨xp, pp⟩ := NP
    have hop : op = 10 ∨ op = 11 := by simp [keysOf] at ho; omega
    have HR : Hid (R = ⟨xp, pp⟩) := HV.out
    have HC := Lib.hid (HP.out hop)
    clear HV HP HI HRe hop ho
    go_enter Tryz.func37, Tryz.ntmps37
    go_wp2_with fail
    generalize ((w.alloc (.cells #[.int .u64 x, .int .i64 p] 24)).alloc (.cells #[.int .u64 y, .int .i64 q] 24)).alloc (.cells #[.int .u64 0, .int .i64 0] 24) = X at *
    refine (HC.out _).mono ?_
    rintro e w1 ⟨rfl, hb⟩
    clear HC
    have G3 := Lib.hid (heapB hb H3.out)
    have GB := Lib.hid (HB.out.trans (hb.mono (by rw [hz]; omega)))
    have d0 := cellR 0 G3.out rfl
    have d1 := cellR 1 G3.out rfl
    have f0 := frozen_of_row _ _ 0 _ _ G3.out
    have f1 := frozen_of_row _ _ 1 _ _ G3.out
    have l0 := (Array.getElem?_eq_some_iff.1 G3.out).1
    clear HB H3 hb x0 x1 y0 y1
    go_wp2_with fail
    have hr := put2 G3.out (.int .u64 xp) (.int .i64 pp)
    have hb9 := (GB.out.setCell (p := ⟨w.heap.size + 1 + 1, 0, none⟩) (by show _ ≤ _ + 1 + 1; omega) (.int .u64 xp)).setCell (p := ⟨w.heap.size + 1 + 1, 1, none⟩) (by show _ ≤ _ + 1 + 1; omega) (.int .i64 pp)
    refine bodyPost_ret (v := .agg #[.int .u64 xp, .int .i64 pp]) ?_ rfl ⟨by rw [HR.out], hb9⟩
    simp [results, Act.put, run_loadVar_row _ _ 24 24 _ _ _ hr Tryz.underlying24 rfl info54, Tryz.results37, asAddr]
end Go.Proofs.YtjcdnaandbockaaGreat

namespace Go.Proofs.YtjcdnaandbockaaGreat
open Go.RowKit Go.Shelf
attribute [local go_sem] Oper.semAt_some
set_option maxRecDepth 100000
set_option maxHeartbeats 4000000

theorem findE_zero {op kind : Int} (h : findE op kind = 0) : (kind = 1 ∨ kind = 2 ∨ kind = 3) ∧ op ∈ keysOf kind := by
  unfold findE at h
  by_cases h1 : ¬ (1 ≤ kind ∧ kind ≤ 3) ∨ ¬ (1 ≤ op ∧ op ≤ 11)
  · rw [if_pos h1] at h; cases h
  · rw [if_neg h1] at h
    by_cases h2 : op ∈ keysOf kind
    · exact ⟨by omega, h2⟩
    · rw [if_neg h2] at h; cases h
/-- Do of the reference -/
theorem rDo_any (op kind : Int) (u v : Vl) (hu : u.Ok) (hv : v.Ok) (w : World) : Calls Tryz.prog 7 #[.int .i64 op, .int .i64 kind, vA u, vA v] w fun e w' => e = .returned (.tuple #[vA (doV op kind u v), .int .i64 (doE op kind u v)]) ∧ Below w.heap.size w w' := by
  have HC9 := Lib.hid (fun W => rcheck_any op kind W)
  have HU := Lib.hid (fun W => rvalid_any kind u W)
  have HVv := Lib.hid (fun W => rvalid_any kind v W)
  have HRS : Hid (findE op kind = 0 → ∀ W, Calls Tryz.prog 37 #[.int .i64 op, .int .i64 kind, vA u, vA v] W fun e w' => e = .returned (vA (opV op kind u v)) ∧ Below W.heap.size W w') := fun h W => rresult_any op kind u v hu hv (findE_zero h).1 (findE_zero h).2 W
  obtain ⟨x, p⟩ := u
  obtain ⟨y, q⟩ := v
  obtain ⟨hb, h1, h2, h3, hz⟩ := three w (.cells #[.int .u64 x, .int .i64 p] 24) (.cells #[.int .u64 y, .int .i64 q] 24) (.cells #[.int .u64 0, .int .i64 0] 24)
  have HE : Hid (doE op kind ⟨x, p⟩ ⟨y, q⟩ = if findE op kind ≠ 0 then findE op kind else if (allowsB kind ⟨x, p⟩ && allowsB kind ⟨y, q⟩) = true then 0 else 2) := rfl
  have HV : Hid (doV op kind ⟨x, p⟩ ⟨y, q⟩ = if doE op kind ⟨x, p⟩ ⟨y, q⟩ = 0 then opV op kind ⟨x, p⟩ ⟨y, q⟩ else ⟨0, 0⟩) := rfl
  obtain ⟨E, hE⟩ : ∃ E, E = doE op kind ⟨x, p⟩ ⟨y, q⟩ := ⟨_, rfl⟩
  obtain ⟨R, hR⟩ : ∃ R, R = doV op kind ⟨x, p⟩ ⟨y, q⟩ := ⟨_, rfl⟩
  rw [← hE] at HE HV ⊢
  rw [← hR] at HV ⊢
  clear hE hR hu hv
  generalize findE op kind = F at *
  generalize allowsB kind ⟨x, p⟩ = A1 at *
  generalize allowsB kind ⟨y, q⟩ = A2 at *
  generalize opV op kind ⟨x, p⟩ ⟨y, q⟩ = N at *
  have HB := Lib.hid hb
  have H1 := Lib.hid h1
  have H2 := Lib.hid h2
  have H3 := Lib.hid h3
  clear hb h1 h2 h3
  have hz' := hz
  unfold vA at HU HVv HRS ⊢
  have x0 := cellR 0 H1.out rfl
  have x1 := cellR 1 H1.out rfl
  have y0 := cellR 0 H2.out rfl
  have y1 := cellR 1 H2.out rfl
  have d0 := cellR 0 H3.out rfl
  have d1 := cellR 1 H3.out rfl
  have f0 := frozen_of_row _ _ 0 _ _ H3.out
  have f1 := frozen_of_row _ _ 1 _ _ H3.out
  have l0 := (Array.getElem?_eq_some_iff.1 H3.out).1
  by_cases h0 : F = 0
  case neg =>
    have HE2 : Hid (E = F) := by rw [HE.out, if_pos h0]; rfl
    have HR2 : Hid (R = ⟨0, 0⟩) := by rw [HV.out, if_neg (by rw [HE2.out]; exact h0)]; rfl
    have hF0 : ((F != 0) : Bool) = true := bne_iff_ne.2 h0
    clear h0 HE HV HRS HU HVv H1 H2
    go_enter Tryz.func7, Tryz.ntmps7
    go_wp2_with fail
    generalize ((w.alloc (.cells #[.int .u64 x, .int .i64 p] 24)).alloc (.cells #[.int .u64 y, .int .i64 q] 24)).alloc (.cells #[.int .u64 0, .int .i64 0] 24) = X at *
    refine (HC9.out _).mono ?_
    rintro e w1 ⟨rfl, rfl⟩
    clear HC9
    go_wp2_with fail
    have hr := put2 H3.out (.int .u64 0) (.int .i64 0)
    have hb9 := (HB.out.setCell (p := ⟨w.heap.size + 1 + 1, 0, none⟩) (by show _ ≤ _ + 1 + 1; omega) (.int .u64 0)).setCell (p := ⟨w.heap.size + 1 + 1, 1, none⟩) (by show _ ≤ _ + 1 + 1; omega) (.int .i64 0)
    refine bodyPost_ret (v := .tuple #[.agg #[.int .u64 0, .int .i64 0], .int .i64 F]) ?_ rfl ⟨by rw [HE2.out, HR2.out]; rfl, hb9⟩
    simp [results, Act.put, run_loadVar_row _ _ 24 24 _ _ _ hr Tryz.underlying24 rfl info54, Tryz.results7, asAddr]
  subst h0
  have HE1 : Hid (E = if (A1 && A2) = true then 0 else 2) := HE.out
  have HRS2 := Lib.hid (HRS.out rfl)
  clear HE HRS
  cases A1 with
  | false =>
    have HE2 : Hid (E = 2) := HE1.out
    have HR2 : Hid (R = ⟨0, 0⟩) := by rw [HV.out, if_neg (by rw [HE2.out]; decide)]; rfl
    clear HE1 HV HRS2 HVv
    go_enter Tryz.func7, Tryz.ntmps7
    go_wp2_with fail
    generalize ((w.alloc (.cells #[.int .u64 x, .int .i64 p] 24)).alloc (.cells #[.int .u64 y, .int .i64 q] 24)).alloc (.cells #[.int .u64 0, .int .i64 0] 24) = X at *
    refine (HC9.out _).mono ?_
    rintro e w1 ⟨rfl, rfl⟩
    clear HC9
    go_wp2_with fail
    refine (HU.out _).mono ?_
    rintro e w2 ⟨rfl, hb⟩
    clear HU
    have G1 := Lib.hid (heapB hb H1.out)
    have G2 := Lib.hid (heapB hb H2.out)
    have G3 := Lib.hid (heapB hb H3.out)
    have GB := Lib.hid (HB.out.trans (hb.mono HB.out.size))
    clear x0 x1 y0 y1 d0 d1 f0 f1 l0 H1 H2 H3 HB hb
    have H1 := G1
    have H2 := G2
    have H3 := G3
    have HB := GB
    clear G1 G2 G3 GB
    have x0 := cellR 0 H1.out rfl
    have x1 := cellR 1 H1.out rfl
    have y0 := cellR 0 H2.out rfl
    have y1 := cellR 1 H2.out rfl
    have d0 := cellR 0 H3.out rfl
    have d1 := cellR 1 H3.out rfl
    have f0 := frozen_of_row _ _ 0 _ _ H3.out
    have f1 := frozen_of_row _ _ 1 _ _ H3.out
    have l0 := (Array.getElem?_eq_some_iff.1 H3.out).1
    go_wp2_with fail
    have hr := put2 H3.out (.int .u64 0) (.int .i64 0)
    have hb9 := (HB.out.setCell (p := ⟨w.heap.size + 1 + 1, 0, none⟩) (by show _ ≤ _ + 1 + 1; omega) (.int .u64 0)).setCell (p := ⟨w.heap.size + 1 + 1, 1, none⟩) (by show _ ≤ _ + 1 + 1; omega) (.int .i64 0)
    refine bodyPost_ret (v := .tuple #[.agg #[.int .u64 0, .int .i64 0], .int .i64 2]) ?_ rfl ⟨by rw [HE2.out, HR2.out]; rfl, hb9⟩
    simp [results, Act.put, run_loadVar_row _ _ 24 24 _ _ _ hr Tryz.underlying24 rfl info54, Tryz.results7, asAddr]
  | true =>
    cases A2 with
    | false =>
      have HE2 : Hid (E = 2) := HE1.out
      have HR2 : Hid (R = ⟨0, 0⟩) := by rw [HV.out, if_neg (by rw [HE2.out]; decide)]; rfl
      clear HE1 HV HRS2
      go_enter Tryz.func7, Tryz.ntmps7
      go_wp2_with fail
      generalize ((w.alloc (.cells #[.int .u64 x, .int .i64 p] 24)).alloc (.cells #[.int .u64 y, .int .i64 q] 24)).alloc (.cells #[.int .u64 0, .int .i64 0] 24) = X at *
      refine (HC9.out _).mono ?_
      rintro e w1 ⟨rfl, rfl⟩
      clear HC9
      go_wp2_with fail
      refine (HU.out _).mono ?_
      rintro e w2 ⟨rfl, hb⟩
      clear HU
      have G1 := Lib.hid (heapB hb H1.out)
      have G2 := Lib.hid (heapB hb H2.out)
      have G3 := Lib.hid (heapB hb H3.out)
      have GB := Lib.hid (HB.out.trans (hb.mono HB.out.size))
      clear x0 x1 y0 y1 d0 d1 f0 f1 l0 H1 H2 H3 HB hb
      have H1 := G1
      have H2 := G2
      have H3 := G3
      have HB := GB
      clear G1 G2 G3 GB
      have x0 := cellR 0 H1.out rfl
      have x1 := cellR 1 H1.out rfl
      have y0 := cellR 0 H2.out rfl
      have y1 := cellR 1 H2.out rfl
      have d0 := cellR 0 H3.out rfl
      have d1 := cellR 1 H3.out rfl
      have f0 := frozen_of_row _ _ 0 _ _ H3.out
      have f1 := frozen_of_row _ _ 1 _ _ H3.out
      have l0 := (Array.getElem?_eq_some_iff.1 H3.out).1
      go_wp2_with fail
      refine (HVv.out _).mono ?_
      rintro e w3 ⟨rfl, hb⟩
      clear HVv
      have G1 := Lib.hid (heapB hb H1.out)
      have G2 := Lib.hid (heapB hb H2.out)
      have G3 := Lib.hid (heapB hb H3.out)
      have GB := Lib.hid (HB.out.trans (hb.mono HB.out.size))
      clear x0 x1 y0 y1 d0 d1 f0 f1 l0 H1 H2 H3 HB hb
      have H1 := G1
      have H2 := G2
      have H3 := G3
      have HB := GB
      clear G1 G2 G3 GB
      have x0 := cellR 0 H1.out rfl
      have x1 := cellR 1 H1.out rfl
      have y0 := cellR 0 H2.out rfl
      have y1 := cellR 1 H2.out rfl
      have d0 := cellR 0 H3.out rfl
      have d1 := cellR 1 H3.out rfl
      have f0 := frozen_of_row _ _ 0 _ _ H3.out
      have f1 := frozen_of_row _ _ 1 _ _ H3.out
      have l0 := (Array.getElem?_eq_some_iff.1 H3.out).1
      go_wp2_with fail
      have hr := put2 H3.out (.int .u64 0) (.int .i64 0)
      have hb9 := (HB.out.setCell (p := ⟨w.heap.size + 1 + 1, 0, none⟩) (by show _ ≤ _ + 1 + 1; omega) (.int .u64 0)).setCell (p := ⟨w.heap.size + 1 + 1, 1, none⟩) (by show _ ≤ _ + 1 + 1; omega) (.int .i64 0)
      refine bodyPost_ret (v := .tuple #[.agg #[.int .u64 0, .int .i64 0], .int .i64 2]) ?_ rfl ⟨by rw [HE2.out, HR2.out]; rfl, hb9⟩
      simp [results, Act.put, run_loadVar_row _ _ 24 24 _ _ _ hr Tryz.underlying24 rfl info54, Tryz.results7, asAddr]
    | true =>
      have HE2 : Hid (E = 0) := HE1.out
      obtain ⟨nx, np⟩ := N
      have HR2 : Hid (R = ⟨nx, np⟩) := by rw [HV.out, if_pos HE2.out]; rfl
      clear HE1 HV
      go_enter Tryz.func7, Tryz.ntmps7
      go_wp2_with fail
      generalize ((w.alloc (.cells #[.int .u64 x, .int .i64 p] 24)).alloc (.cells #[.int .u64 y, .int .i64 q] 24)).alloc (.cells #[.int .u64 0, .int .i64 0] 24) = X at *
      refine (HC9.out _).mono ?_
      rintro e w1 ⟨rfl, rfl⟩
      clear HC9
      go_wp2_with fail
      refine (HU.out _).mono ?_
      rintro e w2 ⟨rfl, hb⟩
      clear HU
      have G1 := Lib.hid (heapB hb H1.out)
      have G2 := Lib.hid (heapB hb H2.out)
      have G3 := Lib.hid (heapB hb H3.out)
      have GB := Lib.hid (HB.out.trans (hb.mono HB.out.size))
      clear x0 x1 y0 y1 d0 d1 f0 f1 l0 H1 H2 H3 HB hb
      have H1 := G1
      have H2 := G2
      have H3 := G3
      have HB := GB
      clear G1 G2 G3 GB
      have x0 := cellR 0 H1.out rfl
      have x1 := cellR 1 H1.out rfl
      have y0 := cellR 0 H2.out rfl
      have y1 := cellR 1 H2.out rfl
      have d0 := cellR 0 H3.out rfl
      have d1 := cellR 1 H3.out rfl
      have f0 := frozen_of_row _ _ 0 _ _ H3.out
      have f1 := frozen_of_row _ _ 1 _ _ H3.out
      have l0 := (Array.getElem?_eq_some_iff.1 H3.out).1
      go_wp2_with fail
      refine (HVv.out _).mono ?_
      rintro e w3 ⟨rfl, hb⟩
      clear HVv
      have G1 := Lib.hid (heapB hb H1.out)
      have G2 := Lib.hid (heapB hb H2.out)
      have G3 := Lib.hid (heapB hb H3.out)
      have GB := Lib.hid (HB.out.trans (hb.mono HB.out.size))
      clear x0 x1 y0 y1 d0 d1 f0 f1 l0 H1 H2 H3 HB hb
      have H1 := G1
      have H2 := G2
      have H3 := G3
      have HB := GB
      clear G1 G2 G3 GB
      have x0 := cellR 0 H1.out rfl
      have x1 := cellR 1 H1.out rfl
      have y0 := cellR 0 H2.out rfl
      have y1 := cellR 1 H2.out rfl
      have d0 := cellR 0 H3.out rfl
      have d1 := cellR 1 H3.out rfl
      have f0 := frozen_of_row _ _ 0 _ _ H3.out
      have f1 := frozen_of_row _ _ 1 _ _ H3.out
      have l0 := (Array.getElem?_eq_some_iff.1 H3.out).1
      go_wp2_with fail
      refine (HRS2.out _).mono ?_
      rintro e w4 ⟨rfl, hb⟩
      clear HRS2
      have G1 := Lib.hid (heapB hb H1.out)
      have G2 := Lib.hid (heapB hb H2.out)
      have G3 := Lib.hid (heapB hb H3.out)
      have GB := Lib.hid (HB.out.trans (hb.mono HB.out.size))
      clear x0 x1 y0 y1 d0 d1 f0 f1 l0 H1 H2 H3 HB hb
      have H1 := G1
      have H2 := G2
      have H3 := G3
      have HB := GB
      clear G1 G2 G3 GB
      have x0 := cellR 0 H1.out rfl
      have x1 := cellR 1 H1.out rfl
      have y0 := cellR 0 H2.out rfl
      have y1 := cellR 1 H2.out rfl
      have d0 := cellR 0 H3.out rfl
      have d1 := cellR 1 H3.out rfl
      have f0 := frozen_of_row _ _ 0 _ _ H3.out
      have f1 := frozen_of_row _ _ 1 _ _ H3.out
      have l0 := (Array.getElem?_eq_some_iff.1 H3.out).1
      go_wp2_with fail
      have hr := put2 H3.out (.int .u64 nx) (.int .i64 np)
      have hb9 := (HB.out.setCell (p := ⟨w.heap.size + 1 + 1, 0, none⟩) (by show _ ≤ _ + 1 + 1; omega) (.int .u64 nx)).setCell (p := ⟨w.heap.size + 1 + 1, 1, none⟩) (by show _ ≤ _ + 1 + 1; omega) (.int .i64 np)
      refine bodyPost_ret (v := .tuple #[.agg #[.int .u64 nx, .int .i64 np], .int .i64 0]) ?_ rfl ⟨by rw [HE2.out, HR2.out], hb9⟩
      simp [results, Act.put, run_loadVar_row _ _ 24 24 _ _ _ hr Tryz.underlying24 rfl info54, Tryz.results7, asAddr]
end Go.Proofs.YtjcdnaandbockaaGreat

namespace Go.Proofs.YtjcdnaandbockaaGreat
open Go.RowKit Go.Shelf
attribute [local go_sem] Oper.semAt_some
set_option maxRecDepth 100000
set_option maxHeartbeats 8000000
section
variable {n : Nat} {P : Program} {ops : Array Oper} {Q : Exit → Act → World → Prop}
/-- a guarded load of a whole block -/
theorem wpOpIn_load_rowg {i j : Nat} {want : Bool} {o : Oper} {K : Act → World → Prop} {a : Act} {w : World} (ho : ops[i]? = some o) (hgd : o.guard = some (j, want)) (hy : yielded ops a.tmps j = some want) (ty : TypeId) (x : Operand) (hop : o.op = .load ty x)
    (g : Nat) (hx : a.eval x = .pointer (some ⟨g, 0, none⟩)) (t : TypeId) (cs : Array Value) (fr : Nat × Nat) (d : TypeDesc) (hg : w.heap[g]? = some (.cells cs t fr))
    (hu : P.underlying ty = some d) (hd : (match d with | .struct _ | .array _ _ => true | _ => false) = true) (hi : (P.info? ty).map (·.size) = some cs.size)
    (h : K (a.put o.dst (.agg cs)) w) : wpOpIn Fence.wide n P ops Q i K a w := by
  refine wpOpIn_guard (v := .agg cs) ho hgd hy ?_ h
  simp only [Oper.semAt, hop, execOp, hx, Instr.loadAt, Instr.sureAddr, Sem.run_bind, Sem.run_pure, Result.andThen_ok, run_loadVar_row w g t ty cs fr d hg hu hd hi]
/-- a guarded call -/
theorem wpOpIn_callg {i j : Nat} {want : Bool} {o : Oper} {K : Act → World → Prop} {a : Act} {w : World} {f : FuncId} {args : Array Value} {R : Ending → World → Prop} (ho : ops[i]? = some o) (hgd : o.guard = some (j, want)) (hy : yielded ops a.tmps j = some want)
    (h : (o.semAt none a.eval).run P w = .ok (.enter f args) w) (hc : Calls P f args w R) (hk : ∀ e w', R e w' → ∃ v, e = .returned v ∧ K (a.put o.dst v) w') : wpOpIn Fence.wide n P ops Q i K a w := by
  refine wpOpIn_step ho (fun K' hK => ?_)
  rw [if_pos (by simp [Region.wanted, hgd, hy])]
  refine ⟨fun f _ => trivial, ?_⟩
  have e : Fence.wide.round = none := rfl
  rw [e, h, Oper.uponIn_enter]
  refine ⟨(fun hd => by cases hd), callsIn_wide.2 (hc.mono ?_)⟩
  intro e w' hr
  obtain ⟨v, rfl, hv⟩ := hk e w' hr
  exact hK _ _ hv
end
theorem eql_self (x : Nat) (p : Int) (w : World) : (binOp .eql 24 (.agg #[.int .u64 x, .int .i64 p]) (.agg #[.int .u64 x, .int .i64 p])).run Tryz.prog w = .ok (.bool true) w := by
  have h := eql_V x x p p w
  rwa [show eqV ⟨x, p⟩ ⟨x, p⟩ = true by simp [eqV]] at h
theorem SumOps_walk (op kind : Int) (u v : Vl) (hu : u.Ok) (hv : v.Ok) (w : World) : Calls Tryz.prog 3 #[.int .i64 op, .int .i64 kind, vA u, vA v] w fun e w' => e = .returned (.bool true) ∧ Below w.heap.size w w' := by
  have HD := Lib.hid (fun W => Do_any op kind u v hu hv W)
  have HRD := Lib.hid (fun W => rDo_any op kind u v hu hv W)
  have HC := Lib.hid (fun W => Check_any op kind W)
  have HRC := Lib.hid (fun W => rcheck_any op kind W)
  have HQ := Lib.hid (fun W => Compare_any u.x v.x hu.x hv.x W)
  have HRQ := Lib.hid (fun W => rcompare_any u.x v.x hu.x hv.x W)
  obtain ⟨x, p⟩ := u
  obtain ⟨y, q⟩ := v
  have h1 : Below w.heap.size w ((w.alloc (.cells #[.int .u64 x, .int .i64 p] 24)).alloc (.cells #[.int .u64 y, .int .i64 q] 24)) := ((Below.refl _ _).alloc (Nat.le_refl _) _).alloc (by simp) _
  have a1 : ((w.alloc (.cells #[.int .u64 x, .int .i64 p] 24)).alloc (.cells #[.int .u64 y, .int .i64 q] 24)).heap[w.heap.size]? = some (.cells #[.int .u64 x, .int .i64 p] 24 (0, 0)) := (Below.heap_alloc _ _ _ (by simp)).trans (heap_alloc_new w _)
  have a2 : ((w.alloc (.cells #[.int .u64 x, .int .i64 p] 24)).alloc (.cells #[.int .u64 y, .int .i64 q] 24)).heap[w.heap.size + 1]? = some (.cells #[.int .u64 y, .int .i64 q] 24 (0, 0)) := by
    have := heap_alloc_new (w.alloc (.cells #[.int .u64 x, .int .i64 p] 24)) (.cells #[.int .u64 y, .int .i64 q] 24)
    rwa [show (w.alloc (.cells #[.int .u64 x, .int .i64 p] 24)).heap.size = w.heap.size + 1 by simp] at this
  have hz : ((w.alloc (.cells #[.int .u64 x, .int .i64 p] 24)).alloc (.cells #[.int .u64 y, .int .i64 q] 24)).heap.size = w.heap.size + 2 := by simp
  have HB := Lib.hid h1
  have H1 := Lib.hid a1
  have H2 := Lib.hid a2
  clear h1 a1 a2 hu hv
  generalize doV op kind ⟨x, p⟩ ⟨y, q⟩ = N at *
  obtain ⟨nx, np⟩ := N
  generalize doE op kind ⟨x, p⟩ ⟨y, q⟩ = E at *
  generalize findE op kind = F at *
  simp only at HQ HRQ
  generalize cmpN (levelN x) (levelN y) = c at *
  unfold vA at HD HRD ⊢
  have x0 := cellR 0 H1.out rfl
  have x1 := cellR 1 H1.out rfl
  have y0 := cellR 0 H2.out rfl
  have y1 := cellR 1 H2.out rfl
  go_enter Tryz.func3, Tryz.ntmps3
  go_wp2_with fail
  generalize (w.alloc (.cells #[.int .u64 x, .int .i64 p] 24)).alloc (.cells #[.int .u64 y, .int .i64 q] 24) = X at *
  refine (HD.out _).mono ?_
  rintro e w1 ⟨rfl, hb⟩
  have G1 := Lib.hid (heapB hb H1.out)
  have G2 := Lib.hid (heapB hb H2.out)
  have GB := Lib.hid (HB.out.trans (hb.mono HB.out.size))
  have hz1 : w.heap.size + 2 ≤ w1.heap.size := by have := hb.size; omega
  clear HB H1 H2 hb x0 x1 y0 y1 hz HD
  have HB := Lib.hid (GB.out.alloc (by omega) (.cells #[.int .u64 nx, .int .i64 np] 24))
  have H1 := Lib.hid (heap_alloc_keep w1 (.cells #[.int .u64 nx, .int .i64 np] 24) _ _ G1.out)
  have H2 := Lib.hid (heap_alloc_keep w1 (.cells #[.int .u64 nx, .int .i64 np] 24) _ _ G2.out)
  have H3 := Lib.hid (heap_alloc_new w1 (.cells #[.int .u64 nx, .int .i64 np] 24))
  clear GB G1 G2
  have x0 := cellR 0 H1.out rfl
  have x1 := cellR 1 H1.out rfl
  have y0 := cellR 0 H2.out rfl
  have y1 := cellR 1 H2.out rfl
  go_wp2_with fail
  generalize hX2 : w1.alloc (.cells #[.int .u64 nx, .int .i64 np] 24) = X2 at *
  have hz2 : X2.heap.size = w1.heap.size + 1 := by rw [← hX2]; simp
  clear hX2
  refine (HRD.out _).mono ?_
  rintro e w2 ⟨rfl, hb⟩
  have hz3 : w1.heap.size + 1 ≤ w2.heap.size := by have := hb.size; omega
  have G1 := Lib.hid (heap_alloc_keep w2 (.cells #[.int .u64 nx, .int .i64 np] 24) _ _ (heapB hb H1.out))
  have G2 := Lib.hid (heap_alloc_keep w2 (.cells #[.int .u64 nx, .int .i64 np] 24) _ _ (heapB hb H2.out))
  have G3 := Lib.hid (heap_alloc_keep w2 (.cells #[.int .u64 nx, .int .i64 np] 24) _ _ (heapB hb H3.out))
  have GB := Lib.hid ((HB.out.trans (hb.mono HB.out.size)).alloc (by omega) (.cells #[.int .u64 nx, .int .i64 np] 24))
  have H4 := Lib.hid (heap_alloc_new w2 (.cells #[.int .u64 nx, .int .i64 np] 24))
  clear HB H1 H2 H3 hb x0 x1 y0 y1 HRD
  have HB := GB
  have H1 := G1
  have H2 := G2
  have H3 := G3
  clear GB G1 G2 G3
  go_wp2_with fail
  generalize w2.alloc (.cells #[.int .u64 nx, .int .i64 np] 24) = W at *
  refine (wpIn_wide (n := 0)).1 ?_
  refine region_det (by kernel_rfl) (I := fun listed a' w' => Hid (Below W.heap.size W w') ∧ a' = ⟨#[Value.int IntKind.i64 op, Value.int IntKind.i64 kind, Value.agg #[.int .u64 (x : Int), .int .i64 p], Value.agg #[.int .u64 (y : Int), .int .i64 q], undef, undef, Value.pointer (some ⟨w.heap.size, 0, none⟩), Value.pointer (some ⟨(w.heap.size + 1), 0, none⟩), (if listed.getD 33 false = true then Value.bool true else Value.bool false), Value.pointer (some ⟨w1.heap.size, 0, none⟩), Value.int IntKind.i64 E, Value.pointer (some ⟨w2.heap.size, 0, none⟩), Value.int IntKind.i64 E, Value.tuple #[Value.agg #[.int .u64 (nx : Int), .int .i64 np], Value.int IntKind.i64 E], Value.int IntKind.i64 op, Value.int IntKind.i64 kind, Value.agg #[.int .u64 (x : Int), .int .i64 p], Value.agg #[.int .u64 (y : Int), .int .i64 q], Value.tuple #[Value.agg #[.int .u64 (nx : Int), .int .i64 np], Value.int IntKind.i64 E], Value.agg #[.int .u64 (nx : Int), .int .i64 np], Value.int IntKind.i64 E, Value.tuple #[Value.agg #[.int .u64 (nx : Int), .int .i64 np], Value.int IntKind.i64 E], Value.int IntKind.i64 op, Value.int IntKind.i64 kind, Value.agg #[.int .u64 (x : Int), .int .i64 p], Value.agg #[.int .u64 (y : Int), .int .i64 q], Value.tuple #[Value.agg #[.int .u64 (nx : Int), .int .i64 np], Value.int IntKind.i64 E], Value.agg #[.int .u64 (nx : Int), .int .i64 np], Value.int IntKind.i64 E, (if listed.getD 0 false = true then Value.int IntKind.i64 op else undef), (if listed.getD 1 false = true then Value.int IntKind.i64 kind else undef), (if listed.getD 2 false = true then Value.int IntKind.i64 F else undef), (if listed.getD 3 false = true then Value.int IntKind.i64 op else undef), (if listed.getD 4 false = true then Value.int IntKind.i64 kind else undef), (if listed.getD 5 false = true then Value.int IntKind.i64 F else undef), (if listed.getD 6 false = true then Value.bool true else undef), (if listed.getD 7 false = true then Value.bool true else undef), (if listed.getD 8 false = true then Value.agg #[.int .u64 (nx : Int), .int .i64 np] else undef), (if listed.getD 9 false = true then Value.agg #[.int .u64 (nx : Int), .int .i64 np] else undef), (if listed.getD 10 false = true then Value.bool true else undef), (if listed.getD 11 false = true then Value.bool true else undef), (if listed.getD 12 false = true then Value.bool true else undef), (if listed.getD 13 false = true then Value.int IntKind.i64 E else undef), (if listed.getD 14 false = true then Value.int IntKind.i64 E else undef), (if listed.getD 15 false = true then Value.bool true else undef), (if listed.getD 16 false = true then Value.bool true else undef), (if listed.getD 17 false = true then Value.bool true else undef), (if listed.getD 18 false = true then Value.pointer (some ⟨w.heap.size, 0, none⟩) else undef), (if listed.getD 19 false = true then Value.int IntKind.u64 (x : Int) else undef), (if listed.getD 20 false = true then Value.pointer (some ⟨(w.heap.size + 1), 0, none⟩) else undef), (if listed.getD 21 false = true then Value.int IntKind.u64 (y : Int) else undef), (if listed.getD 22 false = true then Value.int IntKind.i64 c else undef), (if listed.getD 23 false = true then Value.pointer (some ⟨w.heap.size, 0, none⟩) else undef), (if listed.getD 24 false = true then Value.int IntKind.u64 (x : Int) else undef), (if listed.getD 25 false = true then Value.pointer (some ⟨(w.heap.size + 1), 0, none⟩) else undef), (if listed.getD 26 false = true then Value.int IntKind.u64 (y : Int) else undef), (if listed.getD 27 false = true then Value.int IntKind.i64 c else undef), (if listed.getD 28 false = true then Value.bool true else undef), (if listed.getD 29 false = true then Value.bool true else undef), (if listed.getD 30 false = true then Value.bool true else undef), (if listed.getD 31 false = true then Value.bool true else undef), (if listed.getD 32 false = true then Value.bool true else undef)], []⟩) (hup_check (by kernel_rfl)) ?h0 ?step ?fin
  case h0 => exact ⟨(Below.refl _ _).drew, rfl⟩
  case step =>
    intro listed a' w' i hs hbi hdep hi ⟨IB, ha⟩
    obtain ⟨ls⟩ := listed
    have hs0 : ls.length = 34 := by simpa using hs
    obtain ⟨x0, t0, rfl, hs1⟩ := list_cons ls hs0
    obtain ⟨x1, t1, rfl, hs2⟩ := list_cons t0 hs1
    obtain ⟨x2, t2, rfl, hs3⟩ := list_cons t1 hs2
    obtain ⟨x3, t3, rfl, hs4⟩ := list_cons t2 hs3
    obtain ⟨x4, t4, rfl, hs5⟩ := list_cons t3 hs4
    obtain ⟨x5, t5, rfl, hs6⟩ := list_cons t4 hs5
    obtain ⟨x6, t6, rfl, hs7⟩ := list_cons t5 hs6
    obtain ⟨x7, t7, rfl, hs8⟩ := list_cons t6 hs7
    obtain ⟨x8, t8, rfl, hs9⟩ := list_cons t7 hs8
    obtain ⟨x9, t9, rfl, hs10⟩ := list_cons t8 hs9
    obtain ⟨x10, t10, rfl, hs11⟩ := list_cons t9 hs10
    obtain ⟨x11, t11, rfl, hs12⟩ := list_cons t10 hs11
    obtain ⟨x12, t12, rfl, hs13⟩ := list_cons t11 hs12
    obtain ⟨x13, t13, rfl, hs14⟩ := list_cons t12 hs13
    obtain ⟨x14, t14, rfl, hs15⟩ := list_cons t13 hs14
    obtain ⟨x15, t15, rfl, hs16⟩ := list_cons t14 hs15
    obtain ⟨x16, t16, rfl, hs17⟩ := list_cons t15 hs16
    obtain ⟨x17, t17, rfl, hs18⟩ := list_cons t16 hs17
    obtain ⟨x18, t18, rfl, hs19⟩ := list_cons t17 hs18
    obtain ⟨x19, t19, rfl, hs20⟩ := list_cons t18 hs19
    obtain ⟨x20, t20, rfl, hs21⟩ := list_cons t19 hs20
    obtain ⟨x21, t21, rfl, hs22⟩ := list_cons t20 hs21
    obtain ⟨x22, t22, rfl, hs23⟩ := list_cons t21 hs22
    obtain ⟨x23, t23, rfl, hs24⟩ := list_cons t22 hs23
    obtain ⟨x24, t24, rfl, hs25⟩ := list_cons t23 hs24
    obtain ⟨x25, t25, rfl, hs26⟩ := list_cons t24 hs25
    obtain ⟨x26, t26, rfl, hs27⟩ := list_cons t25 hs26
    obtain ⟨x27, t27, rfl, hs28⟩ := list_cons t26 hs27
    obtain ⟨x28, t28, rfl, hs29⟩ := list_cons t27 hs28
    obtain ⟨x29, t29, rfl, hs30⟩ := list_cons t28 hs29
    obtain ⟨x30, t30, rfl, hs31⟩ := list_cons t29 hs30
    obtain ⟨x31, t31, rfl, hs32⟩ := list_cons t30 hs31
    obtain ⟨x32, t32, rfl, hs33⟩ := list_cons t31 hs32
    obtain ⟨x33, t33, rfl, hs34⟩ := list_cons t32 hs33
    obtain rfl : t33 = [] := List.eq_nil_of_length_eq_zero hs34
    clear hs0 hs1 hs2 hs3 hs4 hs5 hs6 hs7 hs8 hs9 hs10 hs11 hs12 hs13 hs14 hs15 hs16 hs17 hs18 hs19 hs20 hs21 hs22 hs23 hs24 hs25 hs26 hs27 hs28 hs29 hs30 hs31 hs32 hs33 hs34
    subst ha
    have hi' : i = 0 ∨ i = 1 ∨ i = 2 ∨ i = 3 ∨ i = 4 ∨ i = 5 ∨ i = 6 ∨ i = 7 ∨ i = 8 ∨ i = 9 ∨ i = 10 ∨ i = 11 ∨ i = 12 ∨ i = 13 ∨ i = 14 ∨ i = 15 ∨ i = 16 ∨ i = 17 ∨ i = 18 ∨ i = 19 ∨ i = 20 ∨ i = 21 ∨ i = 22 ∨ i = 23 ∨ i = 24 ∨ i = 25 ∨ i = 26 ∨ i = 27 ∨ i = 28 ∨ i = 29 ∨ i = 30 ∨ i = 31 ∨ i = 32 ∨ i = 33 := by simp at hi; omega
    rcases hi' with rfl | rfl | rfl | rfl | rfl | rfl | rfl | rfl | rfl | rfl | rfl | rfl | rfl | rfl | rfl | rfl | rfl | rfl | rfl | rfl | rfl | rfl | rfl | rfl | rfl | rfl | rfl | rfl | rfl | rfl | rfl | rfl | rfl | rfl
    · obtain rfl : x0 = false := by simpa using hbi
      refine wpOpIn_plain rfl rfl rfl ?_
      exact ⟨IB, rfl⟩
    · obtain rfl : x1 = false := by simpa using hbi
      refine wpOpIn_plain rfl rfl rfl ?_
      exact ⟨IB, rfl⟩
    · obtain rfl : x2 = false := by simpa using hbi
      obtain rfl : x0 = true := hdep _ rfl ⟨0, .data⟩ (by simp) rfl
      obtain rfl : x1 = true := hdep _ rfl ⟨1, .data⟩ (by simp) rfl
      refine wpOpIn_call (args := #[Value.int IntKind.i64 op, Value.int IntKind.i64 kind]) rfl rfl (sem_call2 rfl rfl rfl (enters_of Tryz.func8 (by kernel_rfl) rfl)) (HC.out w') ?_
      rintro e V ⟨rfl, hb⟩
      exact ⟨_, rfl, (IB.out.trans (hb.mono IB.out.size)), rfl⟩
    · obtain rfl : x3 = false := by simpa using hbi
      refine wpOpIn_plain rfl rfl rfl ?_
      exact ⟨IB, rfl⟩
    · obtain rfl : x4 = false := by simpa using hbi
      refine wpOpIn_plain rfl rfl rfl ?_
      exact ⟨IB, rfl⟩
    · obtain rfl : x5 = false := by simpa using hbi
      obtain rfl : x3 = true := hdep _ rfl ⟨3, .data⟩ (by simp) rfl
      obtain rfl : x4 = true := hdep _ rfl ⟨4, .data⟩ (by simp) rfl
      refine wpOpIn_call (args := #[Value.int IntKind.i64 op, Value.int IntKind.i64 kind]) rfl rfl (sem_call2 rfl rfl rfl (enters_of Tryz.func9 (by kernel_rfl) rfl)) (HRC.out w') ?_
      rintro e V ⟨rfl, rfl⟩
      exact ⟨_, rfl, IB, rfl⟩
    · obtain rfl : x6 = false := by simpa using hbi
      obtain rfl : x2 = true := hdep _ rfl ⟨2, .data⟩ (by simp) rfl
      obtain rfl : x5 = true := hdep _ rfl ⟨5, .data⟩ (by simp) rfl
      refine wpOpIn_plain (v := Value.bool true) (w' := w') rfl rfl (by simp [Oper.semAt, execOp, go_sem]) ?_
      exact ⟨IB, rfl⟩
    · obtain rfl : x7 = false := by simpa using hbi
      obtain rfl : x6 = true := hdep _ rfl ⟨6, .data⟩ (by simp) rfl
      refine wpOpIn_plain rfl rfl rfl ?_
      exact ⟨IB, rfl⟩
    · obtain rfl : x8 = false := by simpa using hbi
      obtain rfl : x7 = true := hdep _ rfl ⟨7, .guard⟩ (by simp) rfl
      refine wpOpIn_load_rowg rfl rfl rfl 24 _ rfl w1.heap.size rfl 24 _ _ _ (heapB IB.out H3.out) Tryz.underlying24 rfl info54 ?_
      exact ⟨IB, rfl⟩
    · obtain rfl : x9 = false := by simpa using hbi
      obtain rfl : x7 = true := hdep _ rfl ⟨7, .guard⟩ (by simp) rfl
      refine wpOpIn_load_rowg rfl rfl rfl 24 _ rfl w2.heap.size rfl 24 _ _ _ (heapB IB.out H4.out) Tryz.underlying24 rfl info54 ?_
      exact ⟨IB, rfl⟩
    · obtain rfl : x10 = false := by simpa using hbi
      obtain rfl : x8 = true := hdep _ rfl ⟨8, .data⟩ (by simp) rfl
      obtain rfl : x9 = true := hdep _ rfl ⟨9, .data⟩ (by simp) rfl
      obtain rfl : x7 = true := hdep _ rfl ⟨7, .guard⟩ (by simp) rfl
      refine wpOpIn_guard (v := Value.bool true) (w' := w') rfl rfl rfl (sem_bin (vx := Value.agg #[.int .u64 (nx : Int), .int .i64 np]) (vy := Value.agg #[.int .u64 (nx : Int), .int .i64 np]) rfl rfl rfl (run_eqGuard_agg w' _ _ _ _ _ _ (by kernel_rfl)) (eql_self nx np w')) ?_
      exact ⟨IB, rfl⟩
    · obtain rfl : x11 = false := by simpa using hbi
      obtain rfl : x7 = true := hdep _ rfl ⟨7, .data⟩ (by simp) rfl
      obtain rfl : x10 = true := hdep _ rfl ⟨10, .data⟩ (by simp) rfl
      refine wpOpIn_plain (v := Value.bool true) (w' := w') rfl rfl (by simp [Oper.semAt, execOp, go_sem]) ?_
      exact ⟨IB, rfl⟩
    · obtain rfl : x12 = false := by simpa using hbi
      obtain rfl : x11 = true := hdep _ rfl ⟨11, .data⟩ (by simp) rfl
      refine wpOpIn_plain rfl rfl rfl ?_
      exact ⟨IB, rfl⟩
    · obtain rfl : x13 = false := by simpa using hbi
      obtain rfl : x12 = true := hdep _ rfl ⟨12, .guard⟩ (by simp) rfl
      refine wpOpIn_guard (v := Value.int IntKind.i64 E) (w' := w') rfl rfl rfl (by simp [Oper.semAt, execOp, go_sem]) ?_
      exact ⟨IB, rfl⟩
    · obtain rfl : x14 = false := by simpa using hbi
      obtain rfl : x12 = true := hdep _ rfl ⟨12, .guard⟩ (by simp) rfl
      refine wpOpIn_guard (v := Value.int IntKind.i64 E) (w' := w') rfl rfl rfl (by simp [Oper.semAt, execOp, go_sem]) ?_
      exact ⟨IB, rfl⟩
    · obtain rfl : x15 = false := by simpa using hbi
      obtain rfl : x13 = true := hdep _ rfl ⟨13, .data⟩ (by simp) rfl
      obtain rfl : x14 = true := hdep _ rfl ⟨14, .data⟩ (by simp) rfl
      obtain rfl : x12 = true := hdep _ rfl ⟨12, .guard⟩ (by simp) rfl
      refine wpOpIn_guard (v := Value.bool true) (w' := w') rfl rfl rfl (by simp [Oper.semAt, execOp, go_sem]) ?_
      exact ⟨IB, rfl⟩
    · obtain rfl : x16 = false := by simpa using hbi
      obtain rfl : x12 = true := hdep _ rfl ⟨12, .data⟩ (by simp) rfl
      obtain rfl : x15 = true := hdep _ rfl ⟨15, .data⟩ (by simp) rfl
      refine wpOpIn_plain (v := Value.bool true) (w' := w') rfl rfl (by simp [Oper.semAt, execOp, go_sem]) ?_
      exact ⟨IB, rfl⟩
    · obtain rfl : x17 = false := by simpa using hbi
      obtain rfl : x16 = true := hdep _ rfl ⟨16, .data⟩ (by simp) rfl
      refine wpOpIn_plain rfl rfl rfl ?_
      exact ⟨IB, rfl⟩
    · obtain rfl : x18 = false := by simpa using hbi
      obtain rfl : x17 = true := hdep _ rfl ⟨17, .guard⟩ (by simp) rfl
      refine wpOpIn_guard (v := Value.pointer (some ⟨w.heap.size, 0, none⟩)) (w' := w') rfl rfl rfl (by simp [Oper.semAt, execOp, go_sem]) ?_
      exact ⟨IB, rfl⟩
    · obtain rfl : x19 = false := by simpa using hbi
      obtain rfl : x18 = true := hdep _ rfl ⟨18, .data⟩ (by simp) rfl
      obtain rfl : x17 = true := hdep _ rfl ⟨17, .guard⟩ (by simp) rfl
      have c0 := cellR 0 (heapB IB.out H1.out) rfl
      refine wpOpIn_guard (v := Value.int IntKind.u64 (x : Int)) (w' := w') rfl rfl rfl (by simp [Oper.semAt, execOp, go_sem, c0]) ?_
      exact ⟨IB, rfl⟩
    · obtain rfl : x20 = false := by simpa using hbi
      obtain rfl : x17 = true := hdep _ rfl ⟨17, .guard⟩ (by simp) rfl
      refine wpOpIn_guard (v := Value.pointer (some ⟨(w.heap.size + 1), 0, none⟩)) (w' := w') rfl rfl rfl (by simp [Oper.semAt, execOp, go_sem]) ?_
      exact ⟨IB, rfl⟩
    · obtain rfl : x21 = false := by simpa using hbi
      obtain rfl : x20 = true := hdep _ rfl ⟨20, .data⟩ (by simp) rfl
      obtain rfl : x17 = true := hdep _ rfl ⟨17, .guard⟩ (by simp) rfl
      have c0 := cellR 0 (heapB IB.out H2.out) rfl
      refine wpOpIn_guard (v := Value.int IntKind.u64 (y : Int)) (w' := w') rfl rfl rfl (by simp [Oper.semAt, execOp, go_sem, c0]) ?_
      exact ⟨IB, rfl⟩
    · obtain rfl : x22 = false := by simpa using hbi
      obtain rfl : x19 = true := hdep _ rfl ⟨19, .data⟩ (by simp) rfl
      obtain rfl : x21 = true := hdep _ rfl ⟨21, .data⟩ (by simp) rfl
      obtain rfl : x17 = true := hdep _ rfl ⟨17, .guard⟩ (by simp) rfl
      refine wpOpIn_callg (args := #[Value.int IntKind.u64 (x : Int), Value.int IntKind.u64 (y : Int)]) rfl rfl rfl (sem_call2 rfl rfl rfl (enters_of Tryz.func10 (by kernel_rfl) rfl)) (HQ.out w') ?_
      rintro e V ⟨rfl, rfl⟩
      exact ⟨_, rfl, IB, rfl⟩
    · obtain rfl : x23 = false := by simpa using hbi
      obtain rfl : x17 = true := hdep _ rfl ⟨17, .guard⟩ (by simp) rfl
      refine wpOpIn_guard (v := Value.pointer (some ⟨w.heap.size, 0, none⟩)) (w' := w') rfl rfl rfl (by simp [Oper.semAt, execOp, go_sem]) ?_
      exact ⟨IB, rfl⟩
    · obtain rfl : x24 = false := by simpa using hbi
      obtain rfl : x23 = true := hdep _ rfl ⟨23, .data⟩ (by simp) rfl
      obtain rfl : x17 = true := hdep _ rfl ⟨17, .guard⟩ (by simp) rfl
      have c0 := cellR 0 (heapB IB.out H1.out) rfl
      refine wpOpIn_guard (v := Value.int IntKind.u64 (x : Int)) (w' := w') rfl rfl rfl (by simp [Oper.semAt, execOp, go_sem, c0]) ?_
      exact ⟨IB, rfl⟩
    · obtain rfl : x25 = false := by simpa using hbi
      obtain rfl : x17 = true := hdep _ rfl ⟨17, .guard⟩ (by simp) rfl
      refine wpOpIn_guard (v := Value.pointer (some ⟨(w.heap.size + 1), 0, none⟩)) (w' := w') rfl rfl rfl (by simp [Oper.semAt, execOp, go_sem]) ?_
      exact ⟨IB, rfl⟩
    · obtain rfl : x26 = false := by simpa using hbi
      obtain rfl : x25 = true := hdep _ rfl ⟨25, .data⟩ (by simp) rfl
      obtain rfl : x17 = true := hdep _ rfl ⟨17, .guard⟩ (by simp) rfl
      have c0 := cellR 0 (heapB IB.out H2.out) rfl
      refine wpOpIn_guard (v := Value.int IntKind.u64 (y : Int)) (w' := w') rfl rfl rfl (by simp [Oper.semAt, execOp, go_sem, c0]) ?_
      exact ⟨IB, rfl⟩
    · obtain rfl : x27 = false := by simpa using hbi
      obtain rfl : x24 = true := hdep _ rfl ⟨24, .data⟩ (by simp) rfl
      obtain rfl : x26 = true := hdep _ rfl ⟨26, .data⟩ (by simp) rfl
      obtain rfl : x17 = true := hdep _ rfl ⟨17, .guard⟩ (by simp) rfl
      refine wpOpIn_callg (args := #[Value.int IntKind.u64 (x : Int), Value.int IntKind.u64 (y : Int)]) rfl rfl rfl (sem_call2 rfl rfl rfl (enters_of Tryz.func11 (by kernel_rfl) rfl)) (HRQ.out w') ?_
      rintro e V ⟨rfl, rfl⟩
      exact ⟨_, rfl, IB, rfl⟩
    · obtain rfl : x28 = false := by simpa using hbi
      obtain rfl : x22 = true := hdep _ rfl ⟨22, .data⟩ (by simp) rfl
      obtain rfl : x27 = true := hdep _ rfl ⟨27, .data⟩ (by simp) rfl
      obtain rfl : x17 = true := hdep _ rfl ⟨17, .guard⟩ (by simp) rfl
      refine wpOpIn_guard (v := Value.bool true) (w' := w') rfl rfl rfl (by simp [Oper.semAt, execOp, go_sem]) ?_
      exact ⟨IB, rfl⟩
    · obtain rfl : x29 = false := by simpa using hbi
      obtain rfl : x17 = true := hdep _ rfl ⟨17, .data⟩ (by simp) rfl
      obtain rfl : x28 = true := hdep _ rfl ⟨28, .data⟩ (by simp) rfl
      refine wpOpIn_plain (v := Value.bool true) (w' := w') rfl rfl (by simp [Oper.semAt, execOp, go_sem]) ?_
      exact ⟨IB, rfl⟩
    · obtain rfl : x30 = false := by simpa using hbi
      obtain rfl : x29 = true := hdep _ rfl ⟨29, .data⟩ (by simp) rfl
      refine wpOpIn_plain rfl rfl rfl ?_
      exact ⟨IB, rfl⟩
    · obtain rfl : x31 = false := by simpa using hbi
      obtain rfl : x30 = true := hdep _ rfl ⟨30, .guard⟩ (by simp) rfl
      refine wpOpIn_callg (args := #[]) rfl rfl rfl (sem_call rfl (by simp) (enters_of Tryz.func12 (by kernel_rfl) rfl)) (works_any w') ?_
      rintro e V ⟨rfl, hb⟩
      exact ⟨_, rfl, (IB.out.trans (hb.mono IB.out.size)), rfl⟩
    · obtain rfl : x32 = false := by simpa using hbi
      obtain rfl : x30 = true := hdep _ rfl ⟨30, .data⟩ (by simp) rfl
      obtain rfl : x31 = true := hdep _ rfl ⟨31, .data⟩ (by simp) rfl
      refine wpOpIn_plain (v := Value.bool true) (w' := w') rfl rfl (by simp [Oper.semAt, execOp, go_sem]) ?_
      exact ⟨IB, rfl⟩
    · obtain rfl : x33 = false := by simpa using hbi
      obtain rfl : x32 = true := hdep _ rfl ⟨32, .data⟩ (by simp) rfl
      refine wpOpIn_plain rfl rfl rfl ?_
      exact ⟨IB, rfl⟩
  case fin =>
  intro listed a' Z hs hall ⟨IB, ha⟩
  obtain ⟨ls⟩ := listed
  have hs0 : ls.length = 34 := by simpa using hs
  obtain ⟨x0, t0, rfl, hs1⟩ := list_cons ls hs0
  obtain ⟨x1, t1, rfl, hs2⟩ := list_cons t0 hs1
  obtain ⟨x2, t2, rfl, hs3⟩ := list_cons t1 hs2
  obtain ⟨x3, t3, rfl, hs4⟩ := list_cons t2 hs3
  obtain ⟨x4, t4, rfl, hs5⟩ := list_cons t3 hs4
  obtain ⟨x5, t5, rfl, hs6⟩ := list_cons t4 hs5
  obtain ⟨x6, t6, rfl, hs7⟩ := list_cons t5 hs6
  obtain ⟨x7, t7, rfl, hs8⟩ := list_cons t6 hs7
  obtain ⟨x8, t8, rfl, hs9⟩ := list_cons t7 hs8
  obtain ⟨x9, t9, rfl, hs10⟩ := list_cons t8 hs9
  obtain ⟨x10, t10, rfl, hs11⟩ := list_cons t9 hs10
  obtain ⟨x11, t11, rfl, hs12⟩ := list_cons t10 hs11
  obtain ⟨x12, t12, rfl, hs13⟩ := list_cons t11 hs12
  obtain ⟨x13, t13, rfl, hs14⟩ := list_cons t12 hs13
  obtain ⟨x14, t14, rfl, hs15⟩ := list_cons t13 hs14
  obtain ⟨x15, t15, rfl, hs16⟩ := list_cons t14 hs15
  obtain ⟨x16, t16, rfl, hs17⟩ := list_cons t15 hs16
  obtain ⟨x17, t17, rfl, hs18⟩ := list_cons t16 hs17
  obtain ⟨x18, t18, rfl, hs19⟩ := list_cons t17 hs18
  obtain ⟨x19, t19, rfl, hs20⟩ := list_cons t18 hs19
  obtain ⟨x20, t20, rfl, hs21⟩ := list_cons t19 hs20
  obtain ⟨x21, t21, rfl, hs22⟩ := list_cons t20 hs21
  obtain ⟨x22, t22, rfl, hs23⟩ := list_cons t21 hs22
  obtain ⟨x23, t23, rfl, hs24⟩ := list_cons t22 hs23
  obtain ⟨x24, t24, rfl, hs25⟩ := list_cons t23 hs24
  obtain ⟨x25, t25, rfl, hs26⟩ := list_cons t24 hs25
  obtain ⟨x26, t26, rfl, hs27⟩ := list_cons t25 hs26
  obtain ⟨x27, t27, rfl, hs28⟩ := list_cons t26 hs27
  obtain ⟨x28, t28, rfl, hs29⟩ := list_cons t27 hs28
  obtain ⟨x29, t29, rfl, hs30⟩ := list_cons t28 hs29
  obtain ⟨x30, t30, rfl, hs31⟩ := list_cons t29 hs30
  obtain ⟨x31, t31, rfl, hs32⟩ := list_cons t30 hs31
  obtain ⟨x32, t32, rfl, hs33⟩ := list_cons t31 hs32
  obtain ⟨x33, t33, rfl, hs34⟩ := list_cons t32 hs33
  obtain rfl : t33 = [] := List.eq_nil_of_length_eq_zero hs34
  clear hs0 hs1 hs2 hs3 hs4 hs5 hs6 hs7 hs8 hs9 hs10 hs11 hs12 hs13 hs14 hs15 hs16 hs17 hs18 hs19 hs20 hs21 hs22 hs23 hs24 hs25 hs26 hs27 hs28 hs29 hs30 hs31 hs32 hs33 hs34
  obtain rfl : x0 = true := hall 0 (by simp)
  obtain rfl : x1 = true := hall 1 (by simp)
  obtain rfl : x2 = true := hall 2 (by simp)
  obtain rfl : x3 = true := hall 3 (by simp)
  obtain rfl : x4 = true := hall 4 (by simp)
  obtain rfl : x5 = true := hall 5 (by simp)
  obtain rfl : x6 = true := hall 6 (by simp)
  obtain rfl : x7 = true := hall 7 (by simp)
  obtain rfl : x8 = true := hall 8 (by simp)
  obtain rfl : x9 = true := hall 9 (by simp)
  obtain rfl : x10 = true := hall 10 (by simp)
  obtain rfl : x11 = true := hall 11 (by simp)
  obtain rfl : x12 = true := hall 12 (by simp)
  obtain rfl : x13 = true := hall 13 (by simp)
  obtain rfl : x14 = true := hall 14 (by simp)
  obtain rfl : x15 = true := hall 15 (by simp)
  obtain rfl : x16 = true := hall 16 (by simp)
  obtain rfl : x17 = true := hall 17 (by simp)
  obtain rfl : x18 = true := hall 18 (by simp)
  obtain rfl : x19 = true := hall 19 (by simp)
  obtain rfl : x20 = true := hall 20 (by simp)
  obtain rfl : x21 = true := hall 21 (by simp)
  obtain rfl : x22 = true := hall 22 (by simp)
  obtain rfl : x23 = true := hall 23 (by simp)
  obtain rfl : x24 = true := hall 24 (by simp)
  obtain rfl : x25 = true := hall 25 (by simp)
  obtain rfl : x26 = true := hall 26 (by simp)
  obtain rfl : x27 = true := hall 27 (by simp)
  obtain rfl : x28 = true := hall 28 (by simp)
  obtain rfl : x29 = true := hall 29 (by simp)
  obtain rfl : x30 = true := hall 30 (by simp)
  obtain rfl : x31 = true := hall 31 (by simp)
  obtain rfl : x32 = true := hall 32 (by simp)
  obtain rfl : x33 = true := hall 33 (by simp)
  subst ha
  have HZ := Lib.hid (HB.out.trans (IB.out.mono HB.out.size))
  clear IB hall hs HB H1 H2 H3 H4 HC HRC HQ HRQ
  dsimp only [Exit.then, Exit.inBlock]
  go_wp2_with fail
  go_ret
  exact ⟨rfl, HZ.out⟩
end Go.Proofs.YtjcdnaandbockaaGreat
