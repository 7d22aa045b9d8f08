import Derived.Test.YtbhkenphcahifaaGreatNR
namespace Go.Proofs.YtbhkenphcahifaaGreat
open Go.RowKit Go.Shelf
attribute [local go_sem] Oper.semAt_some
set_option maxRecDepth 100000
set_option maxHeartbeats 4000000

theorem wrap_small (x : Int) (h0 : -1000000000 ≤ x) (h1 : x ≤ 1000000000) : wrap64 x = x := by unfold wrap64; omega
/-- down a tree -/
def downL (k : Nat) (ww y : Int) : Nat → Int → List (Int × Int)
  | 0, _ => []
  | l + 1, wd => ((l : Int) * ww + wthI k l wd (digI k l y), 0) :: downL k ww y l (wthI k l wd (digI k l y))
/-- up a tree, then down -/
def upL (k : Nat) (ww y : Int) : Nat → Nat → Int → List (Int × Int)
  | 0, l, wd => downL k ww y l wd
  | f + 1, l, wd => if wd / ((k ^ l : Nat) : Int) ≠ y / ((k ^ l : Nat) : Int) then (((l + 1 : Nat) : Int) * ww + wthI k l wd (digI k l y), 0) :: upL k ww y f (l + 1) (wthI k l wd (digI k l y)) else downL k ww y l wd
/-- a route in a tree of lv levels -/
def treeL (k lv : Nat) (x y : Int) : List (Int × Int) := upL k ((k ^ (lv - 1) : Nat) : Int) y lv (x / ((k ^ (lv - 1) : Nat) : Int)).toNat (x % ((k ^ (lv - 1) : Nat) : Int))
theorem wth_in {k i m : Nat} {x d : Int} (hk : 1 ≤ k) (him : i < m) (hx : 0 ≤ x) (hx2 : x < ((k ^ m : Nat) : Int)) (hd : 0 ≤ d) (hd2 : d < k) : 0 ≤ wthI k i x d ∧ wthI k i x d < ((k ^ m : Nat) : Int) := by
  obtain ⟨j, rfl⟩ : ∃ j, m = i + 1 + j := ⟨m - i - 1, by omega⟩
  unfold wthI digI
  have hP : (1 : Int) ≤ ((k ^ i : Nat) : Int) := by have := pow_pos' (i := i) hk; omega
  have hpe : ((k ^ (i + 1 + j) : Nat) : Int) = ((k ^ i : Nat) : Int) * ((k : Int) * ((k ^ j : Nat) : Int)) := by
    rw [← Int.natCast_mul, ← Int.natCast_mul, Nat.add_assoc, Nat.pow_add, Nat.add_comm 1 j, Nat.pow_succ, Nat.mul_comm k]
  rw [hpe] at hx2 ⊢
  generalize ((k ^ i : Nat) : Int) = P at *
  generalize ((k ^ j : Nat) : Int) = R at *
  obtain ⟨K, hK⟩ : ∃ K : Int, (k : Int) = K := ⟨_, rfl⟩
  have hK1 : 1 ≤ K := by omega
  rw [hK] at hx2 hd2 ⊢
  have h1 := Int.mul_ediv_add_emod x P
  have h2 := Int.emod_nonneg x (show P ≠ 0 by omega)
  have h3 := Int.emod_lt_of_pos x (show 0 < P by omega)
  have h4 : x / P < K * R := Int.ediv_lt_of_lt_mul (by omega) (by rw [Int.mul_comm]; exact hx2)
  have hq0 := Int.ediv_nonneg hx (show 0 ≤ P by omega)
  generalize x / P = Q at *
  generalize x % P = r at *
  have g1 := Int.mul_ediv_add_emod Q K
  have g2 := Int.emod_nonneg Q (show K ≠ 0 by omega)
  have g3 := Int.emod_lt_of_pos Q (show 0 < K by omega)
  have g4 : Q / K < R := Int.ediv_lt_of_lt_mul (by omega) (by rw [Int.mul_comm]; exact h4)
  have g5 := Int.ediv_nonneg hq0 (show 0 ≤ K by omega)
  generalize Q / K = s at *
  generalize Q % K = t at *
  have e : x + (d - t) * P = P * (K * s + d) + r := by
    rw [← h1, ← g1, Int.sub_mul, Int.mul_add, Int.mul_add, Int.mul_comm d P, Int.mul_comm t P]; omega
  rw [e]
  have f1 : 0 ≤ K * s := Int.mul_nonneg (by omega) g5
  have f2 : 0 ≤ P * (K * s + d) := Int.mul_nonneg (by omega) (by omega)
  have f3 : K * (s + 1) ≤ K * R := Int.mul_le_mul_of_nonneg_left (by omega) (by omega)
  rw [Int.mul_add] at f3
  have f4 : P * (K * s + d + 1) ≤ P * (K * R) := Int.mul_le_mul_of_nonneg_left (by omega) (by omega)
  rw [Int.mul_add] at f4
  omega
theorem upF {k : Nat} {ww y : Int} {lv : Nat} (hT : ∀ l wd, l = lv - 1 → 0 ≤ wd → wd < ww → wd / ((k ^ l : Nat) : Int) = y / ((k ^ l : Nat) : Int)) (hW : ∀ l wd, l < lv - 1 → 0 ≤ wd → wd < ww → 0 ≤ wthI k l wd (digI k l y) ∧ wthI k l wd (digI k l y) < ww) :
    ∀ (f l : Nat) (wd : Int), l < lv → lv - l ≤ f → 0 ≤ wd → wd < ww → upL k ww y f l wd = upL k ww y (lv - l) l wd := by
  intro f
  induction f with
  | zero => intro l wd h1 h2; omega
  | succ f ih =>
    intro l wd h1 h2 h3 h4
    obtain ⟨m, hm⟩ : ∃ m, lv - l = m + 1 := ⟨lv - l - 1, by omega⟩
    rw [hm]
    unfold upL
    by_cases hq : wd / ((k ^ l : Nat) : Int) = y / ((k ^ l : Nat) : Int)
    · rw [if_neg (by simp only [ne_eq, hq, not_true_eq_false, not_false_eq_true]), if_neg (by simp only [ne_eq, hq, not_true_eq_false, not_false_eq_true])]
    · rw [if_pos hq, if_pos hq]
      have hl : l < lv - 1 := by
        by_cases h : l = lv - 1
        · exact absurd (hT l wd h h3 h4) hq
        · omega
      obtain ⟨g1, g2⟩ := hW l wd hl h3 h4
      rw [ih (l + 1) _ (by omega) (by omega) g1 g2, show lv - (l + 1) = m by omega]
theorem treeIter (n0 o Bs Bx By : Nat) (k lv : Nat) (x y : Int) (hk : 1 ≤ k) (hk2 : k ≤ 16) (hlv : 1 ≤ lv) (hlv2 : lv ≤ 5) (hww2 : k ^ (lv - 1) ≤ 1000) (hx : 0 ≤ x) (hx2 : x < (lv : Int) * ((k ^ (lv - 1) : Nat) : Int)) (hy : 0 ≤ y) (hy2 : y < ((k ^ (lv - 1) : Nat) : Int)) {w : World}
    (q0 : w.heap[Bs]? = some (.cells #[.int .i64 (k : Int), .int .i64 (lv : Int), .int .i64 ((k ^ (lv - 1) : Nat) : Int)] 142 (0, 0))) (q1 : w.heap[Bx]? = some (.cells #[.int .i64 x] 3 (0, 0))) (q2 : w.heap[By]? = some (.cells #[.int .i64 y] 3 (0, 0))) (n : Nat) :
    SeqW n 189 #[.pointer (some ⟨Bx, 0, none⟩), .pointer (some ⟨Bs, 0, none⟩), .pointer (some ⟨By, 0, none⟩)] encP (Kq n0 o) (Fq n0 o) (fun b => b = Bs ∨ b = Bx ∨ b = By) (treeL k lv x y) w := by
  intro ll J W hW hnd hP hY h0
  have HC : Hid (Cap n0 o [(Bs, .cells #[.int .i64 (k : Int), .int .i64 (lv : Int), .int .i64 ((k ^ (lv - 1) : Nat) : Int)] 142 (0, 0)), (Bx, .cells #[.int .i64 x] 3 (0, 0)), (By, .cells #[.int .i64 y] 3 (0, 0))] W) := by
    intro p hp
    simp only [List.mem_cons, List.not_mem_nil, or_false] at hp
    rcases hp with rfl | rfl | rfl
    · exact ⟨hnd _ (.inl rfl), heapB hW q0⟩
    · exact ⟨hnd _ (.inr (.inl rfl)), heapB hW q1⟩
    · exact ⟨hnd _ (.inr (.inr rfl)), heapB hW q2⟩
  have HY := Lib.hid hY
  have HP := Lib.hid hP
  clear hY hnd hW q0 q1 q2 hP
  have HWI := Lib.hid (fun (i : Nat) (wd d : Int) (h1 : i < lv - 1) (h2 : 0 ≤ wd) (h3 : wd < ((k ^ (lv - 1) : Nat) : Int)) (h4 : 0 ≤ d) (h5 : d < k) => wth_in (k := k) (i := i) (m := lv - 1) (x := wd) (d := d) hk h1 h2 h3 h4 h5)
  have HTOP := Lib.hid (fun (wd : Int) (h1 : 0 ≤ wd) (h2 : wd < ((k ^ (lv - 1) : Nat) : Int)) => Int.ediv_eq_zero_of_lt h1 h2)
  have hDL : treeL k lv x y = upL k ((k ^ (lv - 1) : Nat) : Int) y lv (x / ((k ^ (lv - 1) : Nat) : Int)).toNat (x % ((k ^ (lv - 1) : Nat) : Int)) := rfl
  have hw1 : 1 ≤ k ^ (lv - 1) := pow_pos' hk
  obtain ⟨ww, hww⟩ : ∃ ww : Int, ww = ((k ^ (lv - 1) : Nat) : Int) := ⟨_, rfl⟩
  have hwa : 1 ≤ ww := by omega
  have hwb : ww ≤ 1000 := by omega
  have HWW := Lib.hid hww
  rw [← hww] at hx2 hy2 hDL HWI HTOP HC
  have HW3 := Lib.hid (fun (i : Nat) (hi : i ≤ 5) (v : Int) (h1 : 0 ≤ v) (h2 : v ≤ 1000) W => without_any k i hk hk2 hi (lv : Int) ww v h1 (by omega) W)
  have HDG := Lib.hid (fun (i : Nat) (hi : i ≤ 5) W => digit_any k i hk hk2 hi (lv : Int) ww y hy (by omega) W)
  have HWT := Lib.hid (fun (i : Nat) (hi : i ≤ 5) (v d : Int) (h1 : 0 ≤ v) (h2 : v ≤ 1000) (h3 : 0 ≤ d) (h4 : d ≤ 16) W => with_any k i hk hk2 hi (lv : Int) ww v d h1 h2 h3 h4 W)
  have HDB := Lib.hid (fun (i : Nat) => dig_bound (k := k) (i := i) (x := y) hk)
  have hlx2 : x / ww < lv := Int.ediv_lt_of_lt_mul (by omega) hx2
  have hlx0 := Int.ediv_nonneg hx (show 0 ≤ ww by omega)
  have hwx0 := Int.emod_nonneg x (show ww ≠ 0 by omega)
  have hwx1 := Int.emod_lt_of_pos x (show 0 < ww by omega)
  have hne : ww ≠ 0 := by omega
  have E1 : wrap64 (x.tdiv ww) = x / ww := by rw [Int.tdiv_eq_ediv_of_nonneg hx]; unfold wrap64; omega
  have E2 : x.tmod ww = x % ww := Int.tmod_eq_emod_of_nonneg hx
  have HKK := Lib.hid (And.intro hk (And.intro hk2 (And.intro hlv hlv2)))
  have HYY := Lib.hid (And.intro hy hy2)
  obtain ⟨lx, hlx⟩ := Int.eq_ofNat_of_zero_le hlx0
  rw [hlx] at hDL hlx2 E1
  have hlx3 : lx < lv := by omega
  rw [Int.toNat_natCast] at hDL
  have HDL := Lib.hid hDL
  generalize treeL k lv x y = DL at *
  generalize x % ww = wx at *
  have k0 := HC.out.m0
  have k1 := HC.out.m1
  have k2 := HC.out.m2
  have c0 := cellR 0 k0 rfl
  have c1 := cellR 1 k0 rfl
  have c2 := cellR 2 k0 rfl
  have d0 := cellR 0 k1 rfl
  have e0 := cellR 0 k2 rfl
  clear hDL hww hk hk2 hlv hlv2 hy hy2 hx hx2 hww2 hw1 hlx0 hlx2 hlx
  refine callsIn_of_wp Tryz.func189 rfl trivial ?_ rfl
  simp only [Tryz.ntmps189, List.size_toArray, List.length_cons, List.length_nil, Nat.reduceAdd, Nat.reduceSub, Array.replicate_succ, Array.replicate_zero, List.push_toArray, List.append_toArray, List.nil_append, List.cons_append]
  gi_wp2
  refine wpIn_wide.2 ?_
  go_quiet (fail)
  replace HC := Lib.hid (HC.out.drewN nq)
  replace h0 : J [] (W.drewN nq) := (HP.out []).jgrow _ _ h0 (below_drewN (Below.refl _ _) _)
  generalize W.drewN nq = W1 at *
  have HE1 := Lib.hid E1
  clear k0 k1 k2 c0 c1 c2 d0 e0 E1 E2
  gi_wp2
  gi_loopw [5, 6] (fun a b wr => ∃ (l : Nat) (wd : Int) (pre : List (Int × Int)), l < lv ∧ a = .int .i64 (l : Int) ∧ b = .int .i64 wd ∧ 0 ≤ wd ∧ wd < ww ∧ Hid (pre ++ upL k ww y (lv - l) l wd = DL) ∧ J pre wr ∧ Hid (Cap n0 o [(Bs, .cells #[.int .i64 (k : Int), .int .i64 (lv : Int), .int .i64 ww] 142 (0, 0)), (Bx, .cells #[.int .i64 x] 3 (0, 0)), (By, .cells #[.int .i64 y] 3 (0, 0))] wr)) (fun a _ _ => lv - (intOf a).toNat)
  case atStart =>
    have hup : Hid ([] ++ upL k ww y (lv - lx) lx wx = DL) := by
      show _ = _
      rw [HDL.out, List.nil_append]
      refine (upF (lv := lv) (fun l wd h h1 h2 => ?_) (fun l wd h h1 h2 => HWI.out l wd (digI k l y) h h1 h2 (HDB.out l).1 (HDB.out l).2) lv lx wx hlx3 (by omega) hwx0 hwx1).symm
      rw [h, ← HWW.out, HTOP.out wd h1 h2, HTOP.out y HYY.out.1 HYY.out.2]
    exact ⟨lx, wx, [], hlx3, by rw [HE1.out], rfl, hwx0, hwx1, hup, h0, HC⟩
  case round =>
    obtain ⟨l, wd, pre, hl, rfl, rfl, hwd0, hwd1, HU, hJ, HC1⟩ := hrel
    have hk4 := HKK.out
    have HQ1 := Lib.hid (fun W => HW3.out l (by omega) wd hwd0 (by omega) W)
    have HQ2 := Lib.hid (fun W => HW3.out l (by omega) y HYY.out.1 (by have := HYY.out.2; omega) W)
    have hdb := HDB.out l
    have HD1 := Lib.hid (fun W => HDG.out l (by omega) W)
    have HT1 := Lib.hid (fun W => HWT.out l (by omega) wd (digI k l y) hwd0 (by omega) hdb.1 (by omega) W)
    have HWB := Lib.hid (fun (h : l < lv - 1) => HWI.out l wd (digI k l y) h hwd0 hwd1 hdb.1 hdb.2)
    have HEQ := Lib.hid (fun (h : l = lv - 1) => show wd / ((k ^ l : Nat) : Int) = y / ((k ^ l : Nat) : Int) by
      rw [h, ← HWW.out, HTOP.out wd hwd0 hwd1, HTOP.out y HYY.out.1 HYY.out.2])
    have HUS : Hid (upL k ww y (lv - l) l wd = if wd / ((k ^ l : Nat) : Int) ≠ y / ((k ^ l : Nat) : Int) then (((l + 1 : Nat) : Int) * ww + wthI k l wd (digI k l y), 0) :: upL k ww y (lv - (l + 1)) (l + 1) (wthI k l wd (digI k l y)) else downL k ww y l wd) := by
      show _ = _
      rw [show lv - l = (lv - (l + 1)) + 1 by omega]; rfl
    generalize wd / ((k ^ l : Nat) : Int) = q1 at *
    generalize y / ((k ^ l : Nat) : Int) = q2 at *
    generalize wthI k l wd (digI k l y) = wd2 at *
    generalize digI k l y = dg at *
    clear hdb hk4
    gi_wp2
    refine region_det (by kernel_rfl) (I := fun listed a' w' => Hid (Below wr.heap.size wr w') ∧ a' = ⟨#[Value.func (Fn.yield ll) #[] #[], Value.pointer (some ⟨Bx, 0, none⟩), Value.pointer (some ⟨Bs, 0, none⟩), Value.pointer (some ⟨By, 0, none⟩), undef, Value.int IntKind.i64 ((l : Int)), Value.int IntKind.i64 (wd), Value.int IntKind.i64 (x), Value.pointer (some ⟨Bs, 2, none⟩), Value.int IntKind.i64 (ww), Value.int IntKind.i64 (wrap64 (x.tdiv ww)), Value.int IntKind.i64 (x), Value.pointer (some ⟨Bs, 2, none⟩), Value.int IntKind.i64 (ww), Value.int IntKind.i64 (wx), (if listed.getD 0 false = true then Value.agg #[.int .i64 (k : Int), .int .i64 (lv : Int), .int .i64 ww] else u15), (if listed.getD 1 false = true then Value.int IntKind.i64 (wd) else u16), (if listed.getD 2 false = true then Value.int IntKind.i64 ((l : Int)) else u17), (if listed.getD 3 false = true then Value.int IntKind.i64 (q1) else u18), (if listed.getD 4 false = true then Value.agg #[.int .i64 (k : Int), .int .i64 (lv : Int), .int .i64 ww] else u19), (if listed.getD 5 false = true then Value.int IntKind.i64 (y) else u20), (if listed.getD 6 false = true then Value.int IntKind.i64 ((l : Int)) else u21), (if listed.getD 7 false = true then Value.int IntKind.i64 (q2) else u22), (if listed.getD 8 false = true then Value.bool (q1 != q2) else u23), u24, u25, u26, u27, u28, u29, u30, u31, u32, u33, u34, u35, u36, u37, u38, u39, u40, u41, u42, undef, undef, undef, undef, undef, undef, undef, undef, undef, undef, undef, undef, undef, undef, undef, undef, undef, undef, undef, undef, undef], []⟩) (hup_check (by kernel_rfl)) ?h0 ?step ?fin
    case h0 => exact ⟨(Below.refl _ _).drew, rfl⟩
    case step => as_aux_lemma =>
      intro listed a' w' i hs hbi hdep hi ⟨IB, ha⟩
      obtain ⟨ls⟩ := listed
      match ls, hs with
      | [x0, x1, x2, x3, x4, x5, x6, x7, x8], _ =>
      subst ha
      have hi' : i = 0 ∨ i = 1 ∨ i = 2 ∨ i = 3 ∨ i = 4 ∨ i = 5 ∨ i = 6 ∨ i = 7 ∨ i = 8 := by simp at hi; omega
      rcases hi' with rfl | rfl | rfl | rfl | rfl | rfl | rfl | rfl | rfl
      · obtain rfl : x0 = false := by simpa using hbi
        refine wpOpIn_load_row rfl rfl 142 _ rfl Bs rfl 142 _ _ _ (heapB IB.out HC1.out.m0) Tryz.underlying142 rfl info109 ?_
        exact ⟨IB, rfl⟩
      · obtain rfl : x1 = false := by simpa using hbi
        refine wpOpIn_plain rfl rfl rfl ?_
        exact ⟨IB, rfl⟩
      · obtain rfl : x2 = false := by simpa using hbi
        refine wpOpIn_plain rfl rfl rfl ?_
        exact ⟨IB, rfl⟩
      · obtain rfl : x3 = false := by simpa using hbi
        obtain rfl : x0 = true := hdep _ rfl ⟨0, .data⟩ (by simp) rfl
        obtain rfl : x1 = true := hdep _ rfl ⟨1, .data⟩ (by simp) rfl
        obtain rfl : x2 = true := hdep _ rfl ⟨2, .data⟩ (by simp) rfl
        refine wpOpIn_call (args := #[Value.agg #[.int .i64 (k : Int), .int .i64 (lv : Int), .int .i64 ww], Value.int IntKind.i64 (wd), Value.int IntKind.i64 ((l : Int))]) rfl rfl (sem_call3 rfl rfl rfl rfl (enters_of Tryz.func190 (by kernel_rfl) rfl)) (HQ1.out w') ?_
        rintro e V ⟨rfl, hb⟩
        exact ⟨_, rfl, (IB.out.trans (hb.mono IB.out.size)), rfl⟩
      · obtain rfl : x4 = false := by simpa using hbi
        refine wpOpIn_load_row rfl rfl 142 _ rfl Bs rfl 142 _ _ _ (heapB IB.out HC1.out.m0) Tryz.underlying142 rfl info109 ?_
        exact ⟨IB, rfl⟩
      · obtain rfl : x5 = false := by simpa using hbi
        have c9 := kcell IB.out (cellR 0 HC1.out.m2 rfl)
        refine wpOpIn_plain (v := Value.int IntKind.i64 (y)) (w' := w') rfl rfl (by simp [Oper.semAt, execOp, go_sem, c9]) ?_
        exact ⟨IB, rfl⟩
      · obtain rfl : x6 = false := by simpa using hbi
        refine wpOpIn_plain rfl rfl rfl ?_
        exact ⟨IB, rfl⟩
      · obtain rfl : x7 = false := by simpa using hbi
        obtain rfl : x4 = true := hdep _ rfl ⟨4, .data⟩ (by simp) rfl
        obtain rfl : x5 = true := hdep _ rfl ⟨5, .data⟩ (by simp) rfl
        obtain rfl : x6 = true := hdep _ rfl ⟨6, .data⟩ (by simp) rfl
        refine wpOpIn_call (args := #[Value.agg #[.int .i64 (k : Int), .int .i64 (lv : Int), .int .i64 ww], Value.int IntKind.i64 (y), Value.int IntKind.i64 ((l : Int))]) rfl rfl (sem_call3 rfl rfl rfl rfl (enters_of Tryz.func190 (by kernel_rfl) rfl)) (HQ2.out w') ?_
        rintro e V ⟨rfl, hb⟩
        exact ⟨_, rfl, (IB.out.trans (hb.mono IB.out.size)), rfl⟩
      · obtain rfl : x8 = false := by simpa using hbi
        obtain rfl : x3 = true := hdep _ rfl ⟨3, .data⟩ (by simp) rfl
        obtain rfl : x7 = true := hdep _ rfl ⟨7, .data⟩ (by simp) rfl
        refine wpOpIn_plain (v := Value.bool (q1 != q2)) (w' := w') rfl rfl (by simp [Oper.semAt, execOp, go_sem]) ?_
        exact ⟨IB, rfl⟩
    case fin =>
    intro listed a' Z hs hall ⟨IB, ha⟩
    obtain ⟨ls⟩ := listed
    match ls, hs with
    | [x0, x1, x2, x3, x4, x5, x6, x7, x8], _ =>
    obtain rfl : x0 = true := hall 0 (by simp)
    obtain rfl : x1 = true := hall 1 (by simp)
    obtain rfl : x2 = true := hall 2 (by simp)
    obtain rfl : x3 = true := hall 3 (by simp)
    obtain rfl : x4 = true := hall 4 (by simp)
    obtain rfl : x5 = true := hall 5 (by simp)
    obtain rfl : x6 = true := hall 6 (by simp)
    obtain rfl : x7 = true := hall 7 (by simp)
    obtain rfl : x8 = true := hall 8 (by simp)
    subst ha
    have HZ : Hid (Below wr.heap.size wr Z) := IB
    replace HC1 := Lib.hid (HC1.out.below (HP.out pre) hJ HZ.out)
    replace hJ := (HP.out pre).jgrow _ _ hJ HZ.out
    clear IB hall hs HZ
    dsimp only [Exit.then, Exit.inBlock]
    by_cases hq : q1 = q2
    case neg =>
      have hqb : (q1 != q2) = true := bne_iff_ne.2 hq
      have hl1 : l < lv - 1 := by
        by_cases h : l = lv - 1
        · exact absurd (HEQ.out h) hq
        · omega
      obtain ⟨w0, w1⟩ := HWB.out hl1
      have HU2 : Hid (pre ++ ((((l + 1 : Nat) : Int) * ww + wd2, 0) :: upL k ww y (lv - (l + 1)) (l + 1) wd2) = DL) := by
        show _ = _; rw [← HU.out, HUS.out, if_pos hq]
      clear HU HUS HEQ HQ1 HQ2 hq HWB
      have hk4 := HKK.out
      have hmm := Int.mul_le_mul (show (((l + 1 : Nat) : Int)) ≤ 5 by omega) hwb (by omega) (by decide)
      have hmn := Int.mul_nonneg (show (0 : Int) ≤ ((l + 1 : Nat) : Int) by omega) (show 0 ≤ ww by omega)
      have hlc : ((l + 1 : Nat) : Int) = (l : Int) + 1 := by omega
      have hlo : l + 1 < lv := by omega
      have hms : lv - (intOf (.int .i64 ((l : Int) + 1))).toNat < lv - (intOf (.int .i64 (l : Int))).toNat := by simp [intOf]; omega
      have HCAST : Hid (Value.int .i64 ((l : Int) + 1) = .int .i64 ((l + 1 : Nat) : Int)) := by show _ = _; rw [hlc]
      rw [hlc] at HU2 hmm hmn
      have HW1 := Lib.hid (wrap_small ((l : Int) + 1) (by omega) (by omega))
      have HW2 := Lib.hid (wrap_small (((l : Int) + 1) * ww) (by omega) (by omega))
      have HW3' := Lib.hid (wrap_small (((l : Int) + 1) * ww + wd2) (by omega) (by omega))
      have HU3 : Hid ((pre ++ [(((l : Int) + 1) * ww + wd2, 0)]) ++ upL k ww y (lv - (l + 1)) (l + 1) wd2 = DL) := by show _ = _; rw [List.append_assoc]; exact HU2.out
      clear hmm hmn hlc hk4
      obtain ⟨wz, rfl⟩ : ∃ wz, wz = Z := ⟨_, rfl⟩
      gi_wp2
      refine region_det (by kernel_rfl) (I := fun listed a' w' => Hid (Below wz.heap.size wz w') ∧ Hid (listed.getD 8 false = true → listed.getD 1 false = true) ∧ a' = ⟨#[Value.func (Fn.yield ll) #[] #[], Value.pointer (some ⟨Bx, 0, none⟩), Value.pointer (some ⟨Bs, 0, none⟩), Value.pointer (some ⟨By, 0, none⟩), undef, Value.int IntKind.i64 ((l : Int)), (if listed.getD 8 false = true then Value.int IntKind.i64 (wd2) else Value.int IntKind.i64 (wd)), Value.int IntKind.i64 (x), Value.pointer (some ⟨Bs, 2, none⟩), Value.int IntKind.i64 (ww), Value.int IntKind.i64 (wrap64 (x.tdiv ww)), Value.int IntKind.i64 (x), Value.pointer (some ⟨Bs, 2, none⟩), Value.int IntKind.i64 (ww), Value.int IntKind.i64 (wx), Value.agg #[.int .i64 (k : Int), .int .i64 (lv : Int), .int .i64 ww], Value.int IntKind.i64 (wd), Value.int IntKind.i64 ((l : Int)), Value.int IntKind.i64 (q1), Value.agg #[.int .i64 (k : Int), .int .i64 (lv : Int), .int .i64 ww], Value.int IntKind.i64 (y), Value.int IntKind.i64 ((l : Int)), Value.int IntKind.i64 (q2), Value.bool true, (if listed.getD 0 false = true then Value.agg #[.int .i64 (k : Int), .int .i64 (lv : Int), .int .i64 ww] else u24), (if listed.getD 1 false = true then Value.int IntKind.i64 (wd) else u25), (if listed.getD 2 false = true then Value.int IntKind.i64 ((l : Int)) else u26), (if listed.getD 3 false = true then Value.agg #[.int .i64 (k : Int), .int .i64 (lv : Int), .int .i64 ww] else u27), (if listed.getD 4 false = true then Value.int IntKind.i64 (y) else u28), (if listed.getD 5 false = true then Value.int IntKind.i64 ((l : Int)) else u29), (if listed.getD 6 false = true then Value.int IntKind.i64 (dg) else u30), (if listed.getD 7 false = true then Value.int IntKind.i64 (wd2) else u31), u32, u33, u34, u35, u36, u37, u38, u39, u40, u41, u42, undef, undef, undef, undef, undef, undef, undef, undef, undef, undef, undef, undef, undef, undef, undef, undef, undef, undef, undef, undef, undef], []⟩) (hup_check (by kernel_rfl)) ?h0 ?step ?fin
      case h0 => exact ⟨(Below.refl _ _).drew, (fun h => by simp at h), rfl⟩
      case step => as_aux_lemma =>
        intro listed a' w' i hs hbi hdep hi ⟨IB, J8, ha⟩
        obtain ⟨ls⟩ := listed
        match ls, hs with
        | [x0, x1, x2, x3, x4, x5, x6, x7, x8], _ =>
        subst ha
        have hi' : i = 0 ∨ i = 1 ∨ i = 2 ∨ i = 3 ∨ i = 4 ∨ i = 5 ∨ i = 6 ∨ i = 7 ∨ i = 8 := by simp at hi; omega
        rcases hi' with rfl | rfl | rfl | rfl | rfl | rfl | rfl | rfl | rfl
        · obtain rfl : x0 = false := by simpa using hbi
          refine wpOpIn_load_row rfl rfl 142 _ rfl Bs rfl 142 _ _ _ (heapB IB.out HC1.out.m0) Tryz.underlying142 rfl info109 ?_
          exact ⟨IB, J8, rfl⟩
        · obtain rfl : x1 = false := by simpa using hbi
          obtain rfl : x8 = false := Bool.eq_false_iff.2 fun h => by have := J8.out h; cases this
          refine wpOpIn_plain rfl rfl rfl ?_
          exact ⟨IB, (fun _ => rfl), rfl⟩
        · obtain rfl : x2 = false := by simpa using hbi
          refine wpOpIn_plain rfl rfl rfl ?_
          exact ⟨IB, J8, rfl⟩
        · obtain rfl : x3 = false := by simpa using hbi
          refine wpOpIn_load_row rfl rfl 142 _ rfl Bs rfl 142 _ _ _ (heapB IB.out HC1.out.m0) Tryz.underlying142 rfl info109 ?_
          exact ⟨IB, J8, rfl⟩
        · obtain rfl : x4 = false := by simpa using hbi
          have c9 := kcell IB.out (cellR 0 HC1.out.m2 rfl)
          refine wpOpIn_plain (v := Value.int IntKind.i64 (y)) (w' := w') rfl rfl (by simp [Oper.semAt, execOp, go_sem, c9]) ?_
          exact ⟨IB, J8, rfl⟩
        · obtain rfl : x5 = false := by simpa using hbi
          refine wpOpIn_plain rfl rfl rfl ?_
          exact ⟨IB, J8, rfl⟩
        · obtain rfl : x6 = false := by simpa using hbi
          obtain rfl : x3 = true := hdep _ rfl ⟨3, .data⟩ (by simp) rfl
          obtain rfl : x4 = true := hdep _ rfl ⟨4, .data⟩ (by simp) rfl
          obtain rfl : x5 = true := hdep _ rfl ⟨5, .data⟩ (by simp) rfl
          refine wpOpIn_call (args := #[Value.agg #[.int .i64 (k : Int), .int .i64 (lv : Int), .int .i64 ww], Value.int IntKind.i64 (y), Value.int IntKind.i64 ((l : Int))]) rfl rfl (sem_call3 rfl rfl rfl rfl (enters_of Tryz.func191 (by kernel_rfl) rfl)) (HD1.out w') ?_
          rintro e V ⟨rfl, hb⟩
          exact ⟨_, rfl, (IB.out.trans (hb.mono IB.out.size)), J8, rfl⟩
        · obtain rfl : x7 = false := by simpa using hbi
          obtain rfl : x0 = true := hdep _ rfl ⟨0, .data⟩ (by simp) rfl
          obtain rfl : x1 = true := hdep _ rfl ⟨1, .data⟩ (by simp) rfl
          obtain rfl : x2 = true := hdep _ rfl ⟨2, .data⟩ (by simp) rfl
          obtain rfl : x6 = true := hdep _ rfl ⟨6, .data⟩ (by simp) rfl
          refine wpOpIn_call (args := #[Value.agg #[.int .i64 (k : Int), .int .i64 (lv : Int), .int .i64 ww], Value.int IntKind.i64 (wd), Value.int IntKind.i64 ((l : Int)), Value.int IntKind.i64 (dg)]) rfl rfl (sem_call4 rfl rfl rfl rfl rfl (enters_of Tryz.func188 (by kernel_rfl) rfl)) (HT1.out w') ?_
          rintro e V ⟨rfl, hb⟩
          exact ⟨_, rfl, (IB.out.trans (hb.mono IB.out.size)), J8, rfl⟩
        · obtain rfl : x8 = false := by simpa using hbi
          obtain rfl : x7 = true := hdep _ rfl ⟨7, .data⟩ (by simp) rfl
          obtain rfl : x1 = true := hdep _ rfl ⟨1, .phase⟩ (by simp) rfl
          refine wpOpIn_plain rfl rfl rfl ?_
          exact ⟨IB, (fun _ => rfl), rfl⟩
      case fin =>
      intro listed a' Z hs hall ⟨IB, J8, ha⟩
      obtain ⟨ls⟩ := listed
      match ls, hs with
      | [x0, x1, x2, x3, x4, x5, x6, x7, x8], _ =>
      obtain rfl : x0 = true := hall 0 (by simp)
      obtain rfl : x1 = true := hall 1 (by simp)
      obtain rfl : x2 = true := hall 2 (by simp)
      obtain rfl : x3 = true := hall 3 (by simp)
      obtain rfl : x4 = true := hall 4 (by simp)
      obtain rfl : x5 = true := hall 5 (by simp)
      obtain rfl : x6 = true := hall 6 (by simp)
      obtain rfl : x7 = true := hall 7 (by simp)
      obtain rfl : x8 = true := hall 8 (by simp)
      subst ha
      have HZ : Hid (Below wz.heap.size wz Z) := IB
      replace HC1 := Lib.hid (HC1.out.below (HP.out pre) hJ HZ.out)
      replace hJ := (HP.out pre).jgrow _ _ hJ HZ.out
      clear IB hall hs HZ J8
      dsimp only [Exit.then, Exit.inBlock]
      clear HD1 HT1
      have hlt := HU2.out
      clear hlt
      obtain ⟨fn, tm, as_, bd, hy, hR⟩ := HY.out pre (((l : Int) + 1) * ww + wd2, 0) _ hJ (by rw [← HU2.out]; simp)
      have c2 := cellR 2 HC1.out.m0 rfl
      have hw1 := HW1.out
      have hw2 := HW2.out
      have hw3 := HW3'.out
      gi_wp2
      clear hw1 hw2 hw3
      refine ⟨fun h => (by cases h), ?_⟩
      refine hR.mono ?_
      rintro e W2 ⟨rfl, h1, hkq⟩
      replace HC1 := Lib.hid (HC1.out.kq hkq)
      clear hy hR hkq hJ c2
      gi_wp2
      go_roundw
      case rel =>
        exact ⟨l + 1, wd2, _, hlo, HCAST.out, rfl, w0, w1, HU3, h1, HC1⟩
      case measure => exact hms
    case pos =>
      have hqb : (q1 != q2) = false := by simp [hq]
      have HU2 : Hid (pre ++ downL k ww y l wd = DL) := by
        show _ = _; rw [← HU.out, HUS.out, if_neg (by simp [hq])]
      clear HU HUS HEQ HQ1 HQ2 HWB HD1 HT1 hq
      obtain ⟨wz, rfl⟩ : ∃ wz, wz = Z := ⟨_, rfl⟩
      gi_wp2
      clear hqb
      have HL2 := Lib.hid hl
      clear hlx3
      gi_loopw [5, 6] (fun a b wr => ∃ (m : Nat) (wv : Int) (pre : List (Int × Int)), m < lv ∧ a = .int .i64 (m : Int) ∧ b = .int .i64 wv ∧ 0 ≤ wv ∧ wv < ww ∧ Hid (pre ++ downL k ww y m wv = DL) ∧ J pre wr ∧ Hid (Cap n0 o [(Bs, .cells #[.int .i64 (k : Int), .int .i64 (lv : Int), .int .i64 ww] 142 (0, 0)), (Bx, .cells #[.int .i64 x] 3 (0, 0)), (By, .cells #[.int .i64 y] 3 (0, 0))] wr)) (fun a _ _ => (intOf a).toNat)
      case atStart => exact ⟨l, wd, pre, hl, rfl, rfl, hwd0, hwd1, HU2, hJ, HC1⟩
      case round =>
        clear HU2 hJ HC1 pre
        obtain ⟨m1, wv, pre, hm, rfl, rfl, hwv0, hwv1, HU, hJ, HC1⟩ := hrel
        cases m1 with
        | zero =>
          have HU2 : Hid (pre = DL) := by show _ = _; rw [← HU.out]; simp [downL]
          clear HU
          gi_wp2
          go_end0
          exact ⟨⟨_, rfl⟩, by rw [← HU2.out]; exact hJ⟩
        | succ m =>
          have hk4 := HKK.out
          have hdb := HDB.out m
          have HD1 := Lib.hid (fun W => HDG.out m (by omega) W)
          have HT1 := Lib.hid (fun W => HWT.out m (by omega) wv (digI k m y) hwv0 (by omega) hdb.1 (by omega) W)
          obtain ⟨w0, w1⟩ := HWI.out m wv (digI k m y) (by omega) hwv0 hwv1 hdb.1 hdb.2
          have HU2 : Hid (pre ++ (((m : Int) * ww + wthI k m wv (digI k m y), 0) :: downL k ww y m (wthI k m wv (digI k m y))) = DL) := HU.out
          have HU3 : Hid ((pre ++ [((m : Int) * ww + wthI k m wv (digI k m y), 0)]) ++ downL k ww y m (wthI k m wv (digI k m y)) = DL) := by show _ = _; rw [List.append_assoc]; exact HU2.out
          generalize wthI k m wv (digI k m y) = wd2 at *
          generalize digI k m y = dg at *
          have hmm := Int.mul_le_mul (show (m : Int) ≤ 5 by omega) hwb (by omega) (by decide)
          have hmn := Int.mul_nonneg (show (0 : Int) ≤ (m : Int) by omega) (show 0 ≤ ww by omega)
          have hlo : m < lv := by omega
          have hms : (intOf (.int .i64 (m : Int))).toNat < (intOf (.int .i64 ((m + 1 : Nat) : Int))).toNat := by simp [intOf]
          have hpos : decide (0 < ((m + 1 : Nat) : Int)) = true := decide_eq_true (by omega)
          have hcm : ((m + 1 : Nat) : Int) - 1 = (m : Int) := by omega
          have HW0 := Lib.hid (wrap_small (m : Int) (by omega) (by omega))
          have HW2 := Lib.hid (wrap_small ((m : Int) * ww) (by omega) (by omega))
          have HW3' := Lib.hid (wrap_small ((m : Int) * ww + wd2) (by omega) (by omega))
          clear HU hmm hmn hk4 hdb
          gi_wp2
          rw [HW0.out]
          clear HW0 hcm hpos
          refine region_det (by kernel_rfl) (I := fun listed a' w' => Hid (Below wr.heap.size wr w') ∧ Hid (listed.getD 8 false = true → listed.getD 1 false = true) ∧ a' = ⟨#[Value.func (Fn.yield ll) #[] #[], Value.pointer (some ⟨Bx, 0, none⟩), Value.pointer (some ⟨Bs, 0, none⟩), Value.pointer (some ⟨By, 0, none⟩), undef, Value.int IntKind.i64 ((m : Int)), (if listed.getD 8 false = true then Value.int IntKind.i64 (wd2) else Value.int IntKind.i64 (wv)), Value.int IntKind.i64 (x), Value.pointer (some ⟨Bs, 2, none⟩), Value.int IntKind.i64 (ww), Value.int IntKind.i64 (wrap64 (x.tdiv ww)), Value.int IntKind.i64 (x), Value.pointer (some ⟨Bs, 2, none⟩), Value.int IntKind.i64 (ww), Value.int IntKind.i64 (wx), Value.agg #[.int .i64 (k : Int), .int .i64 (lv : Int), .int .i64 ww], Value.int IntKind.i64 (wd), Value.int IntKind.i64 ((l : Int)), Value.int IntKind.i64 (q1), Value.agg #[.int .i64 (k : Int), .int .i64 (lv : Int), .int .i64 ww], Value.int IntKind.i64 (y), Value.int IntKind.i64 ((l : Int)), Value.int IntKind.i64 (q2), Value.bool false, u24, u25, u26, u27, u28, u29, u30, u31, u32, u33, u34, u35, u36, u37, u38, u39, u40, u41, u42, Value.int IntKind.i64 (((m + 1 : Nat) : Int)), Value.bool true, Value.int IntKind.i64 (((m + 1 : Nat) : Int)), Value.int IntKind.i64 ((m : Int)), (if listed.getD 0 false = true then Value.agg #[.int .i64 (k : Int), .int .i64 (lv : Int), .int .i64 ww] else u47), (if listed.getD 1 false = true then Value.int IntKind.i64 (wv) else u48), (if listed.getD 2 false = true then Value.int IntKind.i64 ((m : Int)) else u49), (if listed.getD 3 false = true then Value.agg #[.int .i64 (k : Int), .int .i64 (lv : Int), .int .i64 ww] else u50), (if listed.getD 4 false = true then Value.int IntKind.i64 (y) else u51), (if listed.getD 5 false = true then Value.int IntKind.i64 ((m : Int)) else u52), (if listed.getD 6 false = true then Value.int IntKind.i64 (dg) else u53), (if listed.getD 7 false = true then Value.int IntKind.i64 (wd2) else u54), u55, u56, u57, u58, u59, u60, u61, u62, u63], []⟩) (hup_check (by kernel_rfl)) ?h0 ?step ?fin
          case h0 => exact ⟨(Below.refl _ _).drew, (fun h => by simp at h), rfl⟩
          case step => as_aux_lemma =>
            intro listed a' w' i hs hbi hdep hi ⟨IB, J8, ha⟩
            obtain ⟨ls⟩ := listed
            match ls, hs with
            | [x0, x1, x2, x3, x4, x5, x6, x7, x8], _ =>
            subst ha
            have hi' : i = 0 ∨ i = 1 ∨ i = 2 ∨ i = 3 ∨ i = 4 ∨ i = 5 ∨ i = 6 ∨ i = 7 ∨ i = 8 := by simp at hi; omega
            rcases hi' with rfl | rfl | rfl | rfl | rfl | rfl | rfl | rfl | rfl
            · obtain rfl : x0 = false := by simpa using hbi
              refine wpOpIn_load_row rfl rfl 142 _ rfl Bs rfl 142 _ _ _ (heapB IB.out HC1.out.m0) Tryz.underlying142 rfl info109 ?_
              exact ⟨IB, J8, rfl⟩
            · obtain rfl : x1 = false := by simpa using hbi
              obtain rfl : x8 = false := Bool.eq_false_iff.2 fun h => by have := J8.out h; cases this
              refine wpOpIn_plain rfl rfl rfl ?_
              exact ⟨IB, (fun _ => rfl), rfl⟩
            · obtain rfl : x2 = false := by simpa using hbi
              refine wpOpIn_plain rfl rfl rfl ?_
              exact ⟨IB, J8, rfl⟩
            · obtain rfl : x3 = false := by simpa using hbi
              refine wpOpIn_load_row rfl rfl 142 _ rfl Bs rfl 142 _ _ _ (heapB IB.out HC1.out.m0) Tryz.underlying142 rfl info109 ?_
              exact ⟨IB, J8, rfl⟩
            · obtain rfl : x4 = false := by simpa using hbi
              have c9 := kcell IB.out (cellR 0 HC1.out.m2 rfl)
              refine wpOpIn_plain (v := Value.int IntKind.i64 (y)) (w' := w') rfl rfl (by simp [Oper.semAt, execOp, go_sem, c9]) ?_
              exact ⟨IB, J8, rfl⟩
            · obtain rfl : x5 = false := by simpa using hbi
              refine wpOpIn_plain rfl rfl rfl ?_
              exact ⟨IB, J8, rfl⟩
            · obtain rfl : x6 = false := by simpa using hbi
              obtain rfl : x3 = true := hdep _ rfl ⟨3, .data⟩ (by simp) rfl
              obtain rfl : x4 = true := hdep _ rfl ⟨4, .data⟩ (by simp) rfl
              obtain rfl : x5 = true := hdep _ rfl ⟨5, .data⟩ (by simp) rfl
              refine wpOpIn_call (args := #[Value.agg #[.int .i64 (k : Int), .int .i64 (lv : Int), .int .i64 ww], Value.int IntKind.i64 (y), Value.int IntKind.i64 ((m : Int))]) rfl rfl (sem_call3 rfl rfl rfl rfl (enters_of Tryz.func191 (by kernel_rfl) rfl)) (HD1.out w') ?_
              rintro e V ⟨rfl, hb⟩
              exact ⟨_, rfl, (IB.out.trans (hb.mono IB.out.size)), J8, rfl⟩
            · obtain rfl : x7 = false := by simpa using hbi
              obtain rfl : x0 = true := hdep _ rfl ⟨0, .data⟩ (by simp) rfl
              obtain rfl : x1 = true := hdep _ rfl ⟨1, .data⟩ (by simp) rfl
              obtain rfl : x2 = true := hdep _ rfl ⟨2, .data⟩ (by simp) rfl
              obtain rfl : x6 = true := hdep _ rfl ⟨6, .data⟩ (by simp) rfl
              refine wpOpIn_call (args := #[Value.agg #[.int .i64 (k : Int), .int .i64 (lv : Int), .int .i64 ww], Value.int IntKind.i64 (wv), Value.int IntKind.i64 ((m : Int)), Value.int IntKind.i64 (dg)]) rfl rfl (sem_call4 rfl rfl rfl rfl rfl (enters_of Tryz.func188 (by kernel_rfl) rfl)) (HT1.out w') ?_
              rintro e V ⟨rfl, hb⟩
              exact ⟨_, rfl, (IB.out.trans (hb.mono IB.out.size)), J8, rfl⟩
            · obtain rfl : x8 = false := by simpa using hbi
              obtain rfl : x7 = true := hdep _ rfl ⟨7, .data⟩ (by simp) rfl
              obtain rfl : x1 = true := hdep _ rfl ⟨1, .phase⟩ (by simp) rfl
              refine wpOpIn_plain rfl rfl rfl ?_
              exact ⟨IB, (fun _ => rfl), rfl⟩
          case fin =>
          intro listed a' Z hs hall ⟨IB, J8, ha⟩
          obtain ⟨ls⟩ := listed
          match ls, hs with
          | [x0, x1, x2, x3, x4, x5, x6, x7, x8], _ =>
          obtain rfl : x0 = true := hall 0 (by simp)
          obtain rfl : x1 = true := hall 1 (by simp)
          obtain rfl : x2 = true := hall 2 (by simp)
          obtain rfl : x3 = true := hall 3 (by simp)
          obtain rfl : x4 = true := hall 4 (by simp)
          obtain rfl : x5 = true := hall 5 (by simp)
          obtain rfl : x6 = true := hall 6 (by simp)
          obtain rfl : x7 = true := hall 7 (by simp)
          obtain rfl : x8 = true := hall 8 (by simp)
          subst ha
          have HZ : Hid (Below wr.heap.size wr Z) := IB
          replace HC1 := Lib.hid (HC1.out.below (HP.out pre) hJ HZ.out)
          replace hJ := (HP.out pre).jgrow _ _ hJ HZ.out
          clear IB hall hs HZ J8
          dsimp only [Exit.then, Exit.inBlock]
          clear HD1 HT1
          obtain ⟨fn, tm, as_, bd, hy, hR⟩ := HY.out pre ((m : Int) * ww + wd2, 0) _ hJ (by rw [← HU2.out]; simp)
          have c2 := cellR 2 HC1.out.m0 rfl
          have hw2 := HW2.out
          have hw3 := HW3'.out
          gi_wp2
          clear hw2 hw3
          refine ⟨fun h => (by cases h), ?_⟩
          refine hR.mono ?_
          rintro e W2 ⟨rfl, h1, hkq⟩
          replace HC1 := Lib.hid (HC1.out.kq hkq)
          clear hy hR hkq hJ c2
          gi_wp2
          go_roundw
          case rel =>
            exact ⟨m, wd2, _, hlo, rfl, rfl, w0, w1, HU3, h1, HC1⟩
          case measure => exact hms
end Go.Proofs.YtbhkenphcahifaaGreat
