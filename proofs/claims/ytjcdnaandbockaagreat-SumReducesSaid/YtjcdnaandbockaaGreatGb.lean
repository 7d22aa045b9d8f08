import Derived.Test.YtjcdnaandbockaaGreatGa
namespace Go.Proofs.YtjcdnaandbockaaGreat
open Go.RowKit Go.Shelf
attribute [local go_sem] Oper.semAt_some litZ
set_option maxRecDepth 100000
set_option maxHeartbeats 1000000

def expN (x : Nat) : Nat := x % 9223372036854775808 / 4503599627370496
def digN (x : Nat) : Nat := if 0 < expN x then x % 4503599627370496 + 4503599627370496 else x % 4503599627370496
def shN (x : Nat) : Nat := if 0 < expN x then expN x - 1 else 0
/-- a finite number times 2^1074 -/
def exactN (x : Nat) : Nat := if 9223372036854775808 ≤ x then opp (digN x * 2 ^ shN x) else digN x * 2 ^ shN x
theorem digN_lt (x : Nat) : digN x < 9007199254740992 := by unfold digN; split <;> omega
theorem shN_le {x : Nat} (h : expN x < 2047) : shN x ≤ 2045 := by unfold shN; split <;> omega
theorem big_of (D s : Nat) (hD : D < 9007199254740992) (hs : s ≤ 2045) : D * 2 ^ s < big := by
  have h1 : D * 2 ^ s < 2 ^ 53 * 2 ^ s := Nat.mul_lt_mul_of_pos_right (by simpa using hD) (Nat.two_pow_pos _)
  rw [← Nat.pow_add] at h1
  have h2 : ∀ m, m < 36 → 53 + s ≤ 64 * m → D * 2 ^ s < big := fun m hm h3 => Nat.lt_of_lt_of_le h1 (Nat.le_trans (Nat.pow_le_pow_right (by decide) h3) (big_ge m hm))
  exact h2 33 (by omega) (by omega)
theorem mag_lt {x : Nat} (h : expN x < 2047) : digN x * 2 ^ shN x < big := big_of _ _ (digN_lt x) (shN_le h)

theorem shl_u64 (D n : Nat) (hn : n ≤ 64) : Op.shift .shl .u64 D .i64 n = pure (.int .u64 ((D * 2 ^ n % 18446744073709551616 : Nat) : Int)) := by
  rw [shift_shl .u64 .i64 D n (by omega) (by simp [IntKind.bits]; omega), IntKind.wrap_u64]
  congr 2
theorem shr_u64 (D n : Nat) (hn : n ≤ 64) : Op.shift .shr .u64 D .i64 n = pure (.int .u64 ((D / 2 ^ n : Nat) : Int)) := by
  rw [shift_shr .u64 .i64 D n (by omega) (by simp [IntKind.bits]; omega)]
  congr 2

def exW (p q : Bool) (i lo hi j : Nat) : Nat := if (p && decide (j = i)) = true then lo else if (q && decide (j = i + 1)) = true then hi else 0
theorem exW_lo (q : Bool) (i lo hi j : Nat) : (if j = i then lo else exW false q i lo hi j) = exW true q i lo hi j := by
  unfold exW
  by_cases h : j = i <;> simp [h]
theorem exW_hi (p : Bool) (i lo hi j : Nat) : (if j = i + 1 then hi else exW p false i lo hi j) = exW p true i lo hi j := by
  unfold exW
  by_cases h : j = i + 1
  · have : ¬ j = i := by omega
    simp [h]
  · simp [h]
theorem exW_limb (D i up j : Nat) (hD : D < 18446744073709551616) (hu : up < 64) : limb (D * 2 ^ (64 * i + up)) j = exW true true i (D * 2 ^ up % 18446744073709551616) (D / 2 ^ (64 - up)) j := by
  rw [limb_exact D i up j hD hu]
  unfold exW
  simp

theorem sem_bin {P : Program} {o : Oper} {a : Act} {w : World} {op : BinOp} {t yt : TypeId} {x y : Operand} {vx vy v : Value} (hop : o.op = .binOp op t x y yt) (hx : a.eval x = vx) (hy : a.eval y = vy)
    (hg : (eqGuard op t x y vx vy).run P w = .ok () w) (h : (binOp op t vx vy).run P w = .ok v w) : (o.semAt none a.eval).run P w = .ok (.value v) w := by
  simp [Oper.semAt, hop, execOp, hx, hy, hg, h, Result.andThen]
theorem run_add1 (ix : Nat) (h : ix ≤ 100) (w : World) : (binOp .add 3 (.int .i64 ix) (.int .i64 1)).run Tryz.prog w = .ok (.int .i64 ((ix : Int) + 1)) w := by
  simp [go_sem]
  rw [IntKind.wrap_i64]; omega
theorem run_sub64 (up : Nat) (h : up ≤ 64) (w : World) : (binOp .sub 3 (.int .i64 64) (.int .i64 up)).run Tryz.prog w = .ok (.int .i64 (64 - (up : Int))) w := by
  simp [go_sem]
  rw [IntKind.wrap_i64]; omega
theorem run_shl (D n : Nat) (hn : n ≤ 64) (w : World) : (binOp .shl 22 (.int .u64 D) (.int .i64 n)).run Tryz.prog w = .ok (.int .u64 ((D * 2 ^ n % 18446744073709551616 : Nat) : Int)) w := by
  show (Op.shift .shl .u64 D .i64 n).run Tryz.prog w = _
  rw [shl_u64 D n hn]; rfl
theorem run_shr (D n : Nat) (hn : n ≤ 64) (w : World) : (binOp .shr 22 (.int .u64 D) (.int .i64 n)).run Tryz.prog w = .ok (.int .u64 ((D / 2 ^ n : Nat) : Int)) w := by
  show (Op.shift .shr .u64 D .i64 n).run Tryz.prog w = _
  rw [shr_u64 D n hn]; rfl
theorem run_shr' (D n : Nat) (hn : n ≤ 64) (w : World) : (binOp .shr 22 (.int .u64 D) (.int .i64 (64 - (n : Int)))).run Tryz.prog w = .ok (.int .u64 ((D / 2 ^ (64 - n) : Nat) : Int)) w := by
  have := run_shr D (64 - n) (by omega) w
  rwa [show ((64 - n : Nat) : Int) = 64 - (n : Int) by omega] at this

theorem exact_any (x : Nat) (hx : x < 18446744073709551616) (hf : expN x < 2047) (w : World) : Calls Tryz.prog 72 #[.int .u64 x] w fun e w' => e = .returned (.agg (lA (limb (exactN x)))) ∧ Below w.heap.size w w' := by
  have hb := b_andNot x hx
  have hfr := b_frac x hx
  have hx2 := hx
  obtain ⟨E, hE⟩ : ∃ E, E = expN x := ⟨_, rfl⟩
  have he : (x : Int) % 9223372036854775808 / 4503599627370496 = (E : Int) := by rw [hE]; unfold expN; omega
  have HD : Hid (digN x = if 0 < E then x % 4503599627370496 + 4503599627370496 else x % 4503599627370496) := by show _ = _; unfold digN; rw [hE]
  have HS : Hid (shN x = if 0 < E then E - 1 else 0) := by show _ = _; unfold shN; rw [hE]
  have HX : Hid (exactN x = if 9223372036854775808 ≤ x then opp (digN x * 2 ^ shN x) else digN x * 2 ^ shN x) := rfl
  have HM := Lib.hid (mag_lt hf)
  have hsg := b_sign x hx
  rw [← hE] at hf
  clear hE
  obtain ⟨h1, h2, h3, h4⟩ := two38 (fun _ => 0) (fun _ => 0) w
  have HB := Lib.hid h1
  have Q0 := Lib.hid h2
  have Q1 := Lib.hid (wat0 h3)
  have HZ := Lib.hid h4
  clear h1 h2 h3 h4
  have hDl := digN_lt x
  obtain ⟨D, hD⟩ : ∃ D, D = digN x := ⟨_, rfl⟩
  obtain ⟨s, hs⟩ : ∃ s, s = shN x := ⟨_, rfl⟩
  rw [← hD] at HD HX HM hDl
  rw [← hs] at HS HX HM
  clear hD hs
  have hs5 : s ≤ 2045 := by rw [HS.out]; split <;> omega
  obtain ⟨ix, hi9⟩ : ∃ i, i = s / 64 := ⟨_, rfl⟩
  obtain ⟨up, hup⟩ : ∃ up, up = s % 64 := ⟨_, rfl⟩
  have hsp : s = 64 * ix + up := by omega
  have hul : up < 64 := by omega
  have hil : ix ≤ 31 := by omega
  obtain ⟨lw, hlo⟩ : ∃ lo, lo = D * 2 ^ up % 18446744073709551616 := ⟨_, rfl⟩
  obtain ⟨hw, hhi⟩ : ∃ hi, hi = D / 2 ^ (64 - up) := ⟨_, rfl⟩
  have hshl := run_shl D up (by omega)
  have hshr := run_shr' D up (by omega)
  rw [← hlo] at hshl
  rw [← hhi] at hshr
  have HEX : Hid (∀ j, exW true true ix lw hw j = limb (D * 2 ^ s) j) := fun j => by rw [hsp, hlo, hhi]; exact (exW_limb D ix up j (by omega) hul).symm
  have hi2 : (s : Int) / 64 = (ix : Int) := by omega
  have hu2 : (s : Int) % 64 = (up : Int) := by omega
  have hw1 := run_add1 ix (by omega)
  have hw2 := run_sub64 up (by omega)
  obtain ⟨V, hV⟩ : ∃ V, V = D * 2 ^ s := ⟨_, rfl⟩
  rw [← hV] at HX HM HEX
  clear hV
  have HSHL := Lib.hid hshl
  have HSHR := Lib.hid hshr
  have HW1 := Lib.hid hw1
  have HW2 := Lib.hid hw2
  have HUL := Lib.hid hul
  have HIL := Lib.hid hil
  clear hi9 hup hlo hhi hsp hshl hshr hw1 hw2 hul hil
  by_cases h0 : 0 < E
  · have hEl : (0 : Int) < (E : Int) := by omega
    have hdig := b_hid (x % 4503599627370496) (by omega)
    rw [← show D = x % 4503599627370496 + 4503599627370496 by rw [HD.out, if_pos h0]] at hdig
    obtain ⟨F, hF⟩ : ∃ F, F = x % 4503599627370496 := ⟨_, rfl⟩
    rw [← hF] at hfr hdig
    have hE1 : E = s + 1 := by rw [HS.out, if_pos h0]; omega
    subst hE1
    clear HD HS h0 hF
    go_enter Tryz.func72, Tryz.ntmps72
    go_wp2_with fail
    refine (wpIn_wide (n := 0)).1 ?_
    refine region_det (by kernel_rfl) (I := fun listed a' w' => Hid (WAt w' (w.heap.size + 1) 85 #[] #[] (exW (listed.getD 11 false) (listed.getD 13 false) ix lw hw)) ∧ Hid (w'.heap[w.heap.size]? = some (.cells (lA fun _ => 0) 85 (0, 0))) ∧ Hid (Below w.heap.size w w') ∧ a' = ⟨#[Value.int IntKind.u64 ↑x, undef, Value.pointer (some (Addr.mk w.heap.size 0 none)), Value.int IntKind.u64 ↑D, Value.int IntKind.i64 ↑s, Value.int IntKind.i64 (↑s + 1), Value.pointer (some (Addr.mk (w.heap.size + 1) 0 none)), Value.int IntKind.i64 ↑ix, Value.int IntKind.i64 ↑up, Value.int IntKind.u64 ↑x, Value.int IntKind.u64 ↑F, Value.int IntKind.u64 ↑x, Value.int IntKind.u64 (↑x % 9223372036854775808), Value.int IntKind.u64 (↑s + 1), Value.int IntKind.i64 (↑s + 1), Value.int IntKind.i64 (↑s + 1), Value.bool true, Value.int IntKind.u64 ↑F, Value.int IntKind.u64 ↑D, Value.int IntKind.i64 (↑s + 1), Value.int IntKind.i64 ↑s, Value.int IntKind.i64 ↑s, Value.int IntKind.i64 ↑ix, Value.int IntKind.i64 ↑s, Value.int IntKind.i64 ↑up, (if listed.getD 0 false = true then Value.int IntKind.i64 ↑ix else undef), (if listed.getD 1 false = true then Value.int IntKind.i64 ↑ix else undef), (if listed.getD 2 false = true then Value.int IntKind.i64 (↑ix + 1) else undef), (if listed.getD 3 false = true then Value.int IntKind.u64 ↑D else undef), (if listed.getD 4 false = true then Value.int IntKind.i64 ↑up else undef), (if listed.getD 5 false = true then Value.int IntKind.u64 ↑lw else undef), (if listed.getD 6 false = true then Value.int IntKind.u64 ↑D else undef), (if listed.getD 7 false = true then Value.int IntKind.i64 ↑up else undef), (if listed.getD 8 false = true then Value.int IntKind.i64 (64 - ↑up) else undef), (if listed.getD 9 false = true then Value.int IntKind.u64 ↑hw else undef), (if listed.getD 10 false = true then Value.pointer (some ⟨(w.heap.size + 1), ix, none⟩) else undef), (if listed.getD 12 false = true then Value.pointer (some ⟨(w.heap.size + 1), (ix + 1), none⟩) else undef), undef, undef, undef, undef, undef, undef], []⟩) (hup_check (by kernel_rfl)) ?h0 ?step ?fin
    case h0 => exact ⟨Q1.out.congr (fun j _ => rfl), Q0.out, HB.out.drew, rfl⟩
    case step =>
      intro listed a' w' i hs hbi hdep hi ⟨IW, IQ, IB, ha⟩
      obtain ⟨ls⟩ := listed
      match ls, hs with
      | [x0, x1, x2, x3, x4, x5, x6, x7, x8, x9, x10, x11, x12, x13], _ =>
      subst ha
      have hi' : i = 0 ∨ i = 1 ∨ i = 2 ∨ i = 3 ∨ i = 4 ∨ i = 5 ∨ i = 6 ∨ i = 7 ∨ i = 8 ∨ i = 9 ∨ i = 10 ∨ i = 11 ∨ i = 12 ∨ i = 13 := by simp at hi; omega
      have hshl := HSHL.out
      have hshr := HSHR.out
      have hw1 := HW1.out
      have hw2 := HW2.out
      have e1 : (ix : Int) < 36 := by have := HIL.out; omega
      have e2 : (ix : Int) + 1 < 36 := by have := HIL.out; omega
      have e3 : (0 : Int) ≤ (ix : Int) + 1 := by omega
      have e4 : ((ix : Int) + 1).toNat = ix + 1 := by omega
      have e5 : ix + 1 < 36 := by have := HIL.out; omega
      have e6 : ix < 36 := by have := HIL.out; omega
      rcases hi' with rfl | rfl | rfl | rfl | rfl | rfl | rfl | rfl | rfl | rfl | rfl | rfl | rfl | rfl
      · obtain rfl : x0 = false := by simpa using hbi
        refine wpOpIn_plain rfl rfl rfl ?_
        exact ⟨IW, IQ, IB, rfl⟩
      · obtain rfl : x1 = false := by simpa using hbi
        refine wpOpIn_plain rfl rfl rfl ?_
        exact ⟨IW, IQ, IB, rfl⟩
      · obtain rfl : x2 = false := by simpa using hbi
        obtain rfl : x1 = true := hdep _ rfl ⟨1, .data⟩ (by simp) rfl
        refine wpOpIn_plain (v := Value.int IntKind.i64 (↑ix + 1)) (w' := w') rfl rfl (sem_bin (vx := Value.int IntKind.i64 ↑ix) (vy := Value.int IntKind.i64 1) rfl rfl rfl rfl (hw1 w')) ?_
        exact ⟨IW, IQ, IB, rfl⟩
      · obtain rfl : x3 = false := by simpa using hbi
        refine wpOpIn_plain rfl rfl rfl ?_
        exact ⟨IW, IQ, IB, rfl⟩
      · obtain rfl : x4 = false := by simpa using hbi
        refine wpOpIn_plain rfl rfl rfl ?_
        exact ⟨IW, IQ, IB, rfl⟩
      · obtain rfl : x5 = false := by simpa using hbi
        obtain rfl : x3 = true := hdep _ rfl ⟨3, .data⟩ (by simp) rfl
        obtain rfl : x4 = true := hdep _ rfl ⟨4, .data⟩ (by simp) rfl
        refine wpOpIn_plain (v := Value.int IntKind.u64 ↑lw) (w' := w') rfl rfl (sem_bin (vx := Value.int IntKind.u64 ↑D) (vy := Value.int IntKind.i64 ↑up) rfl rfl rfl rfl (hshl w')) ?_
        exact ⟨IW, IQ, IB, rfl⟩
      · obtain rfl : x6 = false := by simpa using hbi
        refine wpOpIn_plain rfl rfl rfl ?_
        exact ⟨IW, IQ, IB, rfl⟩
      · obtain rfl : x7 = false := by simpa using hbi
        refine wpOpIn_plain rfl rfl rfl ?_
        exact ⟨IW, IQ, IB, rfl⟩
      · obtain rfl : x8 = false := by simpa using hbi
        obtain rfl : x7 = true := hdep _ rfl ⟨7, .data⟩ (by simp) rfl
        refine wpOpIn_plain (v := Value.int IntKind.i64 (64 - ↑up)) (w' := w') rfl rfl (sem_bin (vx := Value.int IntKind.i64 64) (vy := Value.int IntKind.i64 ↑up) rfl rfl rfl rfl (hw2 w')) ?_
        exact ⟨IW, IQ, IB, rfl⟩
      · obtain rfl : x9 = false := by simpa using hbi
        obtain rfl : x6 = true := hdep _ rfl ⟨6, .data⟩ (by simp) rfl
        obtain rfl : x8 = true := hdep _ rfl ⟨8, .data⟩ (by simp) rfl
        refine wpOpIn_plain (v := Value.int IntKind.u64 ↑hw) (w' := w') rfl rfl (sem_bin (vx := Value.int IntKind.u64 ↑D) (vy := Value.int IntKind.i64 (64 - ↑up)) rfl rfl rfl rfl (hshr w')) ?_
        exact ⟨IW, IQ, IB, rfl⟩
      · obtain rfl : x10 = false := by simpa using hbi
        obtain rfl : x0 = true := hdep _ rfl ⟨0, .data⟩ (by simp) rfl
        refine wpOpIn_plain (v := Value.pointer (some ⟨(w.heap.size + 1), ix, none⟩)) (w' := w') rfl rfl (by simp [Oper.semAt, execOp, go_sem, e1, e2, e3, e4, e5, e6]) ?_
        exact ⟨IW, IQ, IB, rfl⟩
      · obtain rfl : x11 = false := by simpa using hbi
        obtain rfl : x10 = true := hdep _ rfl ⟨10, .data⟩ (by simp) rfl
        obtain rfl : x5 = true := hdep _ rfl ⟨5, .data⟩ (by simp) rfl
        have c0 := IW.out.cell0 (ix) (by omega)
        have f0 := IW.out.open_ (ix)
        have l0 := IW.out.lt
        refine wpOpIn_skip (w' := w'.setCell ⟨w.heap.size + 1, ix, none⟩ (Value.int IntKind.u64 ↑lw)) rfl rfl (by simp [Oper.semAt, execOp, go_sem, c0, f0, l0]) ?_
        have hn := (IW.out.set ix lw (by omega)).congr (fun j _ => exW_lo _ ix lw hw j)
        simp only [Array.size_empty, List.size_toArray, List.length_nil, Nat.zero_add] at hn
        exact ⟨hn, ((heap_setCell_other _ _ _ _ (show w.heap.size ≠ w.heap.size + 1 by omega)).trans IQ.out), (IB.out.setCell (p := ⟨w.heap.size + 1, _, none⟩) (by show w.heap.size ≤ w.heap.size + 1; omega) _), rfl⟩
      · obtain rfl : x12 = false := by simpa using hbi
        obtain rfl : x2 = true := hdep _ rfl ⟨2, .data⟩ (by simp) rfl
        refine wpOpIn_plain (v := Value.pointer (some ⟨(w.heap.size + 1), (ix + 1), none⟩)) (w' := w') rfl rfl (by simp [Oper.semAt, execOp, go_sem, e1, e2, e3, e4, e5, e6]) ?_
        exact ⟨IW, IQ, IB, rfl⟩
      · obtain rfl : x13 = false := by simpa using hbi
        obtain rfl : x12 = true := hdep _ rfl ⟨12, .data⟩ (by simp) rfl
        obtain rfl : x9 = true := hdep _ rfl ⟨9, .data⟩ (by simp) rfl
        have c0 := IW.out.cell0 ((ix + 1)) (by omega)
        have f0 := IW.out.open_ ((ix + 1))
        have l0 := IW.out.lt
        refine wpOpIn_skip (w' := w'.setCell ⟨w.heap.size + 1, ix + 1, none⟩ (Value.int IntKind.u64 ↑hw)) rfl rfl (by simp [Oper.semAt, execOp, go_sem, c0, f0, l0]) ?_
        have hn := (IW.out.set (ix + 1) hw (by omega)).congr (fun j _ => exW_hi _ ix lw hw j)
        simp only [Array.size_empty, List.size_toArray, List.length_nil, Nat.zero_add] at hn
        exact ⟨hn, ((heap_setCell_other _ _ _ _ (show w.heap.size ≠ w.heap.size + 1 by omega)).trans IQ.out), (IB.out.setCell (p := ⟨w.heap.size + 1, _, none⟩) (by show w.heap.size ≤ w.heap.size + 1; omega) _), rfl⟩
    case fin =>
    intro listed a' Z hs hall ⟨IW, IQ, IB, ha⟩
    obtain ⟨ls⟩ := listed
    match ls, hs with
    | [x0, x1, x2, x3, x4, x5, x6, x7, x8, x9, x10, x11, x12, x13], _ =>
    obtain rfl : x0 = true := hall 0 (by simp)
    obtain rfl : x1 = true := hall 1 (by simp)
    obtain rfl : x2 = true := hall 2 (by simp)
    obtain rfl : x3 = true := hall 3 (by simp)
    obtain rfl : x4 = true := hall 4 (by simp)
    obtain rfl : x5 = true := hall 5 (by simp)
    obtain rfl : x6 = true := hall 6 (by simp)
    obtain rfl : x7 = true := hall 7 (by simp)
    obtain rfl : x8 = true := hall 8 (by simp)
    obtain rfl : x9 = true := hall 9 (by simp)
    obtain rfl : x10 = true := hall 10 (by simp)
    obtain rfl : x11 = true := hall 11 (by simp)
    obtain rfl : x12 = true := hall 12 (by simp)
    obtain rfl : x13 = true := hall 13 (by simp)
    subst ha
    have iw : Hid (WAt Z (w.heap.size + 1) 85 #[] #[] (exW true true ix lw hw)) := IW
    clear IW hall hs
    dsimp only [Exit.then, Exit.inBlock]
    have HV : Hid (Z.heap[w.heap.size + 1]? = some (.cells (lA (limb V)) 85 (0, 0))) := (iw.out.congr (fun j _ => HEX.out j)).plain
    clear iw
    by_cases hsn : 9223372036854775808 ≤ x
    · rw [if_pos hsn] at hsg
      have HXe : Hid (exactN x = opp V) := by show _ = _; rw [HX.out, if_pos hsn]
      clear hsn HX
      go_wp2_with (refine wpList_load_row rfl 85 _ rfl (w.heap.size + 1) rfl 85 _ _ _ HV.out und38 rfl (info38' _) ?_)
      refine (opposite_any _ HM.out Z).mono ?_
      rintro e Y ⟨rfl, hb⟩
      have HV1 := Lib.hid (below_heapAt hb ⟨(Array.getElem?_eq_some_iff.1 HV.out).1, HV.out⟩)
      have IQ1 := Lib.hid (below_heapAt hb ⟨(Array.getElem?_eq_some_iff.1 IQ.out).1, IQ.out⟩)
      have HB1 := Lib.hid (IB.out.trans (hb.mono IB.out.size))
      have HV2 := Lib.hid (setRow_heap Y (w.heap.size + 1) _ (lA (limb (opp V))) 85 _ HV1.out)
      have IQ2 : Hid ((Y.setRow (w.heap.size + 1) (lA (limb (opp V)))).heap[w.heap.size]? = some (.cells (lA fun _ => 0) 85 (0, 0))) := (Go.setRow_other _ _ _ _ (by omega)).trans IQ1.out
      have HB2 := Lib.hid (HB1.out.trans (below_setRow (Nat.le_succ w.heap.size) (lA (limb (opp V)))))
      clear hb
      go_wp2_with (first
        | (refine wpList_store_row rfl 85 _ _ rfl (w.heap.size + 1) (lA (limb (opp V))) rfl rfl 85 _ HV1.out (info38' _) (by simp) (lA_one _) ?_)
        | (refine wpList_load_row rfl 85 _ rfl (w.heap.size + 1) rfl 85 _ _ _ HV2.out und38 rfl (info38' _) ?_)
        | (refine wpList_store_row rfl 85 _ _ rfl w.heap.size (lA (limb (opp V))) rfl rfl 85 _ IQ2.out (info38' _) (by simp) (lA_one _) ?_))
      generalize Y.setRow (w.heap.size + 1) (lA (limb (opp V))) = Y2 at *
      have hr := setRow_heap Y2 w.heap.size _ (lA (limb (opp V))) 85 _ IQ2.out
      have hb9 := (HB2.out).trans (below_setRow (Nat.le_refl w.heap.size) (lA (limb (opp V))))
      generalize Y2.setRow w.heap.size (lA (limb (opp V))) = Z9 at *
      refine bodyPost_ret (v := .agg (lA (limb (opp V)))) ?_ rfl ⟨by rw [HXe.out], hb9⟩
      simp [results, Act.put, run_loadVar_row Z9 _ 85 85 _ _ _ hr und38 rfl (info38' _), Tryz.results72, asAddr]
    · rw [if_neg hsn] at hsg
      have HXe : Hid (exactN x = V) := by show _ = _; rw [HX.out, if_neg hsn]
      clear hsn HX
      go_wp2_with (first
        | (refine wpList_load_row rfl 85 _ rfl (w.heap.size + 1) rfl 85 _ _ _ HV.out und38 rfl (info38' _) ?_)
        | (refine wpList_store_row rfl 85 _ _ rfl w.heap.size (lA (limb V)) rfl rfl 85 _ IQ.out (info38' _) (by simp) (lA_one _) ?_))
      have hr := setRow_heap Z w.heap.size _ (lA (limb V)) 85 _ IQ.out
      have hb9 := (IB.out).trans (below_setRow (Nat.le_refl w.heap.size) (lA (limb V)))
      generalize Z.setRow w.heap.size (lA (limb V)) = Z9 at *
      refine bodyPost_ret (v := .agg (lA (limb V))) ?_ rfl ⟨by rw [HXe.out], hb9⟩
      simp [results, Act.put, run_loadVar_row Z9 _ 85 85 _ _ _ hr und38 rfl (info38' _), Tryz.results72, asAddr]
  · have hE0 : E = 0 := by omega
    subst hE0
    have hD0 : x % 4503599627370496 = D := by rw [HD.out, if_neg (by decide)]
    have hs0 : s = 0 := by rw [HS.out, if_neg (by decide)]
    subst hs0
    have hi0 : ix = 0 := by omega
    have hu0 : up = 0 := by omega
    subst hi0 hu0
    rw [hD0] at hfr
    clear HD HS h0
    go_enter Tryz.func72, Tryz.ntmps72
    go_wp2_with fail
    refine (wpIn_wide (n := 0)).1 ?_
    refine region_det (by kernel_rfl) (I := fun listed a' w' => Hid (WAt w' (w.heap.size + 1) 85 #[] #[] (exW (listed.getD 11 false) (listed.getD 13 false) 0 lw hw)) ∧ Hid (w'.heap[w.heap.size]? = some (.cells (lA fun _ => 0) 85 (0, 0))) ∧ Hid (Below w.heap.size w w') ∧ a' = ⟨#[Value.int IntKind.u64 ↑x, undef, Value.pointer (some (Addr.mk w.heap.size 0 none)), Value.int IntKind.u64 ↑D, Value.int IntKind.i64 0, Value.int IntKind.i64 0, Value.pointer (some (Addr.mk (w.heap.size + 1) 0 none)), Value.int IntKind.i64 0, Value.int IntKind.i64 0, Value.int IntKind.u64 ↑x, Value.int IntKind.u64 ↑D, Value.int IntKind.u64 ↑x, Value.int IntKind.u64 (↑x % 9223372036854775808), Value.int IntKind.u64 0, Value.int IntKind.i64 0, Value.int IntKind.i64 0, Value.bool false, undef, undef, undef, undef, Value.int IntKind.i64 0, Value.int IntKind.i64 0, Value.int IntKind.i64 0, Value.int IntKind.i64 0, (if listed.getD 0 false = true then Value.int IntKind.i64 0 else undef), (if listed.getD 1 false = true then Value.int IntKind.i64 0 else undef), (if listed.getD 2 false = true then Value.int IntKind.i64 1 else undef), (if listed.getD 3 false = true then Value.int IntKind.u64 ↑D else undef), (if listed.getD 4 false = true then Value.int IntKind.i64 0 else undef), (if listed.getD 5 false = true then Value.int IntKind.u64 ↑lw else undef), (if listed.getD 6 false = true then Value.int IntKind.u64 ↑D else undef), (if listed.getD 7 false = true then Value.int IntKind.i64 0 else undef), (if listed.getD 8 false = true then Value.int IntKind.i64 64 else undef), (if listed.getD 9 false = true then Value.int IntKind.u64 ↑hw else undef), (if listed.getD 10 false = true then Value.pointer (some ⟨(w.heap.size + 1), 0, none⟩) else undef), (if listed.getD 12 false = true then Value.pointer (some ⟨(w.heap.size + 1), 1, none⟩) else undef), undef, undef, undef, undef, undef, undef], []⟩) (hup_check (by kernel_rfl)) ?h0 ?step ?fin
    case h0 => exact ⟨Q1.out.congr (fun j _ => rfl), Q0.out, HB.out.drew, rfl⟩
    case step =>
      intro listed a' w' i hs hbi hdep hi ⟨IW, IQ, IB, ha⟩
      obtain ⟨ls⟩ := listed
      match ls, hs with
      | [x0, x1, x2, x3, x4, x5, x6, x7, x8, x9, x10, x11, x12, x13], _ =>
      subst ha
      have hi' : i = 0 ∨ i = 1 ∨ i = 2 ∨ i = 3 ∨ i = 4 ∨ i = 5 ∨ i = 6 ∨ i = 7 ∨ i = 8 ∨ i = 9 ∨ i = 10 ∨ i = 11 ∨ i = 12 ∨ i = 13 := by simp at hi; omega
      have hshl := HSHL.out
      have hshr := HSHR.out
      have hw1 := HW1.out
      have hw2 := HW2.out
      rcases hi' with rfl | rfl | rfl | rfl | rfl | rfl | rfl | rfl | rfl | rfl | rfl | rfl | rfl | rfl
      · obtain rfl : x0 = false := by simpa using hbi
        refine wpOpIn_plain rfl rfl rfl ?_
        exact ⟨IW, IQ, IB, rfl⟩
      · obtain rfl : x1 = false := by simpa using hbi
        refine wpOpIn_plain rfl rfl rfl ?_
        exact ⟨IW, IQ, IB, rfl⟩
      · obtain rfl : x2 = false := by simpa using hbi
        obtain rfl : x1 = true := hdep _ rfl ⟨1, .data⟩ (by simp) rfl
        refine wpOpIn_plain (v := Value.int IntKind.i64 1) (w' := w') rfl rfl (sem_bin (vx := Value.int IntKind.i64 0) (vy := Value.int IntKind.i64 1) rfl rfl rfl rfl (hw1 w')) ?_
        exact ⟨IW, IQ, IB, rfl⟩
      · obtain rfl : x3 = false := by simpa using hbi
        refine wpOpIn_plain rfl rfl rfl ?_
        exact ⟨IW, IQ, IB, rfl⟩
      · obtain rfl : x4 = false := by simpa using hbi
        refine wpOpIn_plain rfl rfl rfl ?_
        exact ⟨IW, IQ, IB, rfl⟩
      · obtain rfl : x5 = false := by simpa using hbi
        obtain rfl : x3 = true := hdep _ rfl ⟨3, .data⟩ (by simp) rfl
        obtain rfl : x4 = true := hdep _ rfl ⟨4, .data⟩ (by simp) rfl
        refine wpOpIn_plain (v := Value.int IntKind.u64 ↑lw) (w' := w') rfl rfl (sem_bin (vx := Value.int IntKind.u64 ↑D) (vy := Value.int IntKind.i64 0) rfl rfl rfl rfl (hshl w')) ?_
        exact ⟨IW, IQ, IB, rfl⟩
      · obtain rfl : x6 = false := by simpa using hbi
        refine wpOpIn_plain rfl rfl rfl ?_
        exact ⟨IW, IQ, IB, rfl⟩
      · obtain rfl : x7 = false := by simpa using hbi
        refine wpOpIn_plain rfl rfl rfl ?_
        exact ⟨IW, IQ, IB, rfl⟩
      · obtain rfl : x8 = false := by simpa using hbi
        obtain rfl : x7 = true := hdep _ rfl ⟨7, .data⟩ (by simp) rfl
        refine wpOpIn_plain (v := Value.int IntKind.i64 64) (w' := w') rfl rfl (sem_bin (vx := Value.int IntKind.i64 64) (vy := Value.int IntKind.i64 0) rfl rfl rfl rfl (hw2 w')) ?_
        exact ⟨IW, IQ, IB, rfl⟩
      · obtain rfl : x9 = false := by simpa using hbi
        obtain rfl : x6 = true := hdep _ rfl ⟨6, .data⟩ (by simp) rfl
        obtain rfl : x8 = true := hdep _ rfl ⟨8, .data⟩ (by simp) rfl
        refine wpOpIn_plain (v := Value.int IntKind.u64 ↑hw) (w' := w') rfl rfl (sem_bin (vx := Value.int IntKind.u64 ↑D) (vy := Value.int IntKind.i64 64) rfl rfl rfl rfl (hshr w')) ?_
        exact ⟨IW, IQ, IB, rfl⟩
      · obtain rfl : x10 = false := by simpa using hbi
        obtain rfl : x0 = true := hdep _ rfl ⟨0, .data⟩ (by simp) rfl
        refine wpOpIn_plain (v := Value.pointer (some ⟨(w.heap.size + 1), 0, none⟩)) (w' := w') rfl rfl (by simp [Oper.semAt, execOp, go_sem]) ?_
        exact ⟨IW, IQ, IB, rfl⟩
      · obtain rfl : x11 = false := by simpa using hbi
        obtain rfl : x10 = true := hdep _ rfl ⟨10, .data⟩ (by simp) rfl
        obtain rfl : x5 = true := hdep _ rfl ⟨5, .data⟩ (by simp) rfl
        have c0 := IW.out.cell0 (0) (by omega)
        have f0 := IW.out.open_ (0)
        have l0 := IW.out.lt
        refine wpOpIn_skip (w' := w'.setCell ⟨w.heap.size + 1, 0, none⟩ (Value.int IntKind.u64 ↑lw)) rfl rfl (by simp [Oper.semAt, execOp, go_sem, c0, f0, l0]) ?_
        have hn := (IW.out.set 0 lw (by omega)).congr (fun j _ => exW_lo _ 0 lw hw j)
        simp only [Array.size_empty, List.size_toArray, List.length_nil, Nat.zero_add] at hn
        exact ⟨hn, ((heap_setCell_other _ _ _ _ (show w.heap.size ≠ w.heap.size + 1 by omega)).trans IQ.out), (IB.out.setCell (p := ⟨w.heap.size + 1, _, none⟩) (by show w.heap.size ≤ w.heap.size + 1; omega) _), rfl⟩
      · obtain rfl : x12 = false := by simpa using hbi
        obtain rfl : x2 = true := hdep _ rfl ⟨2, .data⟩ (by simp) rfl
        refine wpOpIn_plain (v := Value.pointer (some ⟨(w.heap.size + 1), 1, none⟩)) (w' := w') rfl rfl (by simp [Oper.semAt, execOp, go_sem]) ?_
        exact ⟨IW, IQ, IB, rfl⟩
      · obtain rfl : x13 = false := by simpa using hbi
        obtain rfl : x12 = true := hdep _ rfl ⟨12, .data⟩ (by simp) rfl
        obtain rfl : x9 = true := hdep _ rfl ⟨9, .data⟩ (by simp) rfl
        have c0 := IW.out.cell0 ((0 + 1)) (by omega)
        have f0 := IW.out.open_ ((0 + 1))
        have l0 := IW.out.lt
        refine wpOpIn_skip (w' := w'.setCell ⟨w.heap.size + 1, 1, none⟩ (Value.int IntKind.u64 ↑hw)) rfl rfl (by simp [Oper.semAt, execOp, go_sem, c0, f0, l0]) ?_
        have hn := (IW.out.set (0 + 1) hw (by omega)).congr (fun j _ => exW_hi _ 0 lw hw j)
        simp only [Array.size_empty, List.size_toArray, List.length_nil, Nat.zero_add] at hn
        exact ⟨hn, ((heap_setCell_other _ _ _ _ (show w.heap.size ≠ w.heap.size + 1 by omega)).trans IQ.out), (IB.out.setCell (p := ⟨w.heap.size + 1, _, none⟩) (by show w.heap.size ≤ w.heap.size + 1; omega) _), rfl⟩
    case fin =>
    intro listed a' Z hs hall ⟨IW, IQ, IB, ha⟩
    obtain ⟨ls⟩ := listed
    match ls, hs with
    | [x0, x1, x2, x3, x4, x5, x6, x7, x8, x9, x10, x11, x12, x13], _ =>
    obtain rfl : x0 = true := hall 0 (by simp)
    obtain rfl : x1 = true := hall 1 (by simp)
    obtain rfl : x2 = true := hall 2 (by simp)
    obtain rfl : x3 = true := hall 3 (by simp)
    obtain rfl : x4 = true := hall 4 (by simp)
    obtain rfl : x5 = true := hall 5 (by simp)
    obtain rfl : x6 = true := hall 6 (by simp)
    obtain rfl : x7 = true := hall 7 (by simp)
    obtain rfl : x8 = true := hall 8 (by simp)
    obtain rfl : x9 = true := hall 9 (by simp)
    obtain rfl : x10 = true := hall 10 (by simp)
    obtain rfl : x11 = true := hall 11 (by simp)
    obtain rfl : x12 = true := hall 12 (by simp)
    obtain rfl : x13 = true := hall 13 (by simp)
    subst ha
    have iw : Hid (WAt Z (w.heap.size + 1) 85 #[] #[] (exW true true 0 lw hw)) := IW
    clear IW hall hs
    dsimp only [Exit.then, Exit.inBlock]
    have HV : Hid (Z.heap[w.heap.size + 1]? = some (.cells (lA (limb V)) 85 (0, 0))) := (iw.out.congr (fun j _ => HEX.out j)).plain
    clear iw
    by_cases hsn : 9223372036854775808 ≤ x
    · rw [if_pos hsn] at hsg
      have HXe : Hid (exactN x = opp V) := by show _ = _; rw [HX.out, if_pos hsn]
      clear hsn HX
      go_wp2_with (refine wpList_load_row rfl 85 _ rfl (w.heap.size + 1) rfl 85 _ _ _ HV.out und38 rfl (info38' _) ?_)
      refine (opposite_any _ HM.out Z).mono ?_
      rintro e Y ⟨rfl, hb⟩
      have HV1 := Lib.hid (below_heapAt hb ⟨(Array.getElem?_eq_some_iff.1 HV.out).1, HV.out⟩)
      have IQ1 := Lib.hid (below_heapAt hb ⟨(Array.getElem?_eq_some_iff.1 IQ.out).1, IQ.out⟩)
      have HB1 := Lib.hid (IB.out.trans (hb.mono IB.out.size))
      have HV2 := Lib.hid (setRow_heap Y (w.heap.size + 1) _ (lA (limb (opp V))) 85 _ HV1.out)
      have IQ2 : Hid ((Y.setRow (w.heap.size + 1) (lA (limb (opp V)))).heap[w.heap.size]? = some (.cells (lA fun _ => 0) 85 (0, 0))) := (Go.setRow_other _ _ _ _ (by omega)).trans IQ1.out
      have HB2 := Lib.hid (HB1.out.trans (below_setRow (Nat.le_succ w.heap.size) (lA (limb (opp V)))))
      clear hb
      go_wp2_with (first
        | (refine wpList_store_row rfl 85 _ _ rfl (w.heap.size + 1) (lA (limb (opp V))) rfl rfl 85 _ HV1.out (info38' _) (by simp) (lA_one _) ?_)
        | (refine wpList_load_row rfl 85 _ rfl (w.heap.size + 1) rfl 85 _ _ _ HV2.out und38 rfl (info38' _) ?_)
        | (refine wpList_store_row rfl 85 _ _ rfl w.heap.size (lA (limb (opp V))) rfl rfl 85 _ IQ2.out (info38' _) (by simp) (lA_one _) ?_))
      generalize Y.setRow (w.heap.size + 1) (lA (limb (opp V))) = Y2 at *
      have hr := setRow_heap Y2 w.heap.size _ (lA (limb (opp V))) 85 _ IQ2.out
      have hb9 := (HB2.out).trans (below_setRow (Nat.le_refl w.heap.size) (lA (limb (opp V))))
      generalize Y2.setRow w.heap.size (lA (limb (opp V))) = Z9 at *
      refine bodyPost_ret (v := .agg (lA (limb (opp V)))) ?_ rfl ⟨by rw [HXe.out], hb9⟩
      simp [results, Act.put, run_loadVar_row Z9 _ 85 85 _ _ _ hr und38 rfl (info38' _), Tryz.results72, asAddr]
    · rw [if_neg hsn] at hsg
      have HXe : Hid (exactN x = V) := by show _ = _; rw [HX.out, if_neg hsn]
      clear hsn HX
      go_wp2_with (first
        | (refine wpList_load_row rfl 85 _ rfl (w.heap.size + 1) rfl 85 _ _ _ HV.out und38 rfl (info38' _) ?_)
        | (refine wpList_store_row rfl 85 _ _ rfl w.heap.size (lA (limb V)) rfl rfl 85 _ IQ.out (info38' _) (by simp) (lA_one _) ?_))
      have hr := setRow_heap Z w.heap.size _ (lA (limb V)) 85 _ IQ.out
      have hb9 := (IB.out).trans (below_setRow (Nat.le_refl w.heap.size) (lA (limb V)))
      generalize Z.setRow w.heap.size (lA (limb V)) = Z9 at *
      refine bodyPost_ret (v := .agg (lA (limb V))) ?_ rfl ⟨by rw [HXe.out], hb9⟩
      simp [results, Act.put, run_loadVar_row Z9 _ 85 85 _ _ _ hr und38 rfl (info38' _), Tryz.results72, asAddr]
end Go.Proofs.YtjcdnaandbockaaGreat

namespace Go.Proofs.YtjcdnaandbockaaGreat
open Go.RowKit Go.Shelf

/-- what a sum knows -/
structure Facts where
  V : Nat
  saw : Nat
  zero : Nat
/-- the cells of what a sum knows -/
@[irreducible] def fA (f : Facts) : Array Value := lA (limb f.V) ++ #[.int .u8 f.saw, .int .u8 f.zero]
@[simp] theorem fA_size (f : Facts) : (fA f).size = 38 := by unfold fA; simp
theorem fA_one (f : Facts) : (fA f).all (·.oneCell') = true := by
  unfold fA
  rw [Array.all_append, lA_one]
  simp [Value.oneCell']
theorem litF (z : Nat) (hz : z = 0 ∨ z = 2) : #[Value.int IntKind.u64 0, Value.int IntKind.u64 0, Value.int IntKind.u64 0, Value.int IntKind.u64 0, Value.int IntKind.u64 0, Value.int IntKind.u64 0, Value.int IntKind.u64 0, Value.int IntKind.u64 0, Value.int IntKind.u64 0, Value.int IntKind.u64 0, Value.int IntKind.u64 0, Value.int IntKind.u64 0, Value.int IntKind.u64 0, Value.int IntKind.u64 0, Value.int IntKind.u64 0, Value.int IntKind.u64 0, Value.int IntKind.u64 0, Value.int IntKind.u64 0, Value.int IntKind.u64 0, Value.int IntKind.u64 0, Value.int IntKind.u64 0, Value.int IntKind.u64 0, Value.int IntKind.u64 0, Value.int IntKind.u64 0, Value.int IntKind.u64 0, Value.int IntKind.u64 0, Value.int IntKind.u64 0, Value.int IntKind.u64 0, Value.int IntKind.u64 0, Value.int IntKind.u64 0, Value.int IntKind.u64 0, Value.int IntKind.u64 0, Value.int IntKind.u64 0, Value.int IntKind.u64 0, Value.int IntKind.u64 0, Value.int IntKind.u64 0, Value.int IntKind.u8 0, Value.int IntKind.u8 z] = fA ⟨0, 0, z⟩ := by
  unfold fA
  have e : lA (limb 0) = #[Value.int IntKind.u64 0, Value.int IntKind.u64 0, Value.int IntKind.u64 0, Value.int IntKind.u64 0, Value.int IntKind.u64 0, Value.int IntKind.u64 0, Value.int IntKind.u64 0, Value.int IntKind.u64 0, Value.int IntKind.u64 0, Value.int IntKind.u64 0, Value.int IntKind.u64 0, Value.int IntKind.u64 0, Value.int IntKind.u64 0, Value.int IntKind.u64 0, Value.int IntKind.u64 0, Value.int IntKind.u64 0, Value.int IntKind.u64 0, Value.int IntKind.u64 0, Value.int IntKind.u64 0, Value.int IntKind.u64 0, Value.int IntKind.u64 0, Value.int IntKind.u64 0, Value.int IntKind.u64 0, Value.int IntKind.u64 0, Value.int IntKind.u64 0, Value.int IntKind.u64 0, Value.int IntKind.u64 0, Value.int IntKind.u64 0, Value.int IntKind.u64 0, Value.int IntKind.u64 0, Value.int IntKind.u64 0, Value.int IntKind.u64 0, Value.int IntKind.u64 0, Value.int IntKind.u64 0, Value.int IntKind.u64 0, Value.int IntKind.u64 0] := by rw [litZ]; exact lA_congr (fun j _ => limb_zero j)
  rw [e]
  rfl
theorem litF0 : #[Value.int IntKind.u64 0, Value.int IntKind.u64 0, Value.int IntKind.u64 0, Value.int IntKind.u64 0, Value.int IntKind.u64 0, Value.int IntKind.u64 0, Value.int IntKind.u64 0, Value.int IntKind.u64 0, Value.int IntKind.u64 0, Value.int IntKind.u64 0, Value.int IntKind.u64 0, Value.int IntKind.u64 0, Value.int IntKind.u64 0, Value.int IntKind.u64 0, Value.int IntKind.u64 0, Value.int IntKind.u64 0, Value.int IntKind.u64 0, Value.int IntKind.u64 0, Value.int IntKind.u64 0, Value.int IntKind.u64 0, Value.int IntKind.u64 0, Value.int IntKind.u64 0, Value.int IntKind.u64 0, Value.int IntKind.u64 0, Value.int IntKind.u64 0, Value.int IntKind.u64 0, Value.int IntKind.u64 0, Value.int IntKind.u64 0, Value.int IntKind.u64 0, Value.int IntKind.u64 0, Value.int IntKind.u64 0, Value.int IntKind.u64 0, Value.int IntKind.u64 0, Value.int IntKind.u64 0, Value.int IntKind.u64 0, Value.int IntKind.u64 0, Value.int IntKind.u8 0, Value.int IntKind.u8 0] = fA ⟨0, 0, 0⟩ := litF 0 (.inl rfl)
theorem litF2 : #[Value.int IntKind.u64 0, Value.int IntKind.u64 0, Value.int IntKind.u64 0, Value.int IntKind.u64 0, Value.int IntKind.u64 0, Value.int IntKind.u64 0, Value.int IntKind.u64 0, Value.int IntKind.u64 0, Value.int IntKind.u64 0, Value.int IntKind.u64 0, Value.int IntKind.u64 0, Value.int IntKind.u64 0, Value.int IntKind.u64 0, Value.int IntKind.u64 0, Value.int IntKind.u64 0, Value.int IntKind.u64 0, Value.int IntKind.u64 0, Value.int IntKind.u64 0, Value.int IntKind.u64 0, Value.int IntKind.u64 0, Value.int IntKind.u64 0, Value.int IntKind.u64 0, Value.int IntKind.u64 0, Value.int IntKind.u64 0, Value.int IntKind.u64 0, Value.int IntKind.u64 0, Value.int IntKind.u64 0, Value.int IntKind.u64 0, Value.int IntKind.u64 0, Value.int IntKind.u64 0, Value.int IntKind.u64 0, Value.int IntKind.u64 0, Value.int IntKind.u64 0, Value.int IntKind.u64 0, Value.int IntKind.u64 0, Value.int IntKind.u64 0, Value.int IntKind.u8 0, Value.int IntKind.u8 2] = fA ⟨0, 0, 2⟩ := litF 2 (.inr rfl)
theorem info40 : (Tryz.prog.info? 87).map (·.size) = some 38 := by kernel_rfl
theorem info40' (f : Facts) : (Tryz.prog.info? 87).map (·.size) = some (fA f).size := by rw [fA_size]; exact info40

/-- block b is what a sum knows -/
def FAt (w : World) (b : Nat) (f : Facts) : Prop := w.heap[b]? = some (.cells (fA f) 87 (0, 0))
theorem FAt.lt {w : World} {b : Nat} {f : Facts} (h : FAt w b f) : b < w.heap.size := (Array.getElem?_eq_some_iff.1 h).1
theorem FAt.open_ {w : World} {b : Nat} {f : Facts} (h : FAt w b f) (o : Nat) : w.frozen? ⟨b, o, none⟩ = false := frozen_of_row w b o _ _ h
theorem fA_at36 (f : Facts) : (fA f)[36]? = some (.int .u8 f.saw) := by unfold fA; rw [Array.getElem?_append_right (by simp)]; simp
theorem fA_at37 (f : Facts) : (fA f)[37]? = some (.int .u8 f.zero) := by unfold fA; rw [Array.getElem?_append_right (by simp)]; simp
theorem FAt.cellsaw {w : World} {b : Nat} {f : Facts} (h : FAt w b f) : w.cell? ⟨b, 36, none⟩ = some (.int .u8 f.saw) := by rw [cell_of_row w b _ _ _ _ h]; exact fA_at36 f
theorem FAt.cellzero {w : World} {b : Nat} {f : Facts} (h : FAt w b f) : w.cell? ⟨b, 37, none⟩ = some (.int .u8 f.zero) := by rw [cell_of_row w b _ _ _ _ h]; exact fA_at37 f
theorem FAt.saw {w : World} {b : Nat} {f : Facts} (h : FAt w b f) (s : Nat) : FAt (w.setCell ⟨b, 36, none⟩ (.int .u8 s)) b ⟨f.V, s, f.zero⟩ := by
  unfold FAt
  rw [heap_setCell_same w b _ _ 87 _ h]
  congr 2
  unfold fA
  rw [Array.setIfInBounds_append_right (by simp)]
  simp
theorem FAt.zero {w : World} {b : Nat} {f : Facts} (h : FAt w b f) (s : Nat) : FAt (w.setCell ⟨b, 37, none⟩ (.int .u8 s)) b ⟨f.V, f.saw, s⟩ := by
  unfold FAt
  rw [heap_setCell_same w b _ _ 87 _ h]
  congr 2
  unfold fA
  rw [Array.setIfInBounds_append_right (by simp)]
  simp
theorem FAt.words {w : World} {b : Nat} {f : Facts} (h : FAt w b f) : WAt w b 87 #[] #[.int .u8 f.saw, .int .u8 f.zero] (limb f.V) := by
  unfold WAt; unfold FAt fA at h; simpa using h
theorem FAt.of {w : World} {b V s z : Nat} (h : WAt w b 87 #[] #[.int .u8 s, .int .u8 z] (limb V)) : FAt w b ⟨V, s, z⟩ := by
  unfold WAt at h; unfold FAt fA; simpa using h
theorem twoF (f g : Facts) (w : World) : Below w.heap.size w ((w.alloc (.cells (fA f) 87)).alloc (.cells (fA g) 87)) ∧ FAt ((w.alloc (.cells (fA f) 87)).alloc (.cells (fA g) 87)) w.heap.size f ∧
    FAt ((w.alloc (.cells (fA f) 87)).alloc (.cells (fA g) 87)) (w.heap.size + 1) g ∧ ((w.alloc (.cells (fA f) 87)).alloc (.cells (fA g) 87)).heap.size = w.heap.size + 2 := by
  refine ⟨((Below.refl _ _).alloc (Nat.le_refl _) _).alloc (by simp) _, (Below.heap_alloc _ _ _ (by simp)).trans (heap_alloc_new w _), ?_, by simp⟩
  have := heap_alloc_new (w.alloc (.cells (fA f) 87)) (.cells (fA g) 87)
  rwa [show (w.alloc (.cells (fA f) 87)).heap.size = w.heap.size + 1 by simp] at this
theorem fA_set2 : (fA ⟨0, 0, 0⟩).setIfInBounds 37 (Value.int IntKind.u8 2) = fA ⟨0, 0, 2⟩ := by
  unfold fA
  rw [Array.setIfInBounds_append_right (by simp)]
  simp
/-- what the sum of one number knows -/
def factsN (x : Nat) : Facts := if nanB x = true then ⟨0, 1, 2⟩ else if x = 9218868437227405312 then ⟨0, 2, 2⟩ else if x = 18442240474082181120 then ⟨0, 4, 2⟩ else if x = 9223372036854775808 then ⟨0, 0, 1⟩ else ⟨exactN x, 0, 2⟩

attribute [local go_sem] Oper.semAt_some litZ litF0 fA_set2
set_option maxRecDepth 100000
set_option maxHeartbeats 1000000
theorem factsOf_any (x : Nat) (hx : x < 18446744073709551616) (w : World) : Calls Tryz.prog 48 #[.int .u64 x] w fun e w' => e = .returned (.agg (fA (factsN x))) ∧ Below w.heap.size w w' := by
  obtain ⟨h1, h2, h3, h4⟩ := twoF ⟨0, 0, 0⟩ ⟨0, 0, 0⟩ w
  have HB := Lib.hid (h1.trans (below_setRow (Nat.le_succ w.heap.size) (fA ⟨0, 0, 2⟩)))
  have Q0 : Hid (FAt (((w.alloc (.cells (fA ⟨0, 0, 0⟩) 87)).alloc (.cells (fA ⟨0, 0, 0⟩) 87)).setRow (w.heap.size + 1) (fA ⟨0, 0, 2⟩)) w.heap.size ⟨0, 0, 0⟩) := (Go.setRow_other _ _ _ _ (by omega)).trans h2
  have Q1 : Hid (FAt (((w.alloc (.cells (fA ⟨0, 0, 0⟩) 87)).alloc (.cells (fA ⟨0, 0, 0⟩) 87)).setRow (w.heap.size + 1) (fA ⟨0, 0, 2⟩)) (w.heap.size + 1) ⟨0, 0, 2⟩) := setRow_heap _ _ _ _ 87 _ h3
  have H3 := Lib.hid h3
  clear h1 h2 h3 h4
  go_enter Tryz.func48, Tryz.ntmps48
  go_wp2_with (refine wpList_store_row rfl 87 _ _ rfl (w.heap.size + 1) (fA ⟨0, 0, 2⟩) rfl rfl 87 _ H3.out (info40' _) (by simp) (fA_one _) ?_)
  clear H3
  generalize ((w.alloc (.cells (fA ⟨0, 0, 0⟩) 87)).alloc (.cells (fA ⟨0, 0, 0⟩) 87)).setRow (w.heap.size + 1) (fA ⟨0, 0, 2⟩) = W at *
  refine (isNaN_any x hx W).mono ?_
  rintro e w' ⟨rfl, rfl⟩
  by_cases hN : nanB x = true
  · rw [hN]
    have HF : Hid (factsN x = ⟨0, 1, 2⟩) := by show _ = _; unfold factsN; rw [if_pos hN]
    have HS1 := Lib.hid (FAt.saw Q1.out 1)
    have HQ0 : Hid ((W.setCell ⟨w.heap.size + 1, 36, none⟩ (.int .u8 ((1 : Nat) : Int))).heap[w.heap.size]? = some (.cells (fA ⟨0, 0, 0⟩) 87 (0, 0))) := (heap_setCell_other _ _ _ _ (show w.heap.size ≠ w.heap.size + 1 by omega)).trans Q0.out
    have HB1 := Lib.hid (HB.out.setCell (p := ⟨w.heap.size + 1, 36, none⟩) (Nat.le_succ _) (.int .u8 ((1 : Nat) : Int)))
    have c0 := Q1.out.cellsaw
    have f0 := Q1.out.open_ 36
    have l0 := Q1.out.lt
    go_wp2_with (first
      | (refine wpList_load_row rfl 87 _ rfl (w.heap.size + 1) rfl 87 _ _ _ HS1.out Tryz.underlying87 rfl (info40' _) ?_)
      | (refine wpList_store_row rfl 87 _ _ rfl w.heap.size (fA ⟨0, 1, 2⟩) rfl rfl 87 _ HQ0.out (info40' _) (by simp) (fA_one _) ?_))
    have hr := setRow_heap _ w.heap.size _ (fA ⟨0, 1, 2⟩) 87 _ HQ0.out
    have hb9 := HB1.out.trans (below_setRow (Nat.le_refl w.heap.size) (fA ⟨0, 1, 2⟩))
    generalize (W.setCell ⟨w.heap.size + 1, 36, none⟩ (.int .u8 ((1 : Nat) : Int))).setRow w.heap.size (fA ⟨0, 1, 2⟩) = Z9 at *
    refine bodyPost_ret (v := .agg (fA ⟨0, 1, 2⟩)) ?_ rfl ⟨by rw [HF.out], hb9⟩
    simp [results, Act.put, run_loadVar_row Z9 _ 87 87 _ _ _ hr Tryz.underlying87 rfl (info40' _), Tryz.results48, asAddr]
  · have hNf : nanB x = false := by simpa using hN
    rw [hNf]
    by_cases h1 : x = 9218868437227405312
    · have e1 : ((x : Int) == 9218868437227405312) = true := by rw [beq_iff_eq]; omega
      have HF : Hid (factsN x = ⟨0, 2, 2⟩) := by show _ = _; unfold factsN; rw [if_neg hN, if_pos h1]
      have HS1 := Lib.hid (FAt.saw Q1.out 2)
      have HQ0 : Hid ((W.setCell ⟨w.heap.size + 1, 36, none⟩ (.int .u8 ((2 : Nat) : Int))).heap[w.heap.size]? = some (.cells (fA ⟨0, 0, 0⟩) 87 (0, 0))) := (heap_setCell_other _ _ _ _ (show w.heap.size ≠ w.heap.size + 1 by omega)).trans Q0.out
      have HB1 := Lib.hid (HB.out.setCell (p := ⟨w.heap.size + 1, 36, none⟩) (Nat.le_succ _) (.int .u8 ((2 : Nat) : Int)))
      have c0 := Q1.out.cellsaw
      have f0 := Q1.out.open_ 36
      have l0 := Q1.out.lt
      go_wp2_with (first
        | (refine wpList_load_row rfl 87 _ rfl (w.heap.size + 1) rfl 87 _ _ _ HS1.out Tryz.underlying87 rfl (info40' _) ?_)
        | (refine wpList_store_row rfl 87 _ _ rfl w.heap.size (fA ⟨0, 2, 2⟩) rfl rfl 87 _ HQ0.out (info40' _) (by simp) (fA_one _) ?_))
      have hr := setRow_heap _ w.heap.size _ (fA ⟨0, 2, 2⟩) 87 _ HQ0.out
      have hb9 := HB1.out.trans (below_setRow (Nat.le_refl w.heap.size) (fA ⟨0, 2, 2⟩))
      generalize (W.setCell ⟨w.heap.size + 1, 36, none⟩ (.int .u8 ((2 : Nat) : Int))).setRow w.heap.size (fA ⟨0, 2, 2⟩) = Z9 at *
      refine bodyPost_ret (v := .agg (fA ⟨0, 2, 2⟩)) ?_ rfl ⟨by rw [HF.out], hb9⟩
      simp [results, Act.put, run_loadVar_row Z9 _ 87 87 _ _ _ hr Tryz.underlying87 rfl (info40' _), Tryz.results48, asAddr]
    · have e1 : ((x : Int) == 9218868437227405312) = false := by rw [beq_eq_false_iff_ne]; omega
      by_cases h2 : x = 18442240474082181120
      · have e2 : ((x : Int) == 18442240474082181120) = true := by rw [beq_iff_eq]; omega
        have HF : Hid (factsN x = ⟨0, 4, 2⟩) := by show _ = _; unfold factsN; rw [if_neg hN, if_neg h1, if_pos h2]
        have HS1 := Lib.hid (FAt.saw Q1.out 4)
        have HQ0 : Hid ((W.setCell ⟨w.heap.size + 1, 36, none⟩ (.int .u8 ((4 : Nat) : Int))).heap[w.heap.size]? = some (.cells (fA ⟨0, 0, 0⟩) 87 (0, 0))) := (heap_setCell_other _ _ _ _ (show w.heap.size ≠ w.heap.size + 1 by omega)).trans Q0.out
        have HB1 := Lib.hid (HB.out.setCell (p := ⟨w.heap.size + 1, 36, none⟩) (Nat.le_succ _) (.int .u8 ((4 : Nat) : Int)))
        have c0 := Q1.out.cellsaw
        have f0 := Q1.out.open_ 36
        have l0 := Q1.out.lt
        go_wp2_with (first
          | (refine wpList_load_row rfl 87 _ rfl (w.heap.size + 1) rfl 87 _ _ _ HS1.out Tryz.underlying87 rfl (info40' _) ?_)
          | (refine wpList_store_row rfl 87 _ _ rfl w.heap.size (fA ⟨0, 4, 2⟩) rfl rfl 87 _ HQ0.out (info40' _) (by simp) (fA_one _) ?_))
        have hr := setRow_heap _ w.heap.size _ (fA ⟨0, 4, 2⟩) 87 _ HQ0.out
        have hb9 := HB1.out.trans (below_setRow (Nat.le_refl w.heap.size) (fA ⟨0, 4, 2⟩))
        generalize (W.setCell ⟨w.heap.size + 1, 36, none⟩ (.int .u8 ((4 : Nat) : Int))).setRow w.heap.size (fA ⟨0, 4, 2⟩) = Z9 at *
        refine bodyPost_ret (v := .agg (fA ⟨0, 4, 2⟩)) ?_ rfl ⟨by rw [HF.out], hb9⟩
        simp [results, Act.put, run_loadVar_row Z9 _ 87 87 _ _ _ hr Tryz.underlying87 rfl (info40' _), Tryz.results48, asAddr]
      · have e2 : ((x : Int) == 18442240474082181120) = false := by rw [beq_eq_false_iff_ne]; omega
        by_cases h3 : x = 9223372036854775808
        · have e3 : ((x : Int) == 9223372036854775808) = true := by rw [beq_iff_eq]; omega
          have HF : Hid (factsN x = ⟨0, 0, 1⟩) := by show _ = _; unfold factsN; rw [if_neg hN, if_neg h1, if_neg h2, if_pos h3]
          have HS1 := Lib.hid (FAt.zero Q1.out 1)
          have HQ0 : Hid ((W.setCell ⟨w.heap.size + 1, 37, none⟩ (.int .u8 ((1 : Nat) : Int))).heap[w.heap.size]? = some (.cells (fA ⟨0, 0, 0⟩) 87 (0, 0))) := (heap_setCell_other _ _ _ _ (show w.heap.size ≠ w.heap.size + 1 by omega)).trans Q0.out
          have HB1 := Lib.hid (HB.out.setCell (p := ⟨w.heap.size + 1, 37, none⟩) (Nat.le_succ _) (.int .u8 ((1 : Nat) : Int)))
          have c0 := Q1.out.cellzero
          have f0 := Q1.out.open_ 37
          have l0 := Q1.out.lt
          go_wp2_with (first
            | (refine wpList_load_row rfl 87 _ rfl (w.heap.size + 1) rfl 87 _ _ _ HS1.out Tryz.underlying87 rfl (info40' _) ?_)
            | (refine wpList_store_row rfl 87 _ _ rfl w.heap.size (fA ⟨0, 0, 1⟩) rfl rfl 87 _ HQ0.out (info40' _) (by simp) (fA_one _) ?_))
          have hr := setRow_heap _ w.heap.size _ (fA ⟨0, 0, 1⟩) 87 _ HQ0.out
          have hb9 := HB1.out.trans (below_setRow (Nat.le_refl w.heap.size) (fA ⟨0, 0, 1⟩))
          generalize (W.setCell ⟨w.heap.size + 1, 37, none⟩ (.int .u8 ((1 : Nat) : Int))).setRow w.heap.size (fA ⟨0, 0, 1⟩) = Z9 at *
          refine bodyPost_ret (v := .agg (fA ⟨0, 0, 1⟩)) ?_ rfl ⟨by rw [HF.out], hb9⟩
          simp [results, Act.put, run_loadVar_row Z9 _ 87 87 _ _ _ hr Tryz.underlying87 rfl (info40' _), Tryz.results48, asAddr]
        · have e3 : ((x : Int) == 9223372036854775808) = false := by rw [beq_eq_false_iff_ne]; omega
          have HF : Hid (factsN x = ⟨exactN x, 0, 2⟩) := by show _ = _; unfold factsN; rw [if_neg hN, if_neg h1, if_neg h2, if_neg h3]
          have hex : expN x < 2047 := by
            have h9 : ¬ 9218868437227405312 < x % 9223372036854775808 := by intro h; exact hN (by unfold nanB; exact decide_eq_true h)
            unfold expN; omega
          go_wp2_with fail
          refine (exact_any x hx hex W).mono ?_
          rintro e Y ⟨rfl, hb⟩
          have Q0' := Lib.hid (below_heapAt hb ⟨Q0.out.lt, Q0.out⟩)
          have Q1' : Hid (FAt Y (w.heap.size + 1) ⟨0, 0, 2⟩) := below_heapAt hb ⟨Q1.out.lt, Q1.out⟩
          have HBY := Lib.hid (HB.out.trans (hb.mono HB.out.size))
          have HW1 := Lib.hid Q1'.out.words
          have HR1 : Hid (FAt (Y.setRow (w.heap.size + 1) (#[] ++ lA (limb (exactN x)) ++ #[.int .u8 (0 : Nat), .int .u8 (2 : Nat)])) (w.heap.size + 1) ⟨exactN x, 0, 2⟩) := FAt.of (setRow_heap Y _ _ _ 87 _ Q1'.out)
          have HR0 : Hid ((Y.setRow (w.heap.size + 1) (#[] ++ lA (limb (exactN x)) ++ #[.int .u8 (0 : Nat), .int .u8 (2 : Nat)])).heap[w.heap.size]? = some (.cells (fA ⟨0, 0, 0⟩) 87 (0, 0))) := (Go.setRow_other _ _ _ _ (by omega)).trans Q0'.out
          have HBR := Lib.hid (HBY.out.trans (below_setRow (Nat.le_succ w.heap.size) (#[] ++ lA (limb (exactN x)) ++ #[.int .u8 (0 : Nat), .int .u8 (2 : Nat)])))
          clear hb
          go_wp2_with (first
            | (refine wpList_store_part rfl 85 _ _ rfl (w.heap.size + 1) 0 (lA (limb (exactN x))) rfl rfl 87 #[] (lA (limb 0)) #[.int .u8 (0 : Nat), .int .u8 (2 : Nat)] HW1.out rfl (info38' _) (by simp) (lA_one _) ?_)
            | (refine wpList_load_row rfl 87 _ rfl (w.heap.size + 1) rfl 87 _ _ _ HR1.out Tryz.underlying87 rfl (info40' _) ?_)
            | (refine wpList_store_row rfl 87 _ _ rfl w.heap.size (fA ⟨exactN x, 0, 2⟩) rfl rfl 87 _ HR0.out (info40' _) (by simp) (fA_one _) ?_))
          generalize Y.setRow (w.heap.size + 1) (#[] ++ lA (limb (exactN x)) ++ #[.int .u8 (0 : Nat), .int .u8 (2 : Nat)]) = Z at *
          have hr := setRow_heap _ w.heap.size _ (fA ⟨exactN x, 0, 2⟩) 87 _ HR0.out
          have hb9 := HBR.out.trans (below_setRow (Nat.le_refl w.heap.size) (fA ⟨exactN x, 0, 2⟩))
          generalize Z.setRow w.heap.size (fA ⟨exactN x, 0, 2⟩) = Z9 at *
          refine bodyPost_ret (v := .agg (fA ⟨exactN x, 0, 2⟩)) ?_ rfl ⟨by rw [HF.out], hb9⟩
          simp [results, Act.put, run_loadVar_row Z9 _ 87 87 _ _ _ hr Tryz.underlying87 rfl (info40' _), Tryz.results48, asAddr]
end Go.Proofs.YtjcdnaandbockaaGreat

namespace Go.Proofs.YtjcdnaandbockaaGreat
open Go.RowKit Go.Shelf
attribute [local go_sem] Oper.semAt_some litZ litF0 fA_set2
set_option maxRecDepth 100000
set_option maxHeartbeats 1000000

/-- what a sum can know -/
structure Facts.Ok (f : Facts) : Prop where
  V : f.V < big
  saw : f.saw < 8
  zero : f.zero ≤ 2
def joinF (f g : Facts) : Facts := ⟨(f.V + g.V) % big, f.saw ||| g.saw, max f.zero g.zero⟩
theorem joinF_ok {f g : Facts} (hf : f.Ok) (hg : g.Ok) : (joinF f g).Ok := ⟨Nat.mod_lt _ big_pos, Nat.or_lt_two_pow (n := 3) hf.saw hg.saw, Nat.max_le.2 ⟨hf.zero, hg.zero⟩⟩
theorem run_or8 (a b : Nat) (ha : a < 8) (hb : b < 8) (w : World) : (binOp .or 5 (.int .u8 a) (.int .u8 b)).run Tryz.prog w = .ok (.int .u8 ((a ||| b : Nat) : Int)) w := by
  have h := (bits_nat .u8 8 (by decide) wraps_u8 a b (by omega) (by omega)).2
  simp [go_sem, h]
theorem run_max8 {P : Program} (a b : Nat) (t : TypeId) (w : World) : (Builtin.max_ #[5, 5] t #[.int .u8 a, .int .u8 b]).run P w = .ok (.int .u8 ((max a b : Nat) : Int)) w := by
  have e : (if (b : Int) > (a : Int) then (b : Int) else a) = ((max a b : Nat) : Int) := by split <;> omega
  rw [← e]
  rfl
theorem sem_max {P : Program} {o : Oper} {a : Act} {w : World} {x y : Operand} {vx vy v : Value} (hop : o.op = .call { callee := .builtin .max, args := #[x, y], argTypes := #[5, 5] }) (hx : a.eval x = vx) (hy : a.eval y = vy)
    (h : (Builtin.max_ #[5, 5] o.type #[vx, vy]).run P w = .ok v w) : (o.semAt none a.eval).run P w = .ok (.value v) w := by
  simp [Oper.semAt, hop, execOp, resolve, invoke, builtin, hx, hy, h, Result.andThen]

theorem join_any {w : World} {b : Nat} {f g : Facts} (h : FAt w b f) (hf : f.Ok) (hg : g.Ok) :
    Calls Tryz.prog 70 #[.pointer (some ⟨b, 0, none⟩), .agg (fA g)] w fun e w' => e = .returned (.bool (fitN ((f.V + g.V) % big))) ∧ FAt w' b (joinF f g) ∧ Sole b w w' := by
  have hlt := h.lt
  have h0 : Below w.heap.size w (w.alloc (.cells (fA g) 87)) := (Below.refl _ _).alloc (Nat.le_refl _) _
  have HF : Hid (FAt (w.alloc (.cells (fA g) 87)) b f) := below_heapAt h0 ⟨hlt, h⟩
  have HG : Hid (FAt (w.alloc (.cells (fA g) 87)) w.heap.size g) := heap_alloc_new w _
  have HS : Hid (Sole b w (w.alloc (.cells (fA g) 87))) := .of_below h0
  have hfo := hf
  have hgo := hg
  have hne : w.heap.size ≠ b := by omega
  clear h h0
  go_enter Tryz.func70, Tryz.ntmps70
  go_wp2_with fail
  generalize w.alloc (.cells (fA g) 87) = w2 at *
  refine (wpIn_wide (n := 0)).1 ?_
  refine region_det (by kernel_rfl) (I := fun listed a' w' => Hid (FAt w' b (if listed.getD 5 false = true then ⟨(f.V + g.V) % big, f.saw, f.zero⟩ else f)) ∧ Hid (FAt w' w.heap.size g) ∧ Hid (Sole b w w') ∧ a' = ⟨#[Value.pointer (some (Addr.mk b 0 none)), Value.agg (fA g), undef, Value.pointer (some (Addr.mk w.heap.size 0 none)), Value.bool false, (if listed.getD 0 false = true then Value.pointer (some ⟨b, 0, none⟩) else undef), (if listed.getD 1 false = true then Value.pointer (some ⟨b, 0, none⟩) else undef), (if listed.getD 2 false = true then Value.pointer (some ⟨b, 0, none⟩) else undef), (if listed.getD 3 false = true then Value.pointer (some ⟨w.heap.size, 0, none⟩) else undef), (if listed.getD 4 false = true then Value.agg (lA (limb g.V)) else undef), (if listed.getD 5 false = true then Value.tuple #[] else undef), undef, undef, undef, undef, undef, undef, undef, undef, undef, undef, undef, undef, undef, undef, undef, undef, undef, undef, undef, undef, undef, undef, undef, undef], []⟩) (hup_check (by kernel_rfl)) ?h0 ?step ?fin
  case h0 => exact ⟨HF.out, HG.out, HS.out.drew, rfl⟩
  case step =>
    intro listed a' w' i hs hbi hdep hi ⟨IF, IG, IS, ha⟩
    obtain ⟨ls⟩ := listed
    match ls, hs with
    | [x0, x1, x2, x3, x4, x5], _ =>
    subst ha
    have hi' : i = 0 ∨ i = 1 ∨ i = 2 ∨ i = 3 ∨ i = 4 ∨ i = 5 := by simp at hi; omega
    rcases hi' with rfl | rfl | rfl | rfl | rfl | rfl
    · obtain rfl : x0 = false := by simpa using hbi
      refine wpOpIn_plain rfl rfl rfl ?_
      exact ⟨IF, IG, IS, rfl⟩
    · obtain rfl : x1 = false := by simpa using hbi
      obtain rfl : x0 = true := hdep _ rfl ⟨0, .data⟩ (by simp) rfl
      refine wpOpIn_plain (v := Value.pointer (some ⟨b, 0, none⟩)) (w' := w') rfl rfl (by simp [Oper.semAt, execOp, go_sem]) ?_
      exact ⟨IF, IG, IS, rfl⟩
    · obtain rfl : x2 = false := by simpa using hbi
      obtain rfl : x1 = true := hdep _ rfl ⟨1, .data⟩ (by simp) rfl
      refine wpOpIn_plain (v := Value.pointer (some ⟨b, 0, none⟩)) (w' := w') rfl rfl (by simp [Oper.semAt, execOp, go_sem]) ?_
      exact ⟨IF, IG, IS, rfl⟩
    · obtain rfl : x3 = false := by simpa using hbi
      refine wpOpIn_plain (v := Value.pointer (some ⟨w.heap.size, 0, none⟩)) (w' := w') rfl rfl (by simp [Oper.semAt, execOp, go_sem]) ?_
      exact ⟨IF, IG, IS, rfl⟩
    · obtain rfl : x4 = false := by simpa using hbi
      obtain rfl : x3 = true := hdep _ rfl ⟨3, .data⟩ (by simp) rfl
      refine wpOpIn_load_part rfl rfl 85 _ rfl w.heap.size 0 rfl 87 #[] (lA (limb g.V)) #[.int .u8 g.saw, .int .u8 g.zero] _ IG.out.words rfl und38 rfl (info38' _) ?_
      exact ⟨IF, IG, IS, rfl⟩
    · obtain rfl : x5 = false := by simpa using hbi
      obtain rfl : x2 = true := hdep _ rfl ⟨2, .data⟩ (by simp) rfl
      obtain rfl : x4 = true := hdep _ rfl ⟨4, .data⟩ (by simp) rfl
      have iF : FAt w' b f := IF.out
      refine wpOpIn_call (args := #[Value.pointer (some ⟨b, 0, none⟩), Value.agg (lA (limb g.V))]) rfl rfl (sem_call2 rfl rfl rfl (enters_of Tryz.func89 (by kernel_rfl) rfl)) (add_any iF.words rfl g.V) ?_
      rintro e V ⟨rfl, hW, hs⟩
      exact ⟨_, rfl, (FAt.of hW), (hs.at_ IG.out hne), (IS.out.trans hs), rfl⟩
  case fin =>
  intro listed a' Y1 hs hall ⟨IF, IG, IS, ha⟩
  obtain ⟨ls⟩ := listed
  match ls, hs with
  | [x0, x1, x2, x3, x4, x5], _ =>
  obtain rfl : x0 = true := hall 0 (by simp)
  obtain rfl : x1 = true := hall 1 (by simp)
  obtain rfl : x2 = true := hall 2 (by simp)
  obtain rfl : x3 = true := hall 3 (by simp)
  obtain rfl : x4 = true := hall 4 (by simp)
  obtain rfl : x5 = true := hall 5 (by simp)
  subst ha
  have F1 : Hid (FAt Y1 b ⟨(f.V + g.V) % big, f.saw, f.zero⟩) := IF
  have G1 := IG
  have S1 := IS
  clear IF IG IS hall hs
  dsimp only [Exit.then, Exit.inBlock]
  go_wp2_with fail
  refine (wpIn_wide (n := 0)).1 ?_
  refine region_det (by kernel_rfl) (I := fun listed a' w' => Hid (FAt w' b ⟨((f.V + g.V) % big), if listed.getD 9 false = true then f.saw ||| g.saw else f.saw, f.zero⟩) ∧ Hid (FAt w' w.heap.size g) ∧ Hid (Sole b w w') ∧ Hid (listed.getD 6 false = true → listed.getD 3 false = true) ∧ Hid (listed.getD 9 false = true → listed.getD 3 false = true) ∧ a' = ⟨#[Value.pointer (some (Addr.mk b 0 none)), Value.agg (fA g), undef, Value.pointer (some (Addr.mk w.heap.size 0 none)), Value.bool false, Value.pointer (some (Addr.mk b 0 none)), Value.pointer (some (Addr.mk b 0 none)), Value.pointer (some (Addr.mk b 0 none)), Value.pointer (some (Addr.mk w.heap.size 0 none)), Value.agg (lA (limb g.V)), Value.tuple #[], (if listed.getD 0 false = true then Value.pointer (some ⟨b, 0, none⟩) else undef), (if listed.getD 1 false = true then Value.pointer (some ⟨b, 0, none⟩) else undef), (if listed.getD 2 false = true then Value.pointer (some ⟨b, 36, none⟩) else undef), (if listed.getD 3 false = true then Value.int IntKind.u8 ↑f.saw else undef), (if listed.getD 4 false = true then Value.pointer (some ⟨w.heap.size, 36, none⟩) else undef), (if listed.getD 5 false = true then Value.int IntKind.u8 ↑g.saw else undef), (if listed.getD 6 false = true then Value.int IntKind.u8 (f.saw ||| g.saw : Nat) else undef), (if listed.getD 7 false = true then Value.pointer (some ⟨b, 0, none⟩) else undef), (if listed.getD 8 false = true then Value.pointer (some ⟨b, 36, none⟩) else undef), undef, undef, undef, undef, undef, undef, undef, undef, undef, undef, undef, undef, undef, undef, undef], []⟩) (hup_check (by kernel_rfl)) ?h0 ?step ?fin
  case h0 => exact ⟨F1.out, G1.out, S1.out.drew, (fun h => by simp at h), (fun h => by simp at h), rfl⟩
  case step =>
    intro listed a' w' i hs hbi hdep hi ⟨IF, IG, IS, J6, J9, ha⟩
    obtain ⟨ls⟩ := listed
    match ls, hs with
    | [x0, x1, x2, x3, x4, x5, x6, x7, x8, x9], _ =>
    subst ha
    have hi' : i = 0 ∨ i = 1 ∨ i = 2 ∨ i = 3 ∨ i = 4 ∨ i = 5 ∨ i = 6 ∨ i = 7 ∨ i = 8 ∨ i = 9 := by simp at hi; omega
    rcases hi' with rfl | rfl | rfl | rfl | rfl | rfl | rfl | rfl | rfl | rfl
    · obtain rfl : x0 = false := by simpa using hbi
      refine wpOpIn_plain rfl rfl rfl ?_
      exact ⟨IF, IG, IS, J6, J9, rfl⟩
    · obtain rfl : x1 = false := by simpa using hbi
      obtain rfl : x0 = true := hdep _ rfl ⟨0, .data⟩ (by simp) rfl
      refine wpOpIn_plain (v := Value.pointer (some ⟨b, 0, none⟩)) (w' := w') rfl rfl (by simp [Oper.semAt, execOp, go_sem]) ?_
      exact ⟨IF, IG, IS, J6, J9, rfl⟩
    · obtain rfl : x2 = false := by simpa using hbi
      obtain rfl : x1 = true := hdep _ rfl ⟨1, .data⟩ (by simp) rfl
      refine wpOpIn_plain (v := Value.pointer (some ⟨b, 36, none⟩)) (w' := w') rfl rfl (by simp [Oper.semAt, execOp, go_sem]) ?_
      exact ⟨IF, IG, IS, J6, J9, rfl⟩
    · obtain rfl : x3 = false := by simpa using hbi
      obtain rfl : x2 = true := hdep _ rfl ⟨2, .data⟩ (by simp) rfl
      obtain rfl : x9 = false := Bool.eq_false_iff.2 fun h => by have := J9.out h; cases this
      have c0 : w'.cell? ⟨b, 36, none⟩ = some (.int .u8 f.saw) := IF.out.cellsaw
      refine wpOpIn_plain (v := Value.int IntKind.u8 ↑f.saw) (w' := w') rfl rfl (by simp [Oper.semAt, execOp, go_sem, c0]) ?_
      exact ⟨IF, IG, IS, (fun _ => rfl), (fun h => by cases h), rfl⟩
    · obtain rfl : x4 = false := by simpa using hbi
      refine wpOpIn_plain (v := Value.pointer (some ⟨w.heap.size, 36, none⟩)) (w' := w') rfl rfl (by simp [Oper.semAt, execOp, go_sem]) ?_
      exact ⟨IF, IG, IS, J6, J9, rfl⟩
    · obtain rfl : x5 = false := by simpa using hbi
      obtain rfl : x4 = true := hdep _ rfl ⟨4, .data⟩ (by simp) rfl
      have c0 := IG.out.cellsaw
      refine wpOpIn_plain (v := Value.int IntKind.u8 ↑g.saw) (w' := w') rfl rfl (by simp [Oper.semAt, execOp, go_sem, c0]) ?_
      exact ⟨IF, IG, IS, J6, J9, rfl⟩
    · obtain rfl : x6 = false := by simpa using hbi
      obtain rfl : x3 = true := hdep _ rfl ⟨3, .data⟩ (by simp) rfl
      obtain rfl : x5 = true := hdep _ rfl ⟨5, .data⟩ (by simp) rfl
      refine wpOpIn_plain (v := Value.int IntKind.u8 (f.saw ||| g.saw : Nat)) (w' := w') rfl rfl (sem_bin (vx := Value.int IntKind.u8 ↑f.saw) (vy := Value.int IntKind.u8 ↑g.saw) rfl rfl rfl rfl (run_or8 _ _ hfo.saw hgo.saw w')) ?_
      exact ⟨IF, IG, IS, (fun _ => rfl), J9, rfl⟩
    · obtain rfl : x7 = false := by simpa using hbi
      obtain rfl : x0 = true := hdep _ rfl ⟨0, .data⟩ (by simp) rfl
      refine wpOpIn_plain (v := Value.pointer (some ⟨b, 0, none⟩)) (w' := w') rfl rfl (by simp [Oper.semAt, execOp, go_sem]) ?_
      exact ⟨IF, IG, IS, J6, J9, rfl⟩
    · obtain rfl : x8 = false := by simpa using hbi
      obtain rfl : x7 = true := hdep _ rfl ⟨7, .data⟩ (by simp) rfl
      refine wpOpIn_plain (v := Value.pointer (some ⟨b, 36, none⟩)) (w' := w') rfl rfl (by simp [Oper.semAt, execOp, go_sem]) ?_
      exact ⟨IF, IG, IS, J6, J9, rfl⟩
    · obtain rfl : x9 = false := by simpa using hbi
      obtain rfl : x8 = true := hdep _ rfl ⟨8, .data⟩ (by simp) rfl
      obtain rfl : x6 = true := hdep _ rfl ⟨6, .data⟩ (by simp) rfl
      have iF : FAt w' b ⟨((f.V + g.V) % big), f.saw, f.zero⟩ := IF.out
      have c0 := iF.cellsaw
      have f0 := iF.open_ 36
      have l0 := iF.lt
      refine wpOpIn_skip (w' := w'.setCell ⟨b, 36, none⟩ (Value.int IntKind.u8 (f.saw ||| g.saw : Nat))) rfl rfl (by simp [Oper.semAt, execOp, go_sem, c0, f0, l0]) ?_
      exact ⟨(iF.saw (f.saw ||| g.saw)), ((heap_setCell_other _ _ _ _ hne).trans IG.out), (IS.out.trans (Sole.set _)), J6, (fun _ => J6.out rfl), rfl⟩
  case fin =>
  intro listed a' Y2 hs hall ⟨IF, IG, IS, J6, J9, ha⟩
  obtain ⟨ls⟩ := listed
  match ls, hs with
  | [x0, x1, x2, x3, x4, x5, x6, x7, x8, x9], _ =>
  obtain rfl : x0 = true := hall 0 (by simp)
  obtain rfl : x1 = true := hall 1 (by simp)
  obtain rfl : x2 = true := hall 2 (by simp)
  obtain rfl : x3 = true := hall 3 (by simp)
  obtain rfl : x4 = true := hall 4 (by simp)
  obtain rfl : x5 = true := hall 5 (by simp)
  obtain rfl : x6 = true := hall 6 (by simp)
  obtain rfl : x7 = true := hall 7 (by simp)
  obtain rfl : x8 = true := hall 8 (by simp)
  obtain rfl : x9 = true := hall 9 (by simp)
  subst ha
  have F2 : Hid (FAt Y2 b ⟨((f.V + g.V) % big), f.saw ||| g.saw, f.zero⟩) := IF
  have G2 := IG
  have S2 := IS
  clear IF IG IS J6 J9 hall hs F1 G1 S1
  dsimp only [Exit.then, Exit.inBlock]
  go_wp2_with fail
  refine (wpIn_wide (n := 0)).1 ?_
  refine region_det (by kernel_rfl) (I := fun listed a' w' => Hid (FAt w' b ⟨((f.V + g.V) % big), (f.saw ||| g.saw), if listed.getD 10 false = true then max f.zero g.zero else f.zero⟩) ∧ Hid (FAt w' w.heap.size g) ∧ Hid (Sole b w w') ∧ Hid (listed.getD 7 false = true → listed.getD 4 false = true) ∧ Hid (listed.getD 10 false = true → listed.getD 4 false = true) ∧ a' = ⟨#[Value.pointer (some (Addr.mk b 0 none)), Value.agg (fA g), undef, Value.pointer (some (Addr.mk w.heap.size 0 none)), Value.bool false, Value.pointer (some (Addr.mk b 0 none)), Value.pointer (some (Addr.mk b 0 none)), Value.pointer (some (Addr.mk b 0 none)), Value.pointer (some (Addr.mk w.heap.size 0 none)), Value.agg (lA (limb g.V)), Value.tuple #[], Value.pointer (some (Addr.mk b 0 none)), Value.pointer (some (Addr.mk b 0 none)), Value.pointer (some (Addr.mk b 36 none)), Value.int IntKind.u8 ↑f.saw, Value.pointer (some (Addr.mk w.heap.size 36 none)), Value.int IntKind.u8 ↑g.saw, Value.int IntKind.u8 ↑(f.saw ||| g.saw), Value.pointer (some (Addr.mk b 0 none)), Value.pointer (some (Addr.mk b 36 none)), (if listed.getD 0 false = true then Value.pointer (some ⟨b, 0, none⟩) else undef), (if listed.getD 1 false = true then Value.pointer (some ⟨b, 0, none⟩) else undef), (if listed.getD 2 false = true then Value.pointer (some ⟨b, 0, none⟩) else undef), (if listed.getD 3 false = true then Value.pointer (some ⟨b, 37, none⟩) else undef), (if listed.getD 4 false = true then Value.int IntKind.u8 ↑f.zero else undef), (if listed.getD 5 false = true then Value.pointer (some ⟨w.heap.size, 37, none⟩) else undef), (if listed.getD 6 false = true then Value.int IntKind.u8 ↑g.zero else undef), (if listed.getD 7 false = true then Value.int IntKind.u8 (max f.zero g.zero : Nat) else undef), (if listed.getD 8 false = true then Value.pointer (some ⟨b, 0, none⟩) else undef), (if listed.getD 9 false = true then Value.pointer (some ⟨b, 37, none⟩) else undef), undef, undef, undef, undef, undef], []⟩) (hup_check (by kernel_rfl)) ?h0 ?step ?fin
  case h0 => exact ⟨F2.out, G2.out, S2.out.drew, (fun h => by simp at h), (fun h => by simp at h), rfl⟩
  case step =>
    intro listed a' w' i hs hbi hdep hi ⟨IF, IG, IS, J7, J10, ha⟩
    obtain ⟨ls⟩ := listed
    match ls, hs with
    | [x0, x1, x2, x3, x4, x5, x6, x7, x8, x9, x10], _ =>
    subst ha
    have hi' : i = 0 ∨ i = 1 ∨ i = 2 ∨ i = 3 ∨ i = 4 ∨ i = 5 ∨ i = 6 ∨ i = 7 ∨ i = 8 ∨ i = 9 ∨ i = 10 := by simp at hi; omega
    rcases hi' with rfl | rfl | rfl | rfl | rfl | rfl | rfl | rfl | rfl | rfl | rfl
    · obtain rfl : x0 = false := by simpa using hbi
      refine wpOpIn_plain rfl rfl rfl ?_
      exact ⟨IF, IG, IS, J7, J10, rfl⟩
    · obtain rfl : x1 = false := by simpa using hbi
      refine wpOpIn_plain rfl rfl rfl ?_
      exact ⟨IF, IG, IS, J7, J10, rfl⟩
    · obtain rfl : x2 = false := by simpa using hbi
      obtain rfl : x1 = true := hdep _ rfl ⟨1, .data⟩ (by simp) rfl
      refine wpOpIn_plain (v := Value.pointer (some ⟨b, 0, none⟩)) (w' := w') rfl rfl (by simp [Oper.semAt, execOp, go_sem]) ?_
      exact ⟨IF, IG, IS, J7, J10, rfl⟩
    · obtain rfl : x3 = false := by simpa using hbi
      obtain rfl : x2 = true := hdep _ rfl ⟨2, .data⟩ (by simp) rfl
      refine wpOpIn_plain (v := Value.pointer (some ⟨b, 37, none⟩)) (w' := w') rfl rfl (by simp [Oper.semAt, execOp, go_sem]) ?_
      exact ⟨IF, IG, IS, J7, J10, rfl⟩
    · obtain rfl : x4 = false := by simpa using hbi
      obtain rfl : x3 = true := hdep _ rfl ⟨3, .data⟩ (by simp) rfl
      obtain rfl : x10 = false := Bool.eq_false_iff.2 fun h => by have := J10.out h; cases this
      have c0 : w'.cell? ⟨b, 37, none⟩ = some (.int .u8 f.zero) := IF.out.cellzero
      refine wpOpIn_plain (v := Value.int IntKind.u8 ↑f.zero) (w' := w') rfl rfl (by simp [Oper.semAt, execOp, go_sem, c0]) ?_
      exact ⟨IF, IG, IS, (fun _ => rfl), (fun h => by cases h), rfl⟩
    · obtain rfl : x5 = false := by simpa using hbi
      refine wpOpIn_plain (v := Value.pointer (some ⟨w.heap.size, 37, none⟩)) (w' := w') rfl rfl (by simp [Oper.semAt, execOp, go_sem]) ?_
      exact ⟨IF, IG, IS, J7, J10, rfl⟩
    · obtain rfl : x6 = false := by simpa using hbi
      obtain rfl : x5 = true := hdep _ rfl ⟨5, .data⟩ (by simp) rfl
      have c0 := IG.out.cellzero
      refine wpOpIn_plain (v := Value.int IntKind.u8 ↑g.zero) (w' := w') rfl rfl (by simp [Oper.semAt, execOp, go_sem, c0]) ?_
      exact ⟨IF, IG, IS, J7, J10, rfl⟩
    · obtain rfl : x7 = false := by simpa using hbi
      obtain rfl : x4 = true := hdep _ rfl ⟨4, .data⟩ (by simp) rfl
      obtain rfl : x6 = true := hdep _ rfl ⟨6, .data⟩ (by simp) rfl
      refine wpOpIn_plain (v := Value.int IntKind.u8 (max f.zero g.zero : Nat)) (w' := w') rfl rfl (sem_max (vx := Value.int IntKind.u8 ↑f.zero) (vy := Value.int IntKind.u8 ↑g.zero) rfl rfl rfl (run_max8 _ _ _ w')) ?_
      exact ⟨IF, IG, IS, (fun _ => rfl), J10, rfl⟩
    · obtain rfl : x8 = false := by simpa using hbi
      obtain rfl : x0 = true := hdep _ rfl ⟨0, .data⟩ (by simp) rfl
      refine wpOpIn_plain (v := Value.pointer (some ⟨b, 0, none⟩)) (w' := w') rfl rfl (by simp [Oper.semAt, execOp, go_sem]) ?_
      exact ⟨IF, IG, IS, J7, J10, rfl⟩
    · obtain rfl : x9 = false := by simpa using hbi
      obtain rfl : x8 = true := hdep _ rfl ⟨8, .data⟩ (by simp) rfl
      refine wpOpIn_plain (v := Value.pointer (some ⟨b, 37, none⟩)) (w' := w') rfl rfl (by simp [Oper.semAt, execOp, go_sem]) ?_
      exact ⟨IF, IG, IS, J7, J10, rfl⟩
    · obtain rfl : x10 = false := by simpa using hbi
      obtain rfl : x9 = true := hdep _ rfl ⟨9, .data⟩ (by simp) rfl
      obtain rfl : x7 = true := hdep _ rfl ⟨7, .data⟩ (by simp) rfl
      have iF : FAt w' b ⟨((f.V + g.V) % big), (f.saw ||| g.saw), f.zero⟩ := IF.out
      have c0 := iF.cellzero
      have f0 := iF.open_ 37
      have l0 := iF.lt
      refine wpOpIn_skip (w' := w'.setCell ⟨b, 37, none⟩ (Value.int IntKind.u8 (max f.zero g.zero : Nat))) rfl rfl (by simp [Oper.semAt, execOp, go_sem, c0, f0, l0]) ?_
      exact ⟨(iF.zero (max f.zero g.zero)), ((heap_setCell_other _ _ _ _ hne).trans IG.out), (IS.out.trans (Sole.set _)), J7, (fun _ => J7.out rfl), rfl⟩
  case fin =>
  intro listed a' Y3 hs hall ⟨IF, IG, IS, J7, J10, ha⟩
  obtain ⟨ls⟩ := listed
  match ls, hs with
  | [x0, x1, x2, x3, x4, x5, x6, x7, x8, x9, x10], _ =>
  obtain rfl : x0 = true := hall 0 (by simp)
  obtain rfl : x1 = true := hall 1 (by simp)
  obtain rfl : x2 = true := hall 2 (by simp)
  obtain rfl : x3 = true := hall 3 (by simp)
  obtain rfl : x4 = true := hall 4 (by simp)
  obtain rfl : x5 = true := hall 5 (by simp)
  obtain rfl : x6 = true := hall 6 (by simp)
  obtain rfl : x7 = true := hall 7 (by simp)
  obtain rfl : x8 = true := hall 8 (by simp)
  obtain rfl : x9 = true := hall 9 (by simp)
  obtain rfl : x10 = true := hall 10 (by simp)
  subst ha
  have F3 : Hid (FAt Y3 b (joinF f g)) := IF
  have S3 := IS
  have W3 := Lib.hid F3.out.words
  clear IF IG IS J7 J10 hall hs F2 G2 S2
  dsimp only [Exit.then, Exit.inBlock]
  have hfit := fits_any ((f.V + g.V) % big) (Nat.mod_lt _ big_pos) Y3
  go_wp2_with (refine wpList_load_part rfl 85 _ rfl b 0 rfl 87 #[] (lA (limb ((f.V + g.V) % big))) #[.int .u8 (f.saw ||| g.saw : Nat), .int .u8 (max f.zero g.zero : Nat)] _ W3.out rfl und38 rfl (info38' _) ?_)
  refine hfit.mono ?_
  rintro e Z ⟨rfl, hb⟩
  have F4 : Hid (FAt Z b (joinF f g)) := below_heapAt hb ⟨F3.out.lt, F3.out⟩
  have S4 := Lib.hid (S3.out.trans (Sole.of_below hb))
  clear hfit hb
  go_wp2_with fail
  go_ret
  exact ⟨rfl, F4.out, S4.out⟩
end Go.Proofs.YtjcdnaandbockaaGreat

namespace Go.Proofs.YtjcdnaandbockaaGreat
open Go.RowKit Go.Shelf
attribute [local go_sem] Oper.semAt_some litZ litF0 fA_set2
set_option maxRecDepth 100000
set_option maxHeartbeats 1000000

theorem run_shl' (D n : Nat) (hn : n ≤ 64) (w : World) : (binOp .shl 22 (.int .u64 D) (.int .i64 (64 - (n : Int)))).run Tryz.prog w = .ok (.int .u64 ((D * 2 ^ (64 - n) % 18446744073709551616 : Nat) : Int)) w := by
  have := run_shl D (64 - n) (by omega) w
  rwa [show ((64 - n : Nat) : Int) = 64 - (n : Int) by omega] at this
theorem run_or64 (a b : Nat) (ha : a < 18446744073709551616) (hb : b < 18446744073709551616) (w : World) : (binOp .or 22 (.int .u64 a) (.int .u64 b)).run Tryz.prog w = .ok (.int .u64 ((a ||| b : Nat) : Int)) w := by
  have h := b_or a b ha hb
  simp [go_sem, h]

def fromN (V n : Nat) : Nat := V / 2 ^ n % 18446744073709551616
theorem from_any (V n : Nat) (hn : n < 2240) (w : World) : Calls Tryz.prog 95 #[.agg (lA (limb V)), .int .i64 n] w fun e w' => e = .returned (.int .u64 (fromN V n : Nat)) ∧ Below w.heap.size w w' := by
  have hb0 : Below w.heap.size w (w.alloc (.cells (lA (limb V)) 85)) := (Below.refl _ _).alloc (Nat.le_refl _) _
  have hq := wat0 (heap_alloc_new w (.cells (lA (limb V)) 85))
  obtain ⟨iw, hi⟩ : ∃ iw, iw = n / 64 := ⟨_, rfl⟩
  obtain ⟨d, hd⟩ : ∃ d, d = n % 64 := ⟨_, rfl⟩
  have HN : Hid (n = 64 * iw + d) := by show _ = _; omega
  have hdl : d < 64 := by omega
  have hil : iw < 35 := by omega
  have HV : Hid ((limb V iw / 2 ^ d) ||| (limb V (iw + 1) * 2 ^ (64 - d) % 18446744073709551616) = fromN V n) := by show _ = _; unfold fromN; rw [from_limb V iw d hdl, HN.out]
  have h1 := limb_lt V iw
  have h2 : limb V iw / 2 ^ d < 18446744073709551616 := Nat.lt_of_le_of_lt (Nat.div_le_self _ _) h1
  have h3 : limb V (iw + 1) * 2 ^ (64 - d) % 18446744073709551616 < 18446744073709551616 := Nat.mod_lt _ (by decide)
  have hdi : (n : Int) / 64 = (iw : Int) := by omega
  have hdm : (n : Int) % 64 = (d : Int) := by omega
  have hn0 : (n : Int) < 2240 := by omega
  have HB := Lib.hid hb0
  have HQ := Lib.hid hq
  have HS1 := Lib.hid (run_shr (limb V iw) d (by omega))
  have HS2 := Lib.hid (run_shl' (limb V (iw + 1)) d (by omega))
  have HS3 := Lib.hid (run_or64 _ _ h2 h3)
  have HS4 := Lib.hid (run_add1 iw (by omega))
  have HS5 := Lib.hid (run_sub64 d (by omega))
  obtain ⟨A, hA⟩ : ∃ A, A = limb V iw / 2 ^ d := ⟨_, rfl⟩
  obtain ⟨B, hB⟩ : ∃ B, B = limb V (iw + 1) * 2 ^ (64 - d) % 18446744073709551616 := ⟨_, rfl⟩
  rw [← hA] at HS1 HS3 HV
  rw [← hB] at HS2 HS3 HV
  rw [← hdm] at HS1 HS2 HS5
  have hdl2 := Lib.hid hdl
  have hil2 := Lib.hid hil
  clear hb0 hq hi hd h1 h2 h3 hA hB hdl hil
  go_enter Tryz.func95, Tryz.ntmps95
  go_wp2_with fail
  generalize w.alloc (.cells (lA (limb V)) 85) = w2 at *
  refine (wpIn_wide (n := 0)).1 ?_
  refine region_det (by kernel_rfl) (I := fun listed a' w' => Hid (WAt w' w.heap.size 85 #[] #[] (limb V)) ∧ Hid (Below w.heap.size w w') ∧ a' = ⟨#[Value.agg (lA (limb V)), Value.int IntKind.i64 ↑n, Value.pointer (some (Addr.mk w.heap.size 0 none)), undef, (if listed.getD 13 false = true then Value.int IntKind.u64 (A ||| B : Nat) else Value.int IntKind.u64 0), Value.int IntKind.i64 ↑iw, Value.int IntKind.i64 (↑n % 64), Value.int IntKind.i64 ↑n, Value.int IntKind.i64 ↑iw, Value.int IntKind.i64 ↑n, Value.int IntKind.i64 (↑n % 64), (if listed.getD 0 false = true then Value.int IntKind.i64 ↑iw else undef), (if listed.getD 1 false = true then Value.pointer (some ⟨w.heap.size, iw, none⟩) else undef), (if listed.getD 2 false = true then Value.int IntKind.u64 (limb V iw : Nat) else undef), (if listed.getD 3 false = true then Value.int IntKind.i64 (↑n % 64) else undef), (if listed.getD 4 false = true then Value.int IntKind.u64 ↑A else undef), (if listed.getD 5 false = true then Value.int IntKind.i64 ↑iw else undef), (if listed.getD 6 false = true then Value.int IntKind.i64 (↑iw + 1) else undef), (if listed.getD 7 false = true then Value.pointer (some ⟨w.heap.size, iw + 1, none⟩) else undef), (if listed.getD 8 false = true then Value.int IntKind.u64 (limb V (iw + 1) : Nat) else undef), (if listed.getD 9 false = true then Value.int IntKind.i64 (↑n % 64) else undef), (if listed.getD 10 false = true then Value.int IntKind.i64 (64 - (↑n % 64)) else undef), (if listed.getD 11 false = true then Value.int IntKind.u64 ↑B else undef), (if listed.getD 12 false = true then Value.int IntKind.u64 (A ||| B : Nat) else undef)], []⟩) (hup_check (by kernel_rfl)) ?h0 ?step ?fin
  case h0 => exact ⟨HQ.out, HB.out.drew, rfl⟩
  case step =>
    intro listed a' w' i hs hbi hdep hi ⟨IQ, IB, ha⟩
    obtain ⟨ls⟩ := listed
    match ls, hs with
    | [x0, x1, x2, x3, x4, x5, x6, x7, x8, x9, x10, x11, x12, x13], _ =>
    subst ha
    have hi' : i = 0 ∨ i = 1 ∨ i = 2 ∨ i = 3 ∨ i = 4 ∨ i = 5 ∨ i = 6 ∨ i = 7 ∨ i = 8 ∨ i = 9 ∨ i = 10 ∨ i = 11 ∨ i = 12 ∨ i = 13 := by simp at hi; omega
    have e1 : (iw : Int) < 36 := by have := hil2.out; omega
    have e2 : (iw : Int) + 1 < 36 := by have := hil2.out; omega
    have e3 : (0 : Int) ≤ (iw : Int) + 1 := by omega
    have e4 : ((iw : Int) + 1).toNat = iw + 1 := by omega
    rcases hi' with rfl | rfl | rfl | rfl | rfl | rfl | rfl | rfl | rfl | rfl | rfl | rfl | rfl | rfl
    · obtain rfl : x0 = false := by simpa using hbi
      refine wpOpIn_plain rfl rfl rfl ?_
      exact ⟨IQ, IB, rfl⟩
    · obtain rfl : x1 = false := by simpa using hbi
      obtain rfl : x0 = true := hdep _ rfl ⟨0, .data⟩ (by simp) rfl
      refine wpOpIn_plain (v := Value.pointer (some ⟨w.heap.size, iw, none⟩)) (w' := w') rfl rfl (by simp [Oper.semAt, execOp, go_sem, e1, e2, e3, e4]) ?_
      exact ⟨IQ, IB, rfl⟩
    · obtain rfl : x2 = false := by simpa using hbi
      obtain rfl : x1 = true := hdep _ rfl ⟨1, .data⟩ (by simp) rfl
      have c0 := IQ.out.cell0 iw (by have := hil2.out; omega)
      refine wpOpIn_plain (v := Value.int IntKind.u64 (limb V iw : Nat)) (w' := w') rfl rfl (by simp [Oper.semAt, execOp, go_sem, c0]) ?_
      exact ⟨IQ, IB, rfl⟩
    · obtain rfl : x3 = false := by simpa using hbi
      refine wpOpIn_plain rfl rfl rfl ?_
      exact ⟨IQ, IB, rfl⟩
    · obtain rfl : x4 = false := by simpa using hbi
      obtain rfl : x2 = true := hdep _ rfl ⟨2, .data⟩ (by simp) rfl
      obtain rfl : x3 = true := hdep _ rfl ⟨3, .data⟩ (by simp) rfl
      refine wpOpIn_plain (v := Value.int IntKind.u64 ↑A) (w' := w') rfl rfl (sem_bin (vx := Value.int IntKind.u64 (limb V iw : Nat)) (vy := Value.int IntKind.i64 (↑n % 64)) rfl rfl rfl rfl (HS1.out w')) ?_
      exact ⟨IQ, IB, rfl⟩
    · obtain rfl : x5 = false := by simpa using hbi
      refine wpOpIn_plain rfl rfl rfl ?_
      exact ⟨IQ, IB, rfl⟩
    · obtain rfl : x6 = false := by simpa using hbi
      obtain rfl : x5 = true := hdep _ rfl ⟨5, .data⟩ (by simp) rfl
      refine wpOpIn_plain (v := Value.int IntKind.i64 (↑iw + 1)) (w' := w') rfl rfl (sem_bin (vx := Value.int IntKind.i64 ↑iw) (vy := Value.int IntKind.i64 1) rfl rfl rfl rfl (HS4.out w')) ?_
      exact ⟨IQ, IB, rfl⟩
    · obtain rfl : x7 = false := by simpa using hbi
      obtain rfl : x6 = true := hdep _ rfl ⟨6, .data⟩ (by simp) rfl
      refine wpOpIn_plain (v := Value.pointer (some ⟨w.heap.size, iw + 1, none⟩)) (w' := w') rfl rfl (by simp [Oper.semAt, execOp, go_sem, e1, e2, e3, e4]) ?_
      exact ⟨IQ, IB, rfl⟩
    · obtain rfl : x8 = false := by simpa using hbi
      obtain rfl : x7 = true := hdep _ rfl ⟨7, .data⟩ (by simp) rfl
      have c0 := IQ.out.cell0 (iw + 1) (by have := hil2.out; omega)
      refine wpOpIn_plain (v := Value.int IntKind.u64 (limb V (iw + 1) : Nat)) (w' := w') rfl rfl (by simp [Oper.semAt, execOp, go_sem, c0]) ?_
      exact ⟨IQ, IB, rfl⟩
    · obtain rfl : x9 = false := by simpa using hbi
      refine wpOpIn_plain rfl rfl rfl ?_
      exact ⟨IQ, IB, rfl⟩
    · obtain rfl : x10 = false := by simpa using hbi
      obtain rfl : x9 = true := hdep _ rfl ⟨9, .data⟩ (by simp) rfl
      refine wpOpIn_plain (v := Value.int IntKind.i64 (64 - (↑n % 64))) (w' := w') rfl rfl (sem_bin (vx := Value.int IntKind.i64 64) (vy := Value.int IntKind.i64 (↑n % 64)) rfl rfl rfl rfl (HS5.out w')) ?_
      exact ⟨IQ, IB, rfl⟩
    · obtain rfl : x11 = false := by simpa using hbi
      obtain rfl : x8 = true := hdep _ rfl ⟨8, .data⟩ (by simp) rfl
      obtain rfl : x10 = true := hdep _ rfl ⟨10, .data⟩ (by simp) rfl
      refine wpOpIn_plain (v := Value.int IntKind.u64 ↑B) (w' := w') rfl rfl (sem_bin (vx := Value.int IntKind.u64 (limb V (iw + 1) : Nat)) (vy := Value.int IntKind.i64 (64 - (↑n % 64))) rfl rfl rfl rfl (HS2.out w')) ?_
      exact ⟨IQ, IB, rfl⟩
    · obtain rfl : x12 = false := by simpa using hbi
      obtain rfl : x4 = true := hdep _ rfl ⟨4, .data⟩ (by simp) rfl
      obtain rfl : x11 = true := hdep _ rfl ⟨11, .data⟩ (by simp) rfl
      refine wpOpIn_plain (v := Value.int IntKind.u64 (A ||| B : Nat)) (w' := w') rfl rfl (sem_bin (vx := Value.int IntKind.u64 ↑A) (vy := Value.int IntKind.u64 ↑B) rfl rfl rfl rfl (HS3.out w')) ?_
      exact ⟨IQ, IB, rfl⟩
    · obtain rfl : x13 = false := by simpa using hbi
      obtain rfl : x12 = true := hdep _ rfl ⟨12, .data⟩ (by simp) rfl
      refine wpOpIn_plain rfl rfl rfl ?_
      exact ⟨IQ, IB, rfl⟩
  case fin =>
  intro listed a' Z hs hall ⟨IQ, IB, ha⟩
  obtain ⟨ls⟩ := listed
  match ls, hs with
  | [x0, x1, x2, x3, x4, x5, x6, x7, x8, x9, x10, x11, x12, x13], _ =>
  obtain rfl : x0 = true := hall 0 (by simp)
  obtain rfl : x1 = true := hall 1 (by simp)
  obtain rfl : x2 = true := hall 2 (by simp)
  obtain rfl : x3 = true := hall 3 (by simp)
  obtain rfl : x4 = true := hall 4 (by simp)
  obtain rfl : x5 = true := hall 5 (by simp)
  obtain rfl : x6 = true := hall 6 (by simp)
  obtain rfl : x7 = true := hall 7 (by simp)
  obtain rfl : x8 = true := hall 8 (by simp)
  obtain rfl : x9 = true := hall 9 (by simp)
  obtain rfl : x10 = true := hall 10 (by simp)
  obtain rfl : x11 = true := hall 11 (by simp)
  obtain rfl : x12 = true := hall 12 (by simp)
  obtain rfl : x13 = true := hall 13 (by simp)
  subst ha
  have hb := IB.out
  clear hall hs IQ IB
  dsimp only [Exit.then, Exit.inBlock]
  go_wp2_with fail
  go_ret
  exact ⟨by rw [← HV.out]; rfl, hb⟩
end Go.Proofs.YtjcdnaandbockaaGreat
