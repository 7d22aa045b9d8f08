import Derived.Test.YtjcdnaandbockaaGreatGs
import Derived.BigQuiet
import Derived.Test.YtjcdnaandbockaaGreatGu
import Derived.Test.YtjcdnaandbockaaGreatGt
import Derived.Laws.OwnMore
import Derived.Test.YtjcdnaandbockaaGreatGe
import Derived.Deep.OwnRows
namespace Go.Proofs.YtjcdnaandbockaaGreat
open Go.RowKit Go.Shelf
attribute [local go_sem] Oper.semAt_some
set_option maxRecDepth 100000
set_option maxHeartbeats 2000000

/-- a world that differs in draws alone -/
def Drawn (w w' : World) : Prop := ∃ m, w' = w.drewN m
theorem Drawn.refl (w : World) : Drawn w w := ⟨0, rfl⟩
theorem Drawn.drewN {w w' : World} (h : Drawn w w') (n : Nat) : Drawn w (w'.drewN n) := by
  obtain ⟨m, rfl⟩ := h
  exact ⟨m + n, by rw [World.drewN_drewN]⟩
theorem Drawn.below {w w' : World} (h : Drawn w w') : Below w.heap.size w w' := by
  obtain ⟨m, rfl⟩ := h
  exact below_drewN (Below.refl _ _) m
theorem order_quiet {w : World} {a a2 : Option Addr} {n n2 cap cap2 X Y : Nat} (hx : NumAt w a n cap X) (hy : NumAt w a2 n2 cap2 Y) (hn : n ≤ 1000) (hn2 : n2 ≤ 1000) :
    Calls Tryz.prog 58 #[.slice a n cap, .slice a2 n2 cap2] w fun e w' => e = .returned (.int .i64 (ordN X Y)) ∧ Drawn w w' := by
  have hxn := hx.len
  have hyn := hy.len
  by_cases hne : n = n2
  · subst hne
    have HX := Lib.hid hx
    have HY := Lib.hid hy
    have HXN := Lib.hid hxn
    have HYN := Lib.hid hyn
    have HX0 : Hid (X / 2 ^ (8 * n) = 0) := by
      show _ = _
      rw [bytesN_len] at hxn
      exact Nat.div_eq_of_lt (lt_pw (blen X) (8 * n) (lt_blen X) (by omega))
    have HY0 : Hid (Y / 2 ^ (8 * n) = 0) := by
      show _ = _
      rw [bytesN_len] at hyn
      exact Nat.div_eq_of_lt (lt_pw (blen Y) (8 * n) (lt_blen Y) (by omega))
    clear hx hy hxn hyn
    have hnn : ((n : Int) != (n : Int)) = false := by simp
    go_enter Tryz.func58, Tryz.ntmps58
    go_wp2_with fail
    go_loopw [5] (fun i wr => ∃ k : Nat, k ≤ n ∧ i = .int .i64 k ∧ Hid (X / 2 ^ (8 * (n - k)) = Y / 2 ^ (8 * (n - k))) ∧ Hid (Drawn w wr)) (fun i _ => n - (intOf i).toNat)
    case atStart => exact ⟨0, Nat.zero_le _, rfl, by show _ = _; rw [Nat.sub_zero, HX0.out, HY0.out], Drawn.refl _⟩
    case round =>
      obtain ⟨k, hk, rfl, HE, HB⟩ := hrel
      by_cases hkn : k < n
      · have HXb := (HX.out.keep HB.out.below).bs
        have HYb := (HY.out.keep HB.out.below).bs
        have hk1 : k < (bytesN X).length := by rw [← HXN.out]; exact hkn
        have hk2 : k < (bytesN Y).length := by rw [← HYN.out]; exact hkn
        obtain ⟨g1, o1, rfl, hc1⟩ := HXb.at_ (ne_nil_of_lt hk1)
        obtain ⟨g2, o2, rfl, hc2⟩ := HYb.at_ (ne_nil_of_lt hk2)
        have c1 := hc1 k hk1
        have c2 := hc2 k hk2
        have hb1 := HXb.small _ (List.getElem_mem hk1)
        have hb2 := HYb.small _ (List.getElem_mem hk2)
        have e1 : (bytesN X)[k] = X / 2 ^ (8 * (n - 1 - k)) % 256 := by rw [bytesN_get, ← bytesN_len, ← HXN.out]
        have e2 : (bytesN Y)[k] = Y / 2 ^ (8 * (n - 1 - k)) % 256 := by rw [bytesN_get, ← bytesN_len, ← HYN.out]
        have HU1 := Lib.hid (div_up X (n - 1 - k))
        have HU2 := Lib.hid (div_up Y (n - 1 - k))
        rw [show n - 1 - k + 1 = n - k by omega] at HU1 HU2
        rw [e1] at c1 hb1
        rw [e2] at c2 hb2
        have hq : n - (k + 1) = n - 1 - k := by omega
        have HQ := Lib.hid hq
        clear hc1 hc2 HXb HYb hk1 hk2 e1 e2 hq
        obtain ⟨x, hxd⟩ : ∃ x, x = X / 2 ^ (8 * (n - 1 - k)) % 256 := ⟨_, rfl⟩
        obtain ⟨y, hyd⟩ : ∃ y, y = Y / 2 ^ (8 * (n - 1 - k)) % 256 := ⟨_, rfl⟩
        rw [← hxd] at c1 hb1 HU1
        rw [← hyd] at c2 hb2 HU2
        clear hxd hyd
        by_cases hxy : x = y
        · subst hxy
          have hnq : ((x : Int) != (x : Int)) = false := by simp
          have HE2 : Hid (X / 2 ^ (8 * (n - (k + 1))) = Y / 2 ^ (8 * (n - (k + 1)))) := by
            show _ = _
            rw [HQ.out, HU1.out, HU2.out, HE.out]
          clear HU1 HU2 HE HQ
          go_wp2_with fail
          go_big_quiet (fail)
          have HB2 := Lib.hid (HB.out.drewN nq)
          go_wp2_with fail
          go_round
          case rel => exact ⟨k + 1, by omega, by go_num, HE2, HB2⟩
          case measure => simp [intOf]; omega
        · have hnq : ((x : Int) != (y : Int)) = true := by simp; omega
          go_wp2_with fail
          go_big_quiet (fail)
          have HB2 := Lib.hid (HB.out.drewN nq)
          have c1 := kcell (below_drewN (Below.refl _ _) nq) c1
          have c2 := kcell (below_drewN (Below.refl _ _) nq) c2
          generalize wr.drewN nq = Z at *
          by_cases hlt : x < y
          · have hlt1 : decide ((x : Int) < y) = true := decide_eq_true (by omega)
            have HR : Hid (ordN X Y = -1) := by
              show _ = _
              have h1 := HU1.out
              have h2 := HU2.out
              rw [HE.out] at h1
              unfold ordN
              rw [if_pos]
              apply Nat.lt_of_not_le
              intro h9
              have := Nat.div_le_div_right (c := 2 ^ (8 * (n - 1 - k))) h9
              omega
            clear HU1 HU2 HE HQ hnq
            go_wp2_with fail
            go_big_quiet (fail)
            have HB3 := Lib.hid (HB2.out.drewN nq)
            go_wp2_with fail
            go_ret
            exact ⟨by rw [HR.out]; rfl, HB3.out⟩
          · have hlt1 : decide ((x : Int) < y) = false := decide_eq_false (by omega)
            have HR : Hid (ordN X Y = 1) := by
              show _ = _
              have h1 := HU1.out
              have h2 := HU2.out
              rw [HE.out] at h1
              have hle : Y < X := by
                apply Nat.lt_of_not_le
                intro h9
                have := Nat.div_le_div_right (c := 2 ^ (8 * (n - 1 - k))) h9
                omega
              unfold ordN
              rw [if_neg (by omega), if_pos hle]
            clear HU1 HU2 HE HQ hnq
            go_wp2_with fail
            go_big_quiet (fail)
            have HB3 := Lib.hid (HB2.out.drewN nq)
            go_wp2_with fail
            go_ret
            exact ⟨by rw [HR.out]; rfl, HB3.out⟩
      · have hk' : k = n := by omega
        subst hk'
        have HR : Hid (ordN X Y = 0) := by
          show _ = _
          have := HE.out
          rw [Nat.sub_self, Nat.mul_zero, Nat.pow_zero, Nat.div_one, Nat.div_one] at this
          subst this
          unfold ordN
          rw [if_neg (Nat.lt_irrefl _), if_neg (Nat.lt_irrefl _)]
        clear HE
        go_wp2_with fail
        go_ret
        exact ⟨by rw [HR.out]; rfl, HB.out⟩
  · have hnn : ((n : Int) != (n2 : Int)) = true := by simp; omega
    clear hx hy
    by_cases hlt : n < n2
    · have hlt1 : (n : Int) < n2 := by omega
      have HR : Hid (ordN X Y = -1) := by
        show _ = _
        unfold ordN
        rw [if_pos (len_mono (by omega))]
      clear hxn hyn
      go_enter Tryz.func58, Tryz.ntmps58
      go_wp2_with fail
      go_ret
      exact ⟨by rw [HR.out]; rfl, Drawn.refl _⟩
    · have hlt1 : ¬ (n : Int) < n2 := by omega
      have HR : Hid (ordN X Y = 1) := by
        show _ = _
        have := @len_mono Y X (by omega)
        unfold ordN
        rw [if_neg (by omega), if_pos this]
      clear hxn hyn
      go_enter Tryz.func58, Tryz.ntmps58
      go_wp2_with fail
      go_ret
      exact ⟨by rw [HR.out]; rfl, Drawn.refl _⟩
def repEq (m m2 : Bool) (X Y : Nat) (nan nan2 plus plus2 below below2 : Bool) (z z2 : Nat) : Bool := (m == m2) && (ordN X Y == 0) && (nan == nan2) && (plus == plus2) && (below == below2) && ((z : Int) == (z2 : Int))
set_option maxHeartbeats 8000000 in
theorem rSame_rep {w : World} {b c : Nat} {m m2 : Bool} {a a2 : Option Addr} {n n2 cap cap2 X Y : Nat} {nan nan2 plus plus2 below below2 : Bool} {z z2 : Nat} (h : QAt w b m a n cap nan plus below z) (h2 : QAt w c m2 a2 n2 cap2 nan2 plus2 below2 z2) (hx : NumAt w a n cap X) (hy : NumAt w a2 n2 cap2 Y) (hn : n ≤ 280) (hn2 : n2 ≤ 280) :
    Calls Tryz.prog 33 #[.pointer (some ⟨b, 0, none⟩), .pointer (some ⟨c, 0, none⟩)] w fun e w' => e = .returned (.bool (repEq m m2 X Y nan nan2 plus plus2 below below2 z z2)) ∧ Below w.heap.size w w' := by
  have HO : Hid (∀ q, Calls Tryz.prog 58 #[.slice a n cap, .slice a2 n2 cap2] (w.drewN q) fun e w' => e = .returned (.int .i64 (ordN X Y)) ∧ ∃ m, w' = (w.drewN q).drewN m) := fun q => order_quiet (hx.keep (below_drewN (Below.refl _ _) q)) (hy.keep (below_drewN (Below.refl _ _) q)) (by omega) (by omega)
  have HR : Hid (repEq m m2 X Y nan nan2 plus plus2 below below2 z z2 = ((m == m2) && (ordN X Y == 0) && (nan == nan2) && (plus == plus2) && (below == below2) && ((z : Int) == (z2 : Int)))) := rfl
  obtain ⟨R, hR⟩ : ∃ R, R = repEq m m2 X Y nan nan2 plus plus2 below below2 z z2 := ⟨_, rfl⟩
  rw [← hR] at HR ⊢
  clear hR hx hy
  generalize ordN X Y = od at *
  have b0 := h.c0
  have b1 := h.c1
  have b2 := h.c2
  have b3 := h.c3
  have b4 := h.c4
  have b5 := h.c5
  have d0 := h2.c0
  have d1 := h2.c1
  have d2 := h2.c2
  have d3 := h2.c3
  have d4 := h2.c4
  have d5 := h2.c5
  clear h h2
  cases h0 : (m == m2)
  case false =>
    have HV : Hid (R = false) := by show _ = _; rw [HR.out, h0]; try rfl
    clear HR
    go_enter Tryz.func33, Tryz.ntmps33
    go_wp2_with fail
    refine wp_region_quiet_lit (by kernel_rfl) (by kernel_rfl) ?_
    simp only [List.append_eq, List.cons_append, List.nil_append]
    repeat (go_big_quiet_step (first | (go_at_call 58; refine Calls.quiet_of (HO.out _))))
    refine wpQuiet_nil ?_
    intro _ hw'
    obtain ⟨nq, rfl⟩ := hw'
    go_wp2_with fail
    go_ret
    exact ⟨by rw [HV.out]; rfl, below_drewN (Below.refl _ _) _⟩
  case true =>
    cases h1 : (od == (0 : Int))
    case false =>
      have HV : Hid (R = false) := by show _ = _; rw [HR.out, h0, h1]; try rfl
      clear HR
      go_enter Tryz.func33, Tryz.ntmps33
      go_wp2_with fail
      refine wp_region_quiet_lit (by kernel_rfl) (by kernel_rfl) ?_
      simp only [List.append_eq, List.cons_append, List.nil_append]
      repeat (go_big_quiet_step (first | (go_at_call 58; refine Calls.quiet_of (HO.out _))))
      refine wpQuiet_nil ?_
      intro _ hw'
      obtain ⟨nq, rfl⟩ := hw'
      go_wp2_with fail
      go_ret
      exact ⟨by rw [HV.out]; rfl, below_drewN (Below.refl _ _) _⟩
    case true =>
      cases h3 : (nan == nan2)
      case false =>
        have HV : Hid (R = false) := by show _ = _; rw [HR.out, h0, h1, h3]; try rfl
        clear HR
        go_enter Tryz.func33, Tryz.ntmps33
        go_wp2_with fail
        refine wp_region_quiet_lit (by kernel_rfl) (by kernel_rfl) ?_
        simp only [List.append_eq, List.cons_append, List.nil_append]
        repeat (go_big_quiet_step (first | (go_at_call 58; refine Calls.quiet_of (HO.out _))))
        refine wpQuiet_nil ?_
        intro _ hw'
        obtain ⟨nq, rfl⟩ := hw'
        go_wp2_with fail
        go_ret
        exact ⟨by rw [HV.out]; rfl, below_drewN (Below.refl _ _) _⟩
      case true =>
        cases h4 : (plus == plus2)
        case false =>
          have HV : Hid (R = false) := by show _ = _; rw [HR.out, h0, h1, h3, h4]; try rfl
          clear HR
          go_enter Tryz.func33, Tryz.ntmps33
          go_wp2_with fail
          refine wp_region_quiet_lit (by kernel_rfl) (by kernel_rfl) ?_
          simp only [List.append_eq, List.cons_append, List.nil_append]
          repeat (go_big_quiet_step (first | (go_at_call 58; refine Calls.quiet_of (HO.out _))))
          refine wpQuiet_nil ?_
          intro _ hw'
          obtain ⟨nq, rfl⟩ := hw'
          go_wp2_with fail
          go_ret
          exact ⟨by rw [HV.out]; rfl, below_drewN (Below.refl _ _) _⟩
        case true =>
          cases h5 : (below == below2)
          case false =>
            have HV : Hid (R = false) := by show _ = _; rw [HR.out, h0, h1, h3, h4, h5]; try rfl
            clear HR
            go_enter Tryz.func33, Tryz.ntmps33
            go_wp2_with fail
            refine wp_region_quiet_lit (by kernel_rfl) (by kernel_rfl) ?_
            simp only [List.append_eq, List.cons_append, List.nil_append]
            repeat (go_big_quiet_step (first | (go_at_call 58; refine Calls.quiet_of (HO.out _))))
            refine wpQuiet_nil ?_
            intro _ hw'
            obtain ⟨nq, rfl⟩ := hw'
            go_wp2_with fail
            go_ret
            exact ⟨by rw [HV.out]; rfl, below_drewN (Below.refl _ _) _⟩
          case true =>
            cases h6 : ((z : Int) == (z2 : Int))
            case false =>
              have HV : Hid (R = false) := by show _ = _; rw [HR.out, h0, h1, h3, h4, h5, h6]; try rfl
              clear HR
              go_enter Tryz.func33, Tryz.ntmps33
              go_wp2_with fail
              refine wp_region_quiet_lit (by kernel_rfl) (by kernel_rfl) ?_
              simp only [List.append_eq, List.cons_append, List.nil_append]
              repeat (go_big_quiet_step (first | (go_at_call 58; refine Calls.quiet_of (HO.out _))))
              refine wpQuiet_nil ?_
              intro _ hw'
              obtain ⟨nq, rfl⟩ := hw'
              go_wp2_with fail
              go_ret
              exact ⟨by rw [HV.out]; rfl, below_drewN (Below.refl _ _) _⟩
            case true =>
              have HV : Hid (R = true) := by show _ = _; rw [HR.out, h0, h1, h3, h4, h5, h6]; try rfl
              clear HR
              go_enter Tryz.func33, Tryz.ntmps33
              go_wp2_with fail
              refine wp_region_quiet_lit (by kernel_rfl) (by kernel_rfl) ?_
              simp only [List.append_eq, List.cons_append, List.nil_append]
              repeat (go_big_quiet_step (first | (go_at_call 58; refine Calls.quiet_of (HO.out _))))
              refine wpQuiet_nil ?_
              intro _ hw'
              obtain ⟨nq, rfl⟩ := hw'
              go_wp2_with fail
              go_ret
              exact ⟨by rw [HV.out]; rfl, below_drewN (Below.refl _ _) _⟩
end Go.Proofs.YtjcdnaandbockaaGreat

namespace Go.Proofs.YtjcdnaandbockaaGreat
open Go.RowKit Go.Shelf
attribute [local go_sem] Oper.semAt_some
set_option maxRecDepth 100000
set_option maxHeartbeats 4000000

theorem RepF.enc {f : Facts} {m nan plus below : Bool} {X z : Nat} (hf : f.Ok) (rf : RepF f m X nan plus below z) : encN f = ((if nan = true then 1 else 0) + 2 * (if plus = true then 1 else 0) + 4 * (if below = true then 1 else 0) + 8 * z) :: (if m = true then 1 else 0) :: bytesN X := by
  have habs : absN f.V = X := by rw [abs_iv hf.V]; exact rf.abs
  have hneg : negN f.V = m := by
    have hv := rf.val
    have hm := rf.neg
    have h1 := neg_iff hf.V
    have hb := big_top
    have ht := top_pos
    have hV := hf.V
    unfold iv at hv
    cases m with
    | true =>
      have h0 := hm rfl
      rw [h1]
      by_cases hn : 9223372036854775808 * top ≤ f.V
      · exact hn
      · rw [if_neg hn, if_pos rfl] at hv; omega
    | false =>
      cases hq : negN f.V with
      | false => rfl
      | true =>
        have hn := h1.1 hq
        rw [if_pos hn, if_neg (by decide)] at hv
        omega
  unfold encN
  rw [habs, hneg, rf.saw, rf.zero]
  congr 1
  cases nan <;> cases plus <;> cases below <;> simp
theorem u64_mul2 (a : Nat) (h : a ≤ 1) (w : World) : (binOp .mul 22 (.int .u64 2) (.int .u64 a)).run Tryz.prog w = .ok (.int .u64 ((2 * a : Nat) : Int)) w := by
  have : a = 0 ∨ a = 1 := by omega
  rcases this with rfl | rfl <;> rfl
theorem u64_mul4 (a : Nat) (h : a ≤ 1) (w : World) : (binOp .mul 22 (.int .u64 4) (.int .u64 a)).run Tryz.prog w = .ok (.int .u64 ((4 * a : Nat) : Int)) w := by
  have : a = 0 ∨ a = 1 := by omega
  rcases this with rfl | rfl <;> rfl
theorem u64_addN (a b : Nat) (h : a + b < 1000) (w : World) : (binOp .add 22 (.int .u64 a) (.int .u64 b)).run Tryz.prog w = .ok (.int .u64 ((a + b : Nat) : Int)) w := by
  simp [go_sem]
  try (rw [IntKind.wrap_u64]; omega)
theorem i64_mul8 (z : Nat) (h : z ≤ 2) (w : World) : (binOp .mul 3 (.int .i64 8) (.int .i64 z)).run Tryz.prog w = .ok (.int .i64 ((8 * z : Nat) : Int)) w := by
  have : z = 0 ∨ z = 1 ∨ z = 2 := by omega
  rcases this with rfl | rfl | rfl <;> rfl
theorem conv_iu (a : Nat) (h : a < 256) (w : World) : (convert 3 22 (.int .i64 a)).run Tryz.prog w = .ok (.int .u64 a) w := by
  simp [go_sem]
  rw [IntKind.wrap_u64]; omega
theorem conv_ub (a : Nat) (h : a < 256) (w : World) : (convert 22 5 (.int .u64 a)).run Tryz.prog w = .ok (.int .u8 a) w := by
  simp [go_sem]
  rw [IntKind.wrap_u8]; omega
theorem own_low {B C e s n : Nat} {w : World} {v : Value} {xs : List Value} (h : w.ownsRow B e s v n xs) (hc : C ≤ B) : w.ownsRow C e s v n xs := by
  refine ⟨h.1, ?_⟩
  rcases h.2 with h1 | ⟨g, cap, cur, h1, h2, h3⟩
  · exact .inl h1
  · exact .inr ⟨g, cap, cur, h1, Nat.le_trans hc h2, h3⟩
theorem append_none (v : Value) {w : World} {B n : Nat} {xs : List Value} (c : Nat) (hown : w.ownsRow B 5 1 v n xs) : (Builtin.append_ #[46, 46] 46 #[v, .slice none 0 c]).run Tryz.prog w = .ok v w := by
  obtain ⟨i0, hi, hz0, hz1, hz2⟩ := info_parts Tryz.info5
  rcases hown.2 with ⟨rfl, rfl⟩ | ⟨g, cap, cur, rfl, _, _, hnc, _⟩
  · simp [Builtin.append_, run_underlying Tryz.underlying46, sizeOf, typeInfo, hi, Builtin.lenOf, Builtin.firstCells]
  · simp [Builtin.append_, run_underlying Tryz.underlying46, sizeOf, typeInfo, hi, Builtin.lenOf, Builtin.firstCells, hnc, storeCells]
theorem append_num {w : World} {B : Nat} {v : Value} {l : List Nat} {a : Option Addr} {n cap X : Nat} (hN : NewBs B w v l) (hx : NumAt w a n cap X) (hl : l.length + n ≤ 10000) (hB : B ≤ w.heap.size) :
    ∃ v' w', (Builtin.append_ #[46, 46] 46 #[v, .slice a n cap]).run Tryz.prog w = .ok v' w' ∧ NewBs B w' v' (l ++ bytesN X) ∧ w.grownBy w' v.ownBlock := by
  have hn := hx.len
  subst hn
  by_cases h0 : bytesN X = []
  · rw [h0, List.append_nil]
    cases a with
    | none => exact ⟨v, w, append_none v cap hN.own, hN, ⟨rfl, rfl, rfl, Nat.le_refl _, fun _ _ _ => rfl⟩⟩
    | some ad =>
      obtain ⟨i0, hi, hz0, hz1, hz2⟩ := info_parts Tryz.info5
      obtain ⟨v', w', h1, h2, h3, _⟩ := run_append_own (P := Tryz.prog) (w := w) B 46 46 5 i0 (.int .u8 0) 1 1 Tryz.underlying46 hi hz0 hz1 hz2 rfl (by decide) v l.length (bvals l) hN.own ad 0 cap [] rfl (fun j u hj => by simp at hj) (fun u hu => by cases hu) (by unfold maxLen; omega) (by omega) hB
      refine ⟨v', w', h1, ⟨?_, hN.len⟩, h3⟩
      simpa using h2
  · obtain ⟨g, o, rfl, hc⟩ := hx.bs.at_ h0
    obtain ⟨i0, hi, hz0, hz1, hz2⟩ := info_parts Tryz.info5
    obtain ⟨v', w', h1, h2, h3, _⟩ := run_append_own (P := Tryz.prog) (w := w) B 46 46 5 i0 (.int .u8 0) 1 1 Tryz.underlying46 hi hz0 hz1 hz2 rfl (by decide) v l.length (bvals l) hN.own ⟨g, o, none⟩ (bytesN X).length cap (bvals (bytesN X)) (by simp [bvals])
      (fun j u hj => by
        have hjl : j < (bytesN X).length := by have := (List.getElem?_eq_some_iff.1 hj).1; simpa [bvals] using this
        have e : (⟨g, o, none⟩ : Addr).add j = ⟨g, o + j, none⟩ := by unfold Addr.add; split <;> simp_all
        rw [e, hc j hjl]
        simpa [bvals, hjl] using hj)
      (by intro u hu; obtain ⟨y, _, rfl⟩ := List.mem_map.1 hu; rfl) (by unfold maxLen; omega) (by omega) hB
    refine ⟨v', w', h1, ⟨?_, by rw [List.length_append]; omega⟩, h3⟩
    rw [List.length_append]
    have : bvals (l ++ bytesN X) = bvals l ++ bvals (bytesN X) := by unfold bvals; rw [List.map_append]
    rw [this]
    exact h2
theorem rEncode_any {w : World} {b : Nat} {f : Facts} (h : RAcc w b f) (hf : f.Ok) :
    Calls Tryz.prog 28 #[.pointer (some ⟨b, 0, none⟩)] w fun e w' => ∃ v, e = .returned v ∧ NewBs w.heap.size w' v (encN f) ∧ Below w.heap.size w w' := by
  obtain ⟨m, a, n, cap, X, nan, plus, below, z, hq, hx, rf, hn⟩ := h
  have HENC := Lib.hid (rf.enc hf)
  have hz2 : z ≤ 2 := by rw [← rf.zero]; exact hf.zero
  generalize encN f = R at *
  have HQ := Lib.hid hq
  have HX := Lib.hid hx
  clear hq hx hf rf
  obtain ⟨tn, htn⟩ : ∃ t : Nat, t = if nan = true then 1 else 0 := ⟨_, rfl⟩
  obtain ⟨tp, htp⟩ : ∃ t : Nat, t = if plus = true then 1 else 0 := ⟨_, rfl⟩
  obtain ⟨tb, htb⟩ : ∃ t : Nat, t = if below = true then 1 else 0 := ⟨_, rfl⟩
  obtain ⟨tm, htm⟩ : ∃ t : Nat, t = if m = true then 1 else 0 := ⟨_, rfl⟩
  have HN := Lib.hid (fun W => rtruth_any nan W)
  have HP := Lib.hid (fun W => rtruth_any plus W)
  have HW := Lib.hid (fun W => rtruth_any below W)
  have HM := Lib.hid (fun W => rtruth_any m W)
  rw [← htn, ← htp, ← htb, ← htm] at HENC
  rw [← htn] at HN
  rw [← htp] at HP
  rw [← htb] at HW
  rw [← htm] at HM
  have ln : tn ≤ 1 := by rw [htn]; split <;> omega
  have lp : tp ≤ 1 := by rw [htp]; split <;> omega
  have lb : tb ≤ 1 := by rw [htb]; split <;> omega
  have lm : tm ≤ 1 := by rw [htm]; split <;> omega
  clear htn htp htb htm
  have E10 := Lib.hid (fun W => u64_mul2 tp lp W)
  have E11 := Lib.hid (fun W => u64_addN tn (2 * tp) (by omega) W)
  have E17 := Lib.hid (fun W => u64_mul4 tb lb W)
  have E18 := Lib.hid (fun W => u64_addN (tn + 2 * tp) (4 * tb) (by omega) W)
  have E23 := Lib.hid (fun W => i64_mul8 z hz2 W)
  have E24 := Lib.hid (fun W => conv_iu (8 * z) (by omega) W)
  have E25 := Lib.hid (fun W => u64_addN (tn + 2 * tp + 4 * tb) (8 * z) (by omega) W)
  have E26 := Lib.hid (fun W => conv_ub (tn + 2 * tp + 4 * tb + 8 * z) (by omega) W)
  have E32 := Lib.hid (fun W => conv_ub tm (by omega) W)
  have hpb : tn + 2 * tp + 4 * tb + 8 * z < 256 := by omega
  obtain ⟨v14, h14⟩ : ∃ v, v = 2 * tp := ⟨_, rfl⟩
  rw [← h14] at E10 E11 E18 E25 E26 HENC hpb
  obtain ⟨v15, h15⟩ : ∃ v, v = tn + v14 := ⟨_, rfl⟩
  rw [← h15] at E11 E18 E25 E26 HENC hpb
  obtain ⟨v21, h21⟩ : ∃ v, v = 4 * tb := ⟨_, rfl⟩
  rw [← h21] at E17 E18 E25 E26 HENC hpb
  obtain ⟨v22, h22⟩ : ∃ v, v = v15 + v21 := ⟨_, rfl⟩
  rw [← h22] at E18 E25 E26 HENC hpb
  obtain ⟨v27, h27⟩ : ∃ v, v = 8 * z := ⟨_, rfl⟩
  rw [← h27] at E23 E24 E25 E26 HENC hpb
  obtain ⟨v29, h29⟩ : ∃ v, v = v22 + v27 := ⟨_, rfl⟩
  rw [← h29] at E25 E26 HENC hpb
  have HL9 := Lib.hid hn
  have HB9 := Lib.hid hpb
  have HT9 := Lib.hid lm
  clear h14 h15 h21 h22 h27 h29 hpb hn hz2 ln lp lb lm
  go_enter Tryz.func28, Tryz.ntmps28
  go_wp2_with fail
  refine (wpIn_wide (n := 0)).1 ?_
  refine region_det (by kernel_rfl) (I := fun listed a' w' => ∃ gs : Nat, Hid (Below w.heap.size w w') ∧ Hid (listed.getD 33 false = true → NewBs w.heap.size w' (Value.slice (some ⟨gs, 0, none⟩) 2 2) [v29, tm]) ∧ Hid (listed.getD 34 false = true → listed.getD 33 false = true) ∧ a' = ⟨#[Value.pointer (some ⟨b, 0, none⟩), undef, Value.slice none 0 0, (if listed.getD 34 false = true then Value.slice (some ⟨gs, 0, none⟩) 2 2 else undef), (if listed.getD 0 false = true then Value.pointer (some ⟨b, 0, none⟩) else undef), (if listed.getD 1 false = true then Value.pointer (some ⟨b, 0, none⟩) else undef), (if listed.getD 2 false = true then Value.pointer (some ⟨b, 2, none⟩) else undef), (if listed.getD 3 false = true then Value.bool nan else undef), (if listed.getD 4 false = true then Value.int IntKind.u64 (tn : Int) else undef), (if listed.getD 5 false = true then Value.pointer (some ⟨b, 0, none⟩) else undef), (if listed.getD 6 false = true then Value.pointer (some ⟨b, 0, none⟩) else undef), (if listed.getD 7 false = true then Value.pointer (some ⟨b, 3, none⟩) else undef), (if listed.getD 8 false = true then Value.bool plus else undef), (if listed.getD 9 false = true then Value.int IntKind.u64 (tp : Int) else undef), (if listed.getD 10 false = true then Value.int IntKind.u64 (v14 : Int) else undef), (if listed.getD 11 false = true then Value.int IntKind.u64 (v15 : Int) else undef), (if listed.getD 12 false = true then Value.pointer (some ⟨b, 0, none⟩) else undef), (if listed.getD 13 false = true then Value.pointer (some ⟨b, 0, none⟩) else undef), (if listed.getD 14 false = true then Value.pointer (some ⟨b, 4, none⟩) else undef), (if listed.getD 15 false = true then Value.bool below else undef), (if listed.getD 16 false = true then Value.int IntKind.u64 (tb : Int) else undef), (if listed.getD 17 false = true then Value.int IntKind.u64 (v21 : Int) else undef), (if listed.getD 18 false = true then Value.int IntKind.u64 (v22 : Int) else undef), (if listed.getD 19 false = true then Value.pointer (some ⟨b, 0, none⟩) else undef), (if listed.getD 20 false = true then Value.pointer (some ⟨b, 0, none⟩) else undef), (if listed.getD 21 false = true then Value.pointer (some ⟨b, 5, none⟩) else undef), (if listed.getD 22 false = true then Value.int IntKind.i64 (z : Int) else undef), (if listed.getD 23 false = true then Value.int IntKind.i64 (v27 : Int) else undef), (if listed.getD 24 false = true then Value.int IntKind.u64 (v27 : Int) else undef), (if listed.getD 25 false = true then Value.int IntKind.u64 (v29 : Int) else undef), (if listed.getD 26 false = true then Value.int IntKind.u8 (v29 : Int) else undef), (if listed.getD 27 false = true then Value.pointer (some ⟨b, 0, none⟩) else undef), (if listed.getD 28 false = true then Value.pointer (some ⟨b, 0, none⟩) else undef), (if listed.getD 29 false = true then Value.pointer (some ⟨b, 0, none⟩) else undef), (if listed.getD 30 false = true then Value.bool m else undef), (if listed.getD 31 false = true then Value.int IntKind.u64 (tm : Int) else undef), (if listed.getD 32 false = true then Value.int IntKind.u8 (tm : Int) else undef), (if listed.getD 33 false = true then Value.slice (some ⟨gs, 0, none⟩) 2 2 else undef), undef, undef, undef, undef, undef, undef], []⟩) (hup_check (by kernel_rfl)) ?h0 ?step ?fin
  case h0 => exact ⟨0, (Below.refl _ _).drew, (fun h => by simp at h), (fun h => by simp at h), rfl⟩
  case step =>
    intro listed a' w' i hs hbi hdep hi ⟨gs, IB, IS, J34, ha⟩
    obtain ⟨ls⟩ := listed
    have hs0 : ls.length = 35 := by simpa using hs
    obtain ⟨x0, t0, rfl, hs1⟩ := list_cons ls hs0
    obtain ⟨x1, t1, rfl, hs2⟩ := list_cons t0 hs1
    obtain ⟨x2, t2, rfl, hs3⟩ := list_cons t1 hs2
    obtain ⟨x3, t3, rfl, hs4⟩ := list_cons t2 hs3
    obtain ⟨x4, t4, rfl, hs5⟩ := list_cons t3 hs4
    obtain ⟨x5, t5, rfl, hs6⟩ := list_cons t4 hs5
    obtain ⟨x6, t6, rfl, hs7⟩ := list_cons t5 hs6
    obtain ⟨x7, t7, rfl, hs8⟩ := list_cons t6 hs7
    obtain ⟨x8, t8, rfl, hs9⟩ := list_cons t7 hs8
    obtain ⟨x9, t9, rfl, hs10⟩ := list_cons t8 hs9
    obtain ⟨x10, t10, rfl, hs11⟩ := list_cons t9 hs10
    obtain ⟨x11, t11, rfl, hs12⟩ := list_cons t10 hs11
    obtain ⟨x12, t12, rfl, hs13⟩ := list_cons t11 hs12
    obtain ⟨x13, t13, rfl, hs14⟩ := list_cons t12 hs13
    obtain ⟨x14, t14, rfl, hs15⟩ := list_cons t13 hs14
    obtain ⟨x15, t15, rfl, hs16⟩ := list_cons t14 hs15
    obtain ⟨x16, t16, rfl, hs17⟩ := list_cons t15 hs16
    obtain ⟨x17, t17, rfl, hs18⟩ := list_cons t16 hs17
    obtain ⟨x18, t18, rfl, hs19⟩ := list_cons t17 hs18
    obtain ⟨x19, t19, rfl, hs20⟩ := list_cons t18 hs19
    obtain ⟨x20, t20, rfl, hs21⟩ := list_cons t19 hs20
    obtain ⟨x21, t21, rfl, hs22⟩ := list_cons t20 hs21
    obtain ⟨x22, t22, rfl, hs23⟩ := list_cons t21 hs22
    obtain ⟨x23, t23, rfl, hs24⟩ := list_cons t22 hs23
    obtain ⟨x24, t24, rfl, hs25⟩ := list_cons t23 hs24
    obtain ⟨x25, t25, rfl, hs26⟩ := list_cons t24 hs25
    obtain ⟨x26, t26, rfl, hs27⟩ := list_cons t25 hs26
    obtain ⟨x27, t27, rfl, hs28⟩ := list_cons t26 hs27
    obtain ⟨x28, t28, rfl, hs29⟩ := list_cons t27 hs28
    obtain ⟨x29, t29, rfl, hs30⟩ := list_cons t28 hs29
    obtain ⟨x30, t30, rfl, hs31⟩ := list_cons t29 hs30
    obtain ⟨x31, t31, rfl, hs32⟩ := list_cons t30 hs31
    obtain ⟨x32, t32, rfl, hs33⟩ := list_cons t31 hs32
    obtain ⟨x33, t33, rfl, hs34⟩ := list_cons t32 hs33
    obtain ⟨x34, t34, rfl, hs35⟩ := list_cons t33 hs34
    obtain rfl : t34 = [] := List.eq_nil_of_length_eq_zero hs35
    clear hs0 hs1 hs2 hs3 hs4 hs5 hs6 hs7 hs8 hs9 hs10 hs11 hs12 hs13 hs14 hs15 hs16 hs17 hs18 hs19 hs20 hs21 hs22 hs23 hs24 hs25 hs26 hs27 hs28 hs29 hs30 hs31 hs32 hs33 hs34 hs35
    subst ha
    have hi' : i = 0 ∨ i = 1 ∨ i = 2 ∨ i = 3 ∨ i = 4 ∨ i = 5 ∨ i = 6 ∨ i = 7 ∨ i = 8 ∨ i = 9 ∨ i = 10 ∨ i = 11 ∨ i = 12 ∨ i = 13 ∨ i = 14 ∨ i = 15 ∨ i = 16 ∨ i = 17 ∨ i = 18 ∨ i = 19 ∨ i = 20 ∨ i = 21 ∨ i = 22 ∨ i = 23 ∨ i = 24 ∨ i = 25 ∨ i = 26 ∨ i = 27 ∨ i = 28 ∨ i = 29 ∨ i = 30 ∨ i = 31 ∨ i = 32 ∨ i = 33 ∨ i = 34 := by simp at hi; omega
    rcases hi' with rfl | rfl | rfl | rfl | rfl | rfl | rfl | rfl | rfl | rfl | rfl | rfl | rfl | rfl | rfl | rfl | rfl | rfl | rfl | rfl | rfl | rfl | rfl | rfl | rfl | rfl | rfl | rfl | rfl | rfl | rfl | rfl | rfl | rfl | rfl
    · obtain rfl : x0 = false := by simpa using hbi
      refine wpOpIn_plain rfl rfl rfl ?_
      exact ⟨gs, IB, IS, J34, rfl⟩
    · obtain rfl : x1 = false := by simpa using hbi
      obtain rfl : x0 = true := hdep _ rfl ⟨0, .data⟩ (by simp) rfl
      refine wpOpIn_plain (v := Value.pointer (some ⟨b, 0, none⟩)) (w' := w') rfl rfl (by simp [Oper.semAt, execOp, go_sem]) ?_
      exact ⟨gs, IB, IS, J34, rfl⟩
    · obtain rfl : x2 = false := by simpa using hbi
      obtain rfl : x1 = true := hdep _ rfl ⟨1, .data⟩ (by simp) rfl
      refine wpOpIn_plain (v := Value.pointer (some ⟨b, 2, none⟩)) (w' := w') rfl rfl (by simp [Oper.semAt, execOp, go_sem]) ?_
      exact ⟨gs, IB, IS, J34, rfl⟩
    · obtain rfl : x3 = false := by simpa using hbi
      obtain rfl : x2 = true := hdep _ rfl ⟨2, .data⟩ (by simp) rfl
      have c0 := (HQ.out.keep IB.out).c2
      refine wpOpIn_plain (v := Value.bool nan) (w' := w') rfl rfl (by simp [Oper.semAt, execOp, go_sem, c0]) ?_
      exact ⟨gs, IB, IS, J34, rfl⟩
    · obtain rfl : x4 = false := by simpa using hbi
      obtain rfl : x3 = true := hdep _ rfl ⟨3, .data⟩ (by simp) rfl
      refine wpOpIn_call (args := #[Value.bool nan]) rfl rfl (sem_call1 rfl rfl (enters_of Tryz.func52 (by kernel_rfl) rfl)) (HN.out w') ?_
      rintro e V ⟨rfl, rfl⟩
      exact ⟨_, rfl, gs, IB, IS, J34, rfl⟩
    · obtain rfl : x5 = false := by simpa using hbi
      refine wpOpIn_plain rfl rfl rfl ?_
      exact ⟨gs, IB, IS, J34, rfl⟩
    · obtain rfl : x6 = false := by simpa using hbi
      obtain rfl : x5 = true := hdep _ rfl ⟨5, .data⟩ (by simp) rfl
      refine wpOpIn_plain (v := Value.pointer (some ⟨b, 0, none⟩)) (w' := w') rfl rfl (by simp [Oper.semAt, execOp, go_sem]) ?_
      exact ⟨gs, IB, IS, J34, rfl⟩
    · obtain rfl : x7 = false := by simpa using hbi
      obtain rfl : x6 = true := hdep _ rfl ⟨6, .data⟩ (by simp) rfl
      refine wpOpIn_plain (v := Value.pointer (some ⟨b, 3, none⟩)) (w' := w') rfl rfl (by simp [Oper.semAt, execOp, go_sem]) ?_
      exact ⟨gs, IB, IS, J34, rfl⟩
    · obtain rfl : x8 = false := by simpa using hbi
      obtain rfl : x7 = true := hdep _ rfl ⟨7, .data⟩ (by simp) rfl
      have c0 := (HQ.out.keep IB.out).c3
      refine wpOpIn_plain (v := Value.bool plus) (w' := w') rfl rfl (by simp [Oper.semAt, execOp, go_sem, c0]) ?_
      exact ⟨gs, IB, IS, J34, rfl⟩
    · obtain rfl : x9 = false := by simpa using hbi
      obtain rfl : x8 = true := hdep _ rfl ⟨8, .data⟩ (by simp) rfl
      refine wpOpIn_call (args := #[Value.bool plus]) rfl rfl (sem_call1 rfl rfl (enters_of Tryz.func52 (by kernel_rfl) rfl)) (HP.out w') ?_
      rintro e V ⟨rfl, rfl⟩
      exact ⟨_, rfl, gs, IB, IS, J34, rfl⟩
    · obtain rfl : x10 = false := by simpa using hbi
      obtain rfl : x9 = true := hdep _ rfl ⟨9, .data⟩ (by simp) rfl
      refine wpOpIn_plain (v := Value.int IntKind.u64 (v14 : Int)) (w' := w') rfl rfl (sem_bin (vx := Value.int IntKind.u64 2) (vy := Value.int IntKind.u64 (tp : Int)) rfl rfl rfl rfl (E10.out w')) ?_
      exact ⟨gs, IB, IS, J34, rfl⟩
    · obtain rfl : x11 = false := by simpa using hbi
      obtain rfl : x4 = true := hdep _ rfl ⟨4, .data⟩ (by simp) rfl
      obtain rfl : x10 = true := hdep _ rfl ⟨10, .data⟩ (by simp) rfl
      refine wpOpIn_plain (v := Value.int IntKind.u64 (v15 : Int)) (w' := w') rfl rfl (sem_bin (vx := Value.int IntKind.u64 (tn : Int)) (vy := Value.int IntKind.u64 (v14 : Int)) rfl rfl rfl rfl (E11.out w')) ?_
      exact ⟨gs, IB, IS, J34, rfl⟩
    · obtain rfl : x12 = false := by simpa using hbi
      refine wpOpIn_plain rfl rfl rfl ?_
      exact ⟨gs, IB, IS, J34, rfl⟩
    · obtain rfl : x13 = false := by simpa using hbi
      obtain rfl : x12 = true := hdep _ rfl ⟨12, .data⟩ (by simp) rfl
      refine wpOpIn_plain (v := Value.pointer (some ⟨b, 0, none⟩)) (w' := w') rfl rfl (by simp [Oper.semAt, execOp, go_sem]) ?_
      exact ⟨gs, IB, IS, J34, rfl⟩
    · obtain rfl : x14 = false := by simpa using hbi
      obtain rfl : x13 = true := hdep _ rfl ⟨13, .data⟩ (by simp) rfl
      refine wpOpIn_plain (v := Value.pointer (some ⟨b, 4, none⟩)) (w' := w') rfl rfl (by simp [Oper.semAt, execOp, go_sem]) ?_
      exact ⟨gs, IB, IS, J34, rfl⟩
    · obtain rfl : x15 = false := by simpa using hbi
      obtain rfl : x14 = true := hdep _ rfl ⟨14, .data⟩ (by simp) rfl
      have c0 := (HQ.out.keep IB.out).c4
      refine wpOpIn_plain (v := Value.bool below) (w' := w') rfl rfl (by simp [Oper.semAt, execOp, go_sem, c0]) ?_
      exact ⟨gs, IB, IS, J34, rfl⟩
    · obtain rfl : x16 = false := by simpa using hbi
      obtain rfl : x15 = true := hdep _ rfl ⟨15, .data⟩ (by simp) rfl
      refine wpOpIn_call (args := #[Value.bool below]) rfl rfl (sem_call1 rfl rfl (enters_of Tryz.func52 (by kernel_rfl) rfl)) (HW.out w') ?_
      rintro e V ⟨rfl, rfl⟩
      exact ⟨_, rfl, gs, IB, IS, J34, rfl⟩
    · obtain rfl : x17 = false := by simpa using hbi
      obtain rfl : x16 = true := hdep _ rfl ⟨16, .data⟩ (by simp) rfl
      refine wpOpIn_plain (v := Value.int IntKind.u64 (v21 : Int)) (w' := w') rfl rfl (sem_bin (vx := Value.int IntKind.u64 4) (vy := Value.int IntKind.u64 (tb : Int)) rfl rfl rfl rfl (E17.out w')) ?_
      exact ⟨gs, IB, IS, J34, rfl⟩
    · obtain rfl : x18 = false := by simpa using hbi
      obtain rfl : x11 = true := hdep _ rfl ⟨11, .data⟩ (by simp) rfl
      obtain rfl : x17 = true := hdep _ rfl ⟨17, .data⟩ (by simp) rfl
      refine wpOpIn_plain (v := Value.int IntKind.u64 (v22 : Int)) (w' := w') rfl rfl (sem_bin (vx := Value.int IntKind.u64 (v15 : Int)) (vy := Value.int IntKind.u64 (v21 : Int)) rfl rfl rfl rfl (E18.out w')) ?_
      exact ⟨gs, IB, IS, J34, rfl⟩
    · obtain rfl : x19 = false := by simpa using hbi
      refine wpOpIn_plain rfl rfl rfl ?_
      exact ⟨gs, IB, IS, J34, rfl⟩
    · obtain rfl : x20 = false := by simpa using hbi
      obtain rfl : x19 = true := hdep _ rfl ⟨19, .data⟩ (by simp) rfl
      refine wpOpIn_plain (v := Value.pointer (some ⟨b, 0, none⟩)) (w' := w') rfl rfl (by simp [Oper.semAt, execOp, go_sem]) ?_
      exact ⟨gs, IB, IS, J34, rfl⟩
    · obtain rfl : x21 = false := by simpa using hbi
      obtain rfl : x20 = true := hdep _ rfl ⟨20, .data⟩ (by simp) rfl
      refine wpOpIn_plain (v := Value.pointer (some ⟨b, 5, none⟩)) (w' := w') rfl rfl (by simp [Oper.semAt, execOp, go_sem]) ?_
      exact ⟨gs, IB, IS, J34, rfl⟩
    · obtain rfl : x22 = false := by simpa using hbi
      obtain rfl : x21 = true := hdep _ rfl ⟨21, .data⟩ (by simp) rfl
      have c0 := (HQ.out.keep IB.out).c5
      refine wpOpIn_plain (v := Value.int IntKind.i64 (z : Int)) (w' := w') rfl rfl (by simp [Oper.semAt, execOp, go_sem, c0]) ?_
      exact ⟨gs, IB, IS, J34, rfl⟩
    · obtain rfl : x23 = false := by simpa using hbi
      obtain rfl : x22 = true := hdep _ rfl ⟨22, .data⟩ (by simp) rfl
      refine wpOpIn_plain (v := Value.int IntKind.i64 (v27 : Int)) (w' := w') rfl rfl (sem_bin (vx := Value.int IntKind.i64 8) (vy := Value.int IntKind.i64 (z : Int)) rfl rfl rfl rfl (E23.out w')) ?_
      exact ⟨gs, IB, IS, J34, rfl⟩
    · obtain rfl : x24 = false := by simpa using hbi
      obtain rfl : x23 = true := hdep _ rfl ⟨23, .data⟩ (by simp) rfl
      refine wpOpIn_plain (v := Value.int IntKind.u64 (v27 : Int)) (w' := w') rfl rfl (sem_conv rfl rfl (E24.out w')) ?_
      exact ⟨gs, IB, IS, J34, rfl⟩
    · obtain rfl : x25 = false := by simpa using hbi
      obtain rfl : x18 = true := hdep _ rfl ⟨18, .data⟩ (by simp) rfl
      obtain rfl : x24 = true := hdep _ rfl ⟨24, .data⟩ (by simp) rfl
      refine wpOpIn_plain (v := Value.int IntKind.u64 (v29 : Int)) (w' := w') rfl rfl (sem_bin (vx := Value.int IntKind.u64 (v22 : Int)) (vy := Value.int IntKind.u64 (v27 : Int)) rfl rfl rfl rfl (E25.out w')) ?_
      exact ⟨gs, IB, IS, J34, rfl⟩
    · obtain rfl : x26 = false := by simpa using hbi
      obtain rfl : x25 = true := hdep _ rfl ⟨25, .data⟩ (by simp) rfl
      refine wpOpIn_plain (v := Value.int IntKind.u8 (v29 : Int)) (w' := w') rfl rfl (sem_conv rfl rfl (E26.out w')) ?_
      exact ⟨gs, IB, IS, J34, rfl⟩
    · obtain rfl : x27 = false := by simpa using hbi
      refine wpOpIn_plain rfl rfl rfl ?_
      exact ⟨gs, IB, IS, J34, rfl⟩
    · obtain rfl : x28 = false := by simpa using hbi
      obtain rfl : x27 = true := hdep _ rfl ⟨27, .data⟩ (by simp) rfl
      refine wpOpIn_plain (v := Value.pointer (some ⟨b, 0, none⟩)) (w' := w') rfl rfl (by simp [Oper.semAt, execOp, go_sem]) ?_
      exact ⟨gs, IB, IS, J34, rfl⟩
    · obtain rfl : x29 = false := by simpa using hbi
      obtain rfl : x28 = true := hdep _ rfl ⟨28, .data⟩ (by simp) rfl
      refine wpOpIn_plain (v := Value.pointer (some ⟨b, 0, none⟩)) (w' := w') rfl rfl (by simp [Oper.semAt, execOp, go_sem]) ?_
      exact ⟨gs, IB, IS, J34, rfl⟩
    · obtain rfl : x30 = false := by simpa using hbi
      obtain rfl : x29 = true := hdep _ rfl ⟨29, .data⟩ (by simp) rfl
      have c0 := (HQ.out.keep IB.out).c0
      refine wpOpIn_plain (v := Value.bool m) (w' := w') rfl rfl (by simp [Oper.semAt, execOp, go_sem, c0]) ?_
      exact ⟨gs, IB, IS, J34, rfl⟩
    · obtain rfl : x31 = false := by simpa using hbi
      obtain rfl : x30 = true := hdep _ rfl ⟨30, .data⟩ (by simp) rfl
      refine wpOpIn_call (args := #[Value.bool m]) rfl rfl (sem_call1 rfl rfl (enters_of Tryz.func52 (by kernel_rfl) rfl)) (HM.out w') ?_
      rintro e V ⟨rfl, rfl⟩
      exact ⟨_, rfl, gs, IB, IS, J34, rfl⟩
    · obtain rfl : x32 = false := by simpa using hbi
      obtain rfl : x31 = true := hdep _ rfl ⟨31, .data⟩ (by simp) rfl
      refine wpOpIn_plain (v := Value.int IntKind.u8 (tm : Int)) (w' := w') rfl rfl (sem_conv rfl rfl (E32.out w')) ?_
      exact ⟨gs, IB, IS, J34, rfl⟩
    · obtain rfl : x33 = false := by simpa using hbi
      obtain rfl : x26 = true := hdep _ rfl ⟨26, .data⟩ (by simp) rfl
      obtain rfl : x32 = true := hdep _ rfl ⟨32, .data⟩ (by simp) rfl
      obtain rfl : x34 = false := Bool.eq_false_iff.2 fun h => by have := J34.out h; cases this
      refine wpOpIn_plain (v := Value.slice (some ⟨w'.heap.size, 0, none⟩) 2 2) (w' := w'.alloc (.cells #[.int .u8 (v29 : Int), .int .u8 (tm : Int)] 5)) rfl rfl (by simp [Oper.semAt, execOp, go_sem]) ?_
      have hb9 : Below w'.heap.size w' (w'.alloc (.cells #[.int .u8 (v29 : Int), .int .u8 (tm : Int)] 5)) := (Below.refl _ _).alloc (Nat.le_refl _) _
      have hnb : NewBs w.heap.size (w'.alloc (.cells #[.int .u8 (v29 : Int), .int .u8 (tm : Int)] 5)) (Value.slice (some ⟨w'.heap.size, 0, none⟩) 2 2) [v29, tm] := ⟨own_low (World.ownsRow_lit (base := w'.heap.size) w' #[.int .u8 (v29 : Int), .int .u8 (tm : Int)] 2 (Nat.le_refl _) (by unfold maxLen; omega) rfl) IB.out.size, by simp⟩
      exact ⟨w'.heap.size, (IB.out.trans (hb9.mono IB.out.size)), (fun _ => hnb), (fun _ => rfl), rfl⟩
    · obtain rfl : x34 = false := by simpa using hbi
      obtain rfl : x33 = true := hdep _ rfl ⟨33, .data⟩ (by simp) rfl
      refine wpOpIn_plain rfl rfl rfl ?_
      exact ⟨gs, IB, IS, (fun _ => rfl), rfl⟩
  case fin =>
  intro listed a' Z hs hall ⟨gs, IB, IS, J34, ha⟩
  obtain ⟨ls⟩ := listed
  have hs0 : ls.length = 35 := by simpa using hs
  obtain ⟨x0, t0, rfl, hs1⟩ := list_cons ls hs0
  obtain ⟨x1, t1, rfl, hs2⟩ := list_cons t0 hs1
  obtain ⟨x2, t2, rfl, hs3⟩ := list_cons t1 hs2
  obtain ⟨x3, t3, rfl, hs4⟩ := list_cons t2 hs3
  obtain ⟨x4, t4, rfl, hs5⟩ := list_cons t3 hs4
  obtain ⟨x5, t5, rfl, hs6⟩ := list_cons t4 hs5
  obtain ⟨x6, t6, rfl, hs7⟩ := list_cons t5 hs6
  obtain ⟨x7, t7, rfl, hs8⟩ := list_cons t6 hs7
  obtain ⟨x8, t8, rfl, hs9⟩ := list_cons t7 hs8
  obtain ⟨x9, t9, rfl, hs10⟩ := list_cons t8 hs9
  obtain ⟨x10, t10, rfl, hs11⟩ := list_cons t9 hs10
  obtain ⟨x11, t11, rfl, hs12⟩ := list_cons t10 hs11
  obtain ⟨x12, t12, rfl, hs13⟩ := list_cons t11 hs12
  obtain ⟨x13, t13, rfl, hs14⟩ := list_cons t12 hs13
  obtain ⟨x14, t14, rfl, hs15⟩ := list_cons t13 hs14
  obtain ⟨x15, t15, rfl, hs16⟩ := list_cons t14 hs15
  obtain ⟨x16, t16, rfl, hs17⟩ := list_cons t15 hs16
  obtain ⟨x17, t17, rfl, hs18⟩ := list_cons t16 hs17
  obtain ⟨x18, t18, rfl, hs19⟩ := list_cons t17 hs18
  obtain ⟨x19, t19, rfl, hs20⟩ := list_cons t18 hs19
  obtain ⟨x20, t20, rfl, hs21⟩ := list_cons t19 hs20
  obtain ⟨x21, t21, rfl, hs22⟩ := list_cons t20 hs21
  obtain ⟨x22, t22, rfl, hs23⟩ := list_cons t21 hs22
  obtain ⟨x23, t23, rfl, hs24⟩ := list_cons t22 hs23
  obtain ⟨x24, t24, rfl, hs25⟩ := list_cons t23 hs24
  obtain ⟨x25, t25, rfl, hs26⟩ := list_cons t24 hs25
  obtain ⟨x26, t26, rfl, hs27⟩ := list_cons t25 hs26
  obtain ⟨x27, t27, rfl, hs28⟩ := list_cons t26 hs27
  obtain ⟨x28, t28, rfl, hs29⟩ := list_cons t27 hs28
  obtain ⟨x29, t29, rfl, hs30⟩ := list_cons t28 hs29
  obtain ⟨x30, t30, rfl, hs31⟩ := list_cons t29 hs30
  obtain ⟨x31, t31, rfl, hs32⟩ := list_cons t30 hs31
  obtain ⟨x32, t32, rfl, hs33⟩ := list_cons t31 hs32
  obtain ⟨x33, t33, rfl, hs34⟩ := list_cons t32 hs33
  obtain ⟨x34, t34, rfl, hs35⟩ := list_cons t33 hs34
  obtain rfl : t34 = [] := List.eq_nil_of_length_eq_zero hs35
  clear hs0 hs1 hs2 hs3 hs4 hs5 hs6 hs7 hs8 hs9 hs10 hs11 hs12 hs13 hs14 hs15 hs16 hs17 hs18 hs19 hs20 hs21 hs22 hs23 hs24 hs25 hs26 hs27 hs28 hs29 hs30 hs31 hs32 hs33 hs34 hs35
  obtain rfl : x0 = true := hall 0 (by simp)
  obtain rfl : x1 = true := hall 1 (by simp)
  obtain rfl : x2 = true := hall 2 (by simp)
  obtain rfl : x3 = true := hall 3 (by simp)
  obtain rfl : x4 = true := hall 4 (by simp)
  obtain rfl : x5 = true := hall 5 (by simp)
  obtain rfl : x6 = true := hall 6 (by simp)
  obtain rfl : x7 = true := hall 7 (by simp)
  obtain rfl : x8 = true := hall 8 (by simp)
  obtain rfl : x9 = true := hall 9 (by simp)
  obtain rfl : x10 = true := hall 10 (by simp)
  obtain rfl : x11 = true := hall 11 (by simp)
  obtain rfl : x12 = true := hall 12 (by simp)
  obtain rfl : x13 = true := hall 13 (by simp)
  obtain rfl : x14 = true := hall 14 (by simp)
  obtain rfl : x15 = true := hall 15 (by simp)
  obtain rfl : x16 = true := hall 16 (by simp)
  obtain rfl : x17 = true := hall 17 (by simp)
  obtain rfl : x18 = true := hall 18 (by simp)
  obtain rfl : x19 = true := hall 19 (by simp)
  obtain rfl : x20 = true := hall 20 (by simp)
  obtain rfl : x21 = true := hall 21 (by simp)
  obtain rfl : x22 = true := hall 22 (by simp)
  obtain rfl : x23 = true := hall 23 (by simp)
  obtain rfl : x24 = true := hall 24 (by simp)
  obtain rfl : x25 = true := hall 25 (by simp)
  obtain rfl : x26 = true := hall 26 (by simp)
  obtain rfl : x27 = true := hall 27 (by simp)
  obtain rfl : x28 = true := hall 28 (by simp)
  obtain rfl : x29 = true := hall 29 (by simp)
  obtain rfl : x30 = true := hall 30 (by simp)
  obtain rfl : x31 = true := hall 31 (by simp)
  obtain rfl : x32 = true := hall 32 (by simp)
  obtain rfl : x33 = true := hall 33 (by simp)
  obtain rfl : x34 = true := hall 34 (by simp)
  subst ha
  have HZ : Hid (Below w.heap.size w Z) := IB
  have HS := Lib.hid (IS.out rfl)
  obtain ⟨v', w4, hr, hn4, hg⟩ := append_num HS.out (HX.out.keep HZ.out) (by have := HL9.out; show 2 + n ≤ _; omega) HZ.out.size
  have HR := Lib.hid hr
  have hlow := fun k h => (HS.out.own.lt k h).1
  have HB4 := Lib.hid (HZ.out.trans (grownB hg hlow HZ.out.size))
  have HN4 : Hid (NewBs w.heap.size w4 v' R) := by show NewBs _ _ _ _; rw [HENC.out]; exact hn4
  have c1 := (HQ.out.keep HZ.out).c1
  clear IB IS J34 hall hs HN HP HW HM E10 E11 E17 E18 E23 E24 E25 E26 E32 hr hn4 hg hlow HS HQ HX HENC
  dsimp only [Exit.then, Exit.inBlock]
  go_wp2_with (at_builtin; refine Lib.wpList_append_run _ rfl (.tmp 38) (.tmp 42) 46 46 rfl _ _ rfl rfl _ _ HR.out ?_)
  go_ret
  exact ⟨_, rfl, HN4.out, HB4.out⟩
end Go.Proofs.YtjcdnaandbockaaGreat

namespace Go.Proofs.YtjcdnaandbockaaGreat
open Go.RowKit Go.Shelf
set_option maxRecDepth 100000

theorem iv_inj {V W : Nat} (hV : V < big) (hW : W < big) (h : iv V = iv W) : V = W := by
  unfold iv at h
  split at h <;> split at h <;> omega
theorem ordN_zero (X Y : Nat) : ordN X Y = 0 ↔ X = Y := by
  unfold ordN
  rcases Nat.lt_trichotomy X Y with h | h | h
  · rw [if_pos h]; omega
  · subst h; rw [if_neg (Nat.lt_irrefl _), if_neg (Nat.lt_irrefl _)]; simp
  · rw [if_neg (by omega), if_pos h]; omega
theorem rep_same {f g : Facts} {m m2 : Bool} {X Y : Nat} {nan nan2 plus plus2 below below2 : Bool} {z z2 : Nat} (hf : f.Ok) (hg : g.Ok) (rf : RepF f m X nan plus below z) (rg : RepF g m2 Y nan2 plus2 below2 z2) :
    repEq m m2 X Y nan nan2 plus plus2 below below2 z z2 = decide (f.V = g.V ∧ f.saw = g.saw ∧ f.zero = g.zero) := by
  have h1 : ((m == m2) && (ordN X Y == 0)) = decide (f.V = g.V) := by
    rw [Bool.eq_iff_iff, decide_eq_true_iff, Bool.and_eq_true, beq_iff_eq, beq_iff_eq, ordN_zero]
    have hv := rf.val
    have hw := rg.val
    have n1 := rf.neg
    have n2 := rg.neg
    constructor
    · rintro ⟨rfl, rfl⟩
      exact iv_inj hf.V hg.V (by rw [hv, hw])
    · intro e
      rw [e, hw] at hv
      cases m <;> cases m2 <;> simp at hv n1 n2 ⊢ <;> omega
  have h2 : ((nan == nan2) && (plus == plus2) && (below == below2)) = decide (f.saw = g.saw) := by
    rw [rf.saw, rg.saw]
    cases nan <;> cases nan2 <;> cases plus <;> cases plus2 <;> cases below <;> cases below2 <;> rfl
  have h3 : ((z : Int) == (z2 : Int)) = decide (f.zero = g.zero) := by
    rw [rf.zero, rg.zero, Bool.eq_iff_iff, decide_eq_true_iff, beq_iff_eq]
    omega
  have h4 : repEq m m2 X Y nan nan2 plus plus2 below below2 z z2 = (((m == m2) && (ordN X Y == 0)) && (((nan == nan2) && (plus == plus2) && (below == below2)) && ((z : Int) == (z2 : Int)))) := by
    unfold repEq
    simp only [Bool.and_assoc]
  rw [h4, h1, h2, h3, Bool.decide_and, Bool.decide_and]
/-- Same of the reference -/
theorem rSame_any {w : World} {b c : Nat} {f g : Facts} (h : RAcc w b f) (h2 : RAcc w c g) (hf : f.Ok) (hg : g.Ok) :
    Calls Tryz.prog 33 #[.pointer (some ⟨b, 0, none⟩), .pointer (some ⟨c, 0, none⟩)] w fun e w' => e = .returned (.bool (decide (f.V = g.V ∧ f.saw = g.saw ∧ f.zero = g.zero))) ∧ Below w.heap.size w w' := by
  obtain ⟨m, a, n, cap, X, nan, plus, below, z, hq, hx, rf, hn⟩ := h
  obtain ⟨m2, a2, n2, cap2, Y, nan2, plus2, below2, z2, hq2, hx2, rg, hn2⟩ := h2
  have := rSame_rep hq hq2 hx hx2 hn hn2
  rwa [rep_same hf hg rf rg] at this
/-- what is known of a sum -/
structure Fit (f : Facts) : Prop where
  ok : f.Ok
  poss : Poss f
  lim : absN f.V < top
theorem fit_zero : Fit zeroF := ⟨ok_zero, poss_zero, lim_fit ok_zero (lim_zero 1) (by decide)⟩
theorem fit_facts {x : Nat} (hx : x < 18446744073709551616) : Fit (factsN x) := ⟨factsN_ok hx, poss_facts x, lim_fit (factsN_ok hx) (lim_one hx) (by decide)⟩
theorem fit_res {f g : Facts} (hf : Fit f) (hg : Fit g) : Fit (resF f g) := by
  unfold resF
  split
  · rename_i h
    exact ⟨joinF_ok hf.ok hg.ok, poss_join hf.poss hg.poss hf.ok hg.ok, (fit_iff (Nat.mod_lt _ big_pos)).1 h⟩
  · exact hf
theorem rm_res (f g : Facts) : rmE f g = resE f g ∧ rmF f g = resF f g := ⟨rfl, rfl⟩
/-- a function turned at one place -/
def setN {α : Type} (F : Nat → α) (x : Nat) (v : α) : Nat → α := fun j => if j = x then v else F j
theorem setN_same {α : Type} (F : Nat → α) (x : Nat) (v : α) : setN F x v x = v := if_pos rfl
theorem setN_other {α : Type} (F : Nat → α) {x j : Nat} (v : α) (h : j ≠ x) : setN F x v j = F j := if_neg h
theorem rowIs_keep {w w' : World} {b n : Nat} {t : TypeId} {f : Nat → Value} (h : w.rowIs b t n f) (hb : Below w.heap.size w w') : w'.rowIs b t n f := h.of_block (hb.block _ h.lt)
theorem rowIs_sole {w w' : World} {b c n : Nat} {t : TypeId} {f : Nat → Value} (h : w.rowIs b t n f) (hs : Sole c w w') (hne : b ≠ c) : w'.rowIs b t n f := h.of_block (hs.block _ h.lt hne)
theorem ty_ne {w : World} {b c : Nat} {cs ds : Array Value} {t u : TypeId} {fr gr : Nat × Nat} (h : w.heap[b]? = some (.cells cs t fr)) (h2 : w.heap[c]? = some (.cells ds u gr)) (hne : t ≠ u) : b ≠ c := by
  intro e
  subst e
  rw [h] at h2
  simp at h2
  exact hne h2.2.1
theorem rowIs_ty {w : World} {b n : Nat} {t : TypeId} {f : Nat → Value} (h : w.rowIs b t n f) : ∃ cs, w.heap[b]? = some (.cells cs t (0, 0)) := by
  obtain ⟨c, hc, _⟩ := h
  exact ⟨c, hc⟩
theorem RAcc.ty {w : World} {b : Nat} {f : Facts} (h : RAcc w b f) : ∃ cs, w.heap[b]? = some (.cells cs 48 (0, 0)) := by
  obtain ⟨m, a, n, cap, X, nan, plus, below, z, hq, _⟩ := h
  exact ⟨_, hq⟩
theorem RAcc.lt {w : World} {b : Nat} {f : Facts} (h : RAcc w b f) : b < w.heap.size := by
  obtain ⟨cs, hq⟩ := h.ty
  exact (Array.getElem?_eq_some_iff.1 hq).1
/-- a sum of the reference stays where another block is written that holds no bytes -/
theorem RAcc.other {w w' : World} {b c : Nat} {f : Facts} {cs : Array Value} {t : TypeId} {fr : Nat × Nat} (h : RAcc w b f) (hs : Sole c w w') (hc : w.heap[c]? = some (.cells cs t fr)) (h5 : t ≠ 5) (hne : b ≠ c) : RAcc w' b f := by
  obtain ⟨m, a, n, cap, X, nan, plus, below, z, hq, hx, rf, hn⟩ := h
  have key : ∀ g, IsB w g → w'.heap[g]? = w.heap[g]? := by
    intro g ⟨cs2, fr2, hg⟩
    exact hs.block g (Array.getElem?_eq_some_iff.1 hg).1 (ty_ne hg hc (Ne.symm h5))
  refine ⟨m, a, n, cap, X, nan, plus, below, z, (hs.block b hq.lt hne).trans hq, ⟨hx.len, hx.cap, ⟨hx.bs.len, hx.bs.small, fun hl => ?_⟩, fun h0 => ?_⟩, rf, hn⟩
  · have h0 : n ≠ 0 := by rw [hx.len]; exact fun e => hl (List.length_eq_zero_iff.1 e)
    obtain ⟨g, o, e, hb⟩ := hx.ty h0
    obtain ⟨g2, o2, e2, hcs⟩ := hx.bs.at_ hl
    obtain ⟨rfl, rfl⟩ : g2 = g ∧ o2 = o := by rw [e] at e2; injection e2 with e3; injection e3 with e4 e5; exact ⟨e4.symm, e5.symm⟩
    exact ⟨g2, o2, e2, fun j hj => by rw [← hcs j hj]; unfold World.cell?; rw [key _ hb]⟩
  · obtain ⟨g, o, e, hb⟩ := hx.ty h0
    have hk := key g hb
    obtain ⟨cs2, fr2, hg⟩ := hb
    exact ⟨g, o, e, cs2, fr2, hk.trans hg⟩
theorem AAt.ty {w : World} {b : Nat} {f : Facts} (h : AAt w b f) : ∃ cs, w.heap[b]? = some (.cells cs 89 (0, 0)) := ⟨_, h⟩
/-- an array of pointers to sums, of which the first k are made (AAt) -/
structure SA (w : World) (A : Nat) (pa : Nat → Nat) (F : Nat → Facts) (k : Nat) : Prop where
  row : ∃ f, w.rowIs A 42 4 f ∧ ∀ j, j < k → f j = .pointer (some ⟨pa j, 0, none⟩)
  el : ∀ j, j < k → AAt w (pa j) (F j)
  inj : ∀ i j, i < k → j < k → pa i = pa j → i = j
  le : k ≤ 4
section
variable {w w' : World} {A : Nat} {pa : Nat → Nat} {F : Nat → Facts} {k : Nat}
theorem SA.keep (h : SA w A pa F k) (hb : Below w.heap.size w w') : SA w' A pa F k := by
  obtain ⟨f, h1, h2⟩ := h.row
  exact ⟨⟨f, rowIs_keep h1 hb, h2⟩, fun j hj => (h.el j hj).keep hb, h.inj, h.le⟩
theorem SA.cell (h : SA w A pa F k) (j : Nat) (hj : j < k) : w.cell? ⟨A, j, none⟩ = some (.pointer (some ⟨pa j, 0, none⟩)) := by
  obtain ⟨f, h1, h2⟩ := h.row
  have := h.le
  rw [h1.cell (by omega), h2 j hj]
theorem SA.open_ (h : SA w A pa F k) (j : Nat) : w.frozen? ⟨A, j, none⟩ = false := by
  obtain ⟨f, h1, _⟩ := h.row
  exact h1.frozen j
theorem SA.lt (h : SA w A pa F k) : A < w.heap.size := by
  obtain ⟨f, h1, _⟩ := h.row
  exact h1.lt
theorem SA.cell4 (h : SA w A pa F k) (j : Nat) (hj : j < 4) : ∃ v, w.cell? ⟨A, j, none⟩ = some v := by
  obtain ⟨f, h1, _⟩ := h.row
  exact ⟨_, h1.cell hj⟩
/-- another block is written -/
theorem SA.sole (h : SA w A pa F k) {c : Nat} {cs : Array Value} {t : TypeId} {fr : Nat × Nat} (hs : Sole c w w') (hc : w.heap[c]? = some (.cells cs t fr)) (h1 : t ≠ 42) (h2 : t ≠ 89) : SA w' A pa F k := by
  obtain ⟨f, h3, h4⟩ := h.row
  obtain ⟨ds, hA⟩ := rowIs_ty h3
  refine ⟨⟨f, rowIs_sole h3 hs (ty_ne hA hc (Ne.symm h1)), h4⟩, fun j hj => ?_, h.inj, h.le⟩
  obtain ⟨es, hE⟩ := (h.el j hj).ty
  exact hs.keepA (h.el j hj) (ty_ne hE hc (Ne.symm h2))
/-- a sum is changed -/
theorem SA.up (h : SA w A pa F k) {x : Nat} {f : Facts} (hx : x < k) (hs : Sole (pa x) w w') (ha : AAt w' (pa x) f) : SA w' A pa (setN F x f) k := by
  obtain ⟨r, h3, h4⟩ := h.row
  obtain ⟨ds, hA⟩ := rowIs_ty h3
  obtain ⟨es, hE⟩ := (h.el x hx).ty
  refine ⟨⟨r, rowIs_sole h3 hs (ty_ne hA hE (by decide)), h4⟩, fun j hj => ?_, h.inj, h.le⟩
  by_cases e : j = x
  · subst e; rw [setN_same]; exact ha
  · rw [setN_other _ _ e]
    exact hs.keepA (h.el j hj) (fun e2 => e (h.inj j x hj hx e2))
/-- a pointer to another sum is stored -/
theorem SA.put (h : SA w A pa F k) {x p m : Nat} {f : Facts} (hm : ∀ j, j < m → j ≠ x → j < k) (hm4 : m ≤ 4) (ha : AAt w p f) (hne : ∀ j, j < k → p ≠ pa j) :
    SA (w.setCell ⟨A, x, none⟩ (.pointer (some ⟨p, 0, none⟩))) A (setN pa x p) (setN F x f) m := by
  obtain ⟨r, h3, h4⟩ := h.row
  obtain ⟨ds, hA⟩ := rowIs_ty h3
  obtain ⟨gs, hP⟩ := ha.ty
  have hs : Sole A w (w.setCell ⟨A, x, none⟩ (.pointer (some ⟨p, 0, none⟩))) := Sole.set _
  refine ⟨⟨_, h3.set x _, fun j hj => ?_⟩, fun j hj => ?_, fun i j hi hj => ?_, hm4⟩
  · by_cases e : j = x
    · subst e; rw [setN_same]; exact if_pos rfl
    · rw [setN_other _ _ e, ← h4 j (hm j hj e)]; exact if_neg e
  · by_cases e : j = x
    · subst e; rw [setN_same, setN_same]
      exact hs.keepA ha (ty_ne hP hA (by decide))
    · rw [setN_other _ _ e, setN_other _ _ e]
      have hj := hm j hj e
      obtain ⟨es, hE⟩ := (h.el j hj).ty
      exact hs.keepA (h.el j hj) (ty_ne hE hA (by decide))
  · by_cases e : i = x
    · by_cases e2 : j = x
      · intro _; omega
      · subst e; rw [setN_same, setN_other _ _ e2]; intro e3; exact absurd e3 (hne j (hm j hj e2))
    · by_cases e2 : j = x
      · subst e2; rw [setN_same, setN_other _ _ e]; intro e3; exact absurd e3.symm (hne i (hm i hi e))
      · rw [setN_other _ _ e, setN_other _ _ e2]; exact h.inj i j (hm i hi e) (hm j hj e2)
end
/-- an array of pointers to sums, of which the first k are made (RAcc) -/
structure SB (w : World) (A : Nat) (pa : Nat → Nat) (F : Nat → Facts) (k : Nat) : Prop where
  row : ∃ f, w.rowIs A 44 4 f ∧ ∀ j, j < k → f j = .pointer (some ⟨pa j, 0, none⟩)
  el : ∀ j, j < k → RAcc w (pa j) (F j)
  inj : ∀ i j, i < k → j < k → pa i = pa j → i = j
  le : k ≤ 4
section
variable {w w' : World} {A : Nat} {pa : Nat → Nat} {F : Nat → Facts} {k : Nat}
theorem SB.keep (h : SB w A pa F k) (hb : Below w.heap.size w w') : SB w' A pa F k := by
  obtain ⟨f, h1, h2⟩ := h.row
  exact ⟨⟨f, rowIs_keep h1 hb, h2⟩, fun j hj => (h.el j hj).keep hb, h.inj, h.le⟩
theorem SB.cell (h : SB w A pa F k) (j : Nat) (hj : j < k) : w.cell? ⟨A, j, none⟩ = some (.pointer (some ⟨pa j, 0, none⟩)) := by
  obtain ⟨f, h1, h2⟩ := h.row
  have := h.le
  rw [h1.cell (by omega), h2 j hj]
theorem SB.open_ (h : SB w A pa F k) (j : Nat) : w.frozen? ⟨A, j, none⟩ = false := by
  obtain ⟨f, h1, _⟩ := h.row
  exact h1.frozen j
theorem SB.lt (h : SB w A pa F k) : A < w.heap.size := by
  obtain ⟨f, h1, _⟩ := h.row
  exact h1.lt
theorem SB.cell4 (h : SB w A pa F k) (j : Nat) (hj : j < 4) : ∃ v, w.cell? ⟨A, j, none⟩ = some v := by
  obtain ⟨f, h1, _⟩ := h.row
  exact ⟨_, h1.cell hj⟩
/-- another block is written -/
theorem SB.sole (h : SB w A pa F k) {c : Nat} {cs : Array Value} {t : TypeId} {fr : Nat × Nat} (hs : Sole c w w') (hc : w.heap[c]? = some (.cells cs t fr)) (h1 : t ≠ 44) (h2 : t ≠ 48) (h5 : t ≠ 5) : SB w' A pa F k := by
  obtain ⟨f, h3, h4⟩ := h.row
  obtain ⟨ds, hA⟩ := rowIs_ty h3
  refine ⟨⟨f, rowIs_sole h3 hs (ty_ne hA hc (Ne.symm h1)), h4⟩, fun j hj => ?_, h.inj, h.le⟩
  obtain ⟨es, hE⟩ := (h.el j hj).ty
  exact (h.el j hj).other hs hc h5 (ty_ne hE hc (Ne.symm h2))
/-- a sum is changed -/
theorem SB.up (h : SB w A pa F k) {x : Nat} {f : Facts} (hx : x < k) (hs : Sole (pa x) w w') (ha : RAcc w' (pa x) f) : SB w' A pa (setN F x f) k := by
  obtain ⟨r, h3, h4⟩ := h.row
  obtain ⟨ds, hA⟩ := rowIs_ty h3
  obtain ⟨es, hE⟩ := (h.el x hx).ty
  refine ⟨⟨r, rowIs_sole h3 hs (ty_ne hA hE (by decide)), h4⟩, fun j hj => ?_, h.inj, h.le⟩
  by_cases e : j = x
  · subst e; rw [setN_same]; exact ha
  · rw [setN_other _ _ e]
    exact (h.el j hj).other hs hE (by decide) (fun e2 => e (h.inj j x hj hx e2))
/-- a pointer to another sum is stored -/
theorem SB.put (h : SB w A pa F k) {x p m : Nat} {f : Facts} (hm : ∀ j, j < m → j ≠ x → j < k) (hm4 : m ≤ 4) (ha : RAcc w p f) (hne : ∀ j, j < k → p ≠ pa j) :
    SB (w.setCell ⟨A, x, none⟩ (.pointer (some ⟨p, 0, none⟩))) A (setN pa x p) (setN F x f) m := by
  obtain ⟨r, h3, h4⟩ := h.row
  obtain ⟨ds, hA⟩ := rowIs_ty h3
  obtain ⟨gs, hP⟩ := ha.ty
  have hs : Sole A w (w.setCell ⟨A, x, none⟩ (.pointer (some ⟨p, 0, none⟩))) := Sole.set _
  refine ⟨⟨_, h3.set x _, fun j hj => ?_⟩, fun j hj => ?_, fun i j hi hj => ?_, hm4⟩
  · by_cases e : j = x
    · subst e; rw [setN_same]; exact if_pos rfl
    · rw [setN_other _ _ e, ← h4 j (hm j hj e)]; exact if_neg e
  · by_cases e : j = x
    · subst e; rw [setN_same, setN_same]
      exact ha.other hs hA (by decide) (ty_ne hP hA (by decide))
    · rw [setN_other _ _ e, setN_other _ _ e]
      have hj := hm j hj e
      obtain ⟨es, hE⟩ := (h.el j hj).ty
      exact (h.el j hj).other hs hA (by decide) (ty_ne hE hA (by decide))
  · by_cases e : i = x
    · by_cases e2 : j = x
      · intro _; omega
      · subst e; rw [setN_same, setN_other _ _ e2]; intro e3; exact absurd e3 (hne j (hm j hj e2))
    · by_cases e2 : j = x
      · subst e2; rw [setN_same, setN_other _ _ e]; intro e3; exact absurd e3.symm (hne i (hm i hi e))
      · rw [setN_other _ _ e, setN_other _ _ e2]; exact h.inj i j (hm i hi e) (hm j hj e2)
end
end Go.Proofs.YtjcdnaandbockaaGreat
