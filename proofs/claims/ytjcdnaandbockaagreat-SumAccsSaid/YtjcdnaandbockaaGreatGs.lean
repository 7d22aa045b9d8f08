import Derived.Test.YtjcdnaandbockaaGreatGr
import Derived.Test.YtjcdnaandbockaaGreatGm
import Derived.Test.YtjcdnaandbockaaGreatGn
import Derived.Test.YtjcdnaandbockaaGreatGh
import Derived.Test.YtjcdnaandbockaaGreatGq
import Derived.Test.YtjcdnaandbockaaGreatGi
import Derived.BigQuiet
namespace Go.Proofs.YtjcdnaandbockaaGreat
open Go.RowKit Go.Shelf
attribute [local go_sem] Oper.semAt_some
set_option maxRecDepth 100000
set_option maxHeartbeats 1000000

/-- a sum of the reference in memory, against what is known of it -/
def RAcc (w : World) (b : Nat) (f : Facts) : Prop := ∃ m a n cap X nan plus below z, QAt w b m a n cap nan plus below z ∧ NumAt w a n cap X ∧ RepF f m X nan plus below z ∧ n ≤ 280
theorem len_280 (X : Nat) : (bytesN X).length ≤ 280 ↔ X < top := by
  have h := @blen_le X 2240
  rw [← top_eq] at h
  rw [bytesN_len, ← h]
  omega
theorem signed (m o : Bool) (X Y : Nat) : (if (addS m X o Y && decide (0 < (bytesN (addR m X o Y)).length)) = true then -((addR m X o Y : Nat) : Int) else ((addR m X o Y : Nat) : Int)) = (if m = true then -(X : Int) else X) + (if o = true then -(Y : Int) else Y) := by
  have hd : decide (0 < (bytesN (addR m X o Y)).length) = decide (addR m X o Y ≠ 0) := by
    rw [decide_eq_decide]
    have := len_zero (addR m X o Y)
    omega
  rw [hd]
  by_cases h0 : addR m X o Y = 0
  · rw [h0]
    have : decide ((0 : Nat) ≠ 0) = false := rfl
    rw [this, Bool.and_false, if_neg Bool.false_ne_true]
    unfold addR at h0
    cases m <;> cases o <;> simp at h0 ⊢ <;> (try split at h0) <;> omega
  · rw [decide_eq_true h0, Bool.and_true]
    unfold addS addR
    unfold addR at h0
    cases m <;> cases o <;> simp at h0 ⊢ <;> (repeat' split) <;> simp_all <;> omega
theorem saw_or (a b c d e f : Bool) : (((if a = true then 1 else 0) + (if b = true then 2 else 0) + (if c = true then 4 else 0)) ||| ((if d = true then 1 else 0) + (if e = true then 2 else 0) + (if f = true then 4 else 0)) : Nat) = (if (a || d) = true then 1 else 0) + (if (b || e) = true then 2 else 0) + (if (c || f) = true then 4 else 0) := by
  revert a b c d e f
  decide
section
variable {f g : Facts} {m m2 nan nan2 plus plus2 below below2 : Bool} {X Y z z2 : Nat}
theorem RepF.abs (rf : RepF f m X nan plus below z) : (iv f.V).natAbs = X := by
  rw [rf.val]
  split <;> omega
theorem iv_join (hf : f.Ok) (hg : g.Ok) (rf : RepF f m X nan plus below z) (rg : RepF g m2 Y nan2 plus2 below2 z2) (hX : X < top) (hY : Y < top) : iv ((f.V + g.V) % big) = iv f.V + iv g.V := by
  have h1 := rf.abs
  have h2 := rg.abs
  have ht := top_pos
  refine iv_add hf.V hg.V ?_ ?_ <;> omega
theorem rep_join (hf : f.Ok) (hg : g.Ok) (rf : RepF f m X nan plus below z) (rg : RepF g m2 Y nan2 plus2 below2 z2) (hX : X < top) (hY : Y < top) :
    RepF (joinF f g) (addS m X m2 Y && decide (0 < (bytesN (addR m X m2 Y)).length)) (addR m X m2 Y) (nan || nan2) (plus || plus2) (below || below2) (max z z2) := by
  refine ⟨?_, ?_, ?_, ?_⟩
  · show iv ((f.V + g.V) % big) = _
    rw [iv_join hf hg rf rg hX hY, rf.val, rg.val]
    exact (signed m m2 X Y).symm
  · intro h
    have h2 := of_decide_eq_true (Bool.and_eq_true_iff.1 h).2
    have := len_zero (addR m X m2 Y)
    omega
  · show f.saw ||| g.saw = _
    rw [rf.saw, rg.saw]
    exact saw_or ..
  · show max f.zero g.zero = _
    rw [rf.zero, rg.zero]
theorem fit_join (hf : f.Ok) (hg : g.Ok) (rf : RepF f m X nan plus below z) (rg : RepF g m2 Y nan2 plus2 below2 z2) (hX : X < top) (hY : Y < top) : fitN ((f.V + g.V) % big) = true ↔ (bytesN (addR m X m2 Y)).length ≤ 280 := by
  have hlt : (f.V + g.V) % big < big := Nat.mod_lt _ big_pos
  rw [fit_iff hlt, abs_iv hlt, len_280]
  have := (rep_join hf hg rf rg hX hY).abs
  rw [show iv ((f.V + g.V) % big) = iv (joinF f g).V from rfl, this]
end
theorem opp_neg {W : Nat} (h : W < top) (h0 : 0 < W) : negN (opp W) = true ∧ opp W < big ∧ opp (opp W) = W := by
  have hb := big_top
  have ht := top_pos
  have e : opp W = big - W := by unfold opp; exact Nat.mod_eq_of_lt (by omega)
  have h1 : opp W < big := by omega
  refine ⟨(neg_iff h1).2 (by omega), h1, opp_opp (by omega) h0⟩
theorem pos_neg {W : Nat} (h : W < top) : negN W = false := by
  have hb := big_top
  have ht := top_pos
  cases hn : negN W with
  | false => rfl
  | true => have := (neg_iff (show W < big by omega)).1 hn; omega
theorem rval_rep {f : Facts} {m nan plus below : Bool} {X z : Nat} (hf : f.Ok) (hp : Poss f) (rf : RepF f m X nan plus below z) (hX : X < top) : rvalN m nan plus below z (bytesN X) = valueN f := by
  have hb := big_top
  have ht := top_pos
  have hV := rf.val
  have hn := rf.neg
  have hs := rf.saw
  have hz := rf.zero
  have hfV := hf.V
  unfold rvalN valueN
  rw [wordsN_bytesN, hs, hz]
  cases nan <;> cases plus <;> cases below <;> simp only [Bool.false_eq_true, if_false, if_true, Bool.or_false, Bool.or_true, Bool.true_or, Bool.false_or, Bool.and_false, Bool.and_true, Bool.and_self, Bool.or_self] <;> try rfl
  generalize hL : (if (m || decide (z = 1)) = true then nearN X + 9223372036854775808 else nearN X) = L
  rw [if_neg (by decide), if_neg (by decide), if_neg (by decide), ← hL]
  clear hL
  by_cases hz1 : z = 1
  · subst hz1
    have hV0 : f.V = 0 := by
      rcases hp with hp | hp
      · rw [hz] at hp; cases hp
      · exact hp.2.1
    rw [hV0, iv_zero] at hV
    have hX0 : X = 0 := by cases m <;> simp at hV <;> omega
    subst hX0
    rw [if_pos (by simp), if_pos rfl]
    rfl
  · rw [if_neg hz1]
    have hlt : ∀ {V : Nat}, V < big → iv V = (V : Int) - big ∧ negN V = true ∨ iv V = (V : Int) ∧ negN V = false := by
      intro V hV
      unfold iv
      by_cases h9 : 9223372036854775808 * top ≤ V
      · exact .inl ⟨if_pos h9, (neg_iff hV).2 h9⟩
      · refine .inr ⟨if_neg h9, ?_⟩
        cases hn : negN V with
        | false => rfl
        | true => exact absurd ((neg_iff hV).1 hn) h9
    cases m with
    | true =>
      have h0 := hn rfl
      rw [if_pos rfl] at hV
      rcases hlt hfV with ⟨h1, h2⟩ | ⟨h1, h2⟩
      · have e : f.V = opp X := by unfold opp; rw [Nat.mod_eq_of_lt (by omega)]; omega
        rw [if_pos (by simp), if_pos h2, e, (opp_neg hX (by omega)).2.2]
      · omega
    | false =>
      rw [if_neg Bool.false_ne_true] at hV
      rcases hlt hfV with ⟨h1, h2⟩ | ⟨h1, h2⟩
      · omega
      · have e : f.V = X := by omega
        rw [if_neg (by simp [hz1]), if_neg (by rw [h2]; exact Bool.false_ne_true), e]
/-- what a merge of the reference returns, and what it leaves -/
def rmE (f g : Facts) : Int := if fitN ((f.V + g.V) % big) = true then 0 else 14
def rmF (f g : Facts) : Facts := if fitN ((f.V + g.V) % big) = true then joinF f g else f
theorem rmerge_any {w : World} {b : Nat} {f g : Facts} {m2 : Bool} {a2 : Option Addr} {n2 cap2 Y : Nat} {nan2 plus2 below2 : Bool} {z2 : Nat} (h : RAcc w b f) (hf : f.Ok) (hg : g.Ok) (hy : NumAt w a2 n2 cap2 Y) (rg : RepF g m2 Y nan2 plus2 below2 z2) (hn2 : n2 ≤ 280) :
    Calls Tryz.prog 49 #[.pointer (some ⟨b, 0, none⟩), .agg (qA m2 a2 n2 cap2 nan2 plus2 below2 z2)] w fun e w' => e = .returned (.int .i64 (rmE f g)) ∧ RAcc w' b (rmF f g) ∧ Sole b w w' := by
  obtain ⟨m, a, n, cap, X, nan, plus, below, z, hq, hx, rf, hn⟩ := h
  have hX : X < top := (len_280 X).1 (by rw [← hx.len]; exact hn)
  have hY : Y < top := (len_280 Y).1 (by rw [← hy.len]; exact hn2)
  have hfit := fit_join hf hg rf rg hX hY
  refine (merged_any hq hx hy (by omega) (by omega)).mono ?_
  rintro e w' ⟨hs, ⟨hlen, rfl, hq'⟩ | ⟨hlen, rfl, a', n', cap', hN, hq'⟩⟩
  · have hno : ¬ fitN ((f.V + g.V) % big) = true := fun h9 => by have := hfit.1 h9; omega
    unfold rmE rmF
    rw [if_neg hno, if_neg hno]
    exact ⟨rfl, ⟨m, a, n, cap, X, nan, plus, below, z, hq', hx.sole hq hs, rf, hn⟩, hs⟩
  · have hyes := hfit.2 hlen
    unfold rmE rmF
    rw [if_pos hyes, if_pos hyes]
    refine ⟨rfl, ⟨_, a', n', cap', _, _, _, _, _, hq', hN, ?_, by rw [hN.len]; exact hlen⟩, hs⟩
    rw [hN.len]
    exact rep_join hf hg rf rg hX hY
theorem RAcc.keep {w w' : World} {b : Nat} {f : Facts} (h : RAcc w b f) (hb : Below w.heap.size w w') : RAcc w' b f := by
  obtain ⟨m, a, n, cap, X, nan, plus, below, z, hq, hx, rf, hn⟩ := h
  exact ⟨m, a, n, cap, X, nan, plus, below, z, hq.keep hb, hx.keep hb, rf, hn⟩
theorem facts_280 {x m X nan plus below z} (hx : x < 18446744073709551616) (h : RepF (factsN x) m X nan plus below z) : (bytesN X).length ≤ 280 := by
  rw [len_280, ← h.abs]
  exact mid_le (factsN_abs hx)
/-- Add of the reference -/
theorem radd22_any {w : World} {b x : Nat} {f : Facts} (h : RAcc w b f) (hf : f.Ok) (hx : x < 18446744073709551616) :
    Calls Tryz.prog 22 #[.pointer (some ⟨b, 0, none⟩), .int .u64 x] w fun e w' => e = .returned (.int .i64 (rmE f (factsN x))) ∧ RAcc w' b (rmF f (factsN x)) ∧ Sole b w w' := by
  have H := Lib.hid h
  have HO := Lib.hid (one_any x hx w)
  clear h
  go_enter Tryz.func22, Tryz.ntmps22
  go_wp2_with fail
  refine HO.out.mono ?_
  rintro e w1 ⟨hb, m, a, n, cap, X, nan, plus, below, z, rfl, hN, hR⟩
  have H2 := Lib.hid (rmerge_any (H.out.keep hb) hf (factsN_ok hx) hN hR (by rw [hN.len]; exact facts_280 hx hR))
  have HS := Lib.hid (Sole.of_below (b := b) hb)
  clear hN hR hb HO H
  go_wp2_with fail
  refine H2.out.mono ?_
  rintro e w2 ⟨rfl, hA, hS⟩
  go_wp2_with fail
  go_ret
  exact ⟨rfl, hA, HS.out.trans hS⟩
/-- Value of the reference -/
theorem rvalue22_any {w : World} {b : Nat} {f : Facts} (h : RAcc w b f) (hf : f.Ok) (hp : Poss f) :
    Calls Tryz.prog 31 #[.pointer (some ⟨b, 0, none⟩)] w fun e w' => e = .returned (.int .u64 (valueN f : Nat)) ∧ w = w' := by
  obtain ⟨m, a, n, cap, X, nan, plus, below, z, hq, hx, rf, hn⟩ := h
  have hX : X < top := (len_280 X).1 (by rw [← hx.len]; exact hn)
  have hl := hx.len
  subst hl
  have := rvalue_any (l := bytesN X) ⟨hq, hx.bs⟩ hn (bytesN_lead X)
  rw [rval_rep hf hp rf hX] at this
  exact this
/-- an empty sum of the reference -/
theorem racc_new (w : World) : RAcc (w.alloc (.cells (qA false none 0 0 false false false 0) 48)) w.heap.size zeroF :=
  ⟨false, none, 0, 0, 0, false, false, false, 0, heap_alloc_new w _, num_nil _, ⟨iv_zero, (fun h => by cases h), rfl, rfl⟩, by decide⟩
end Go.Proofs.YtjcdnaandbockaaGreat

namespace Go.Proofs.YtjcdnaandbockaaGreat
open Go.RowKit Go.Shelf
attribute [local go_sem] Oper.semAt_some
set_option maxRecDepth 100000
set_option maxHeartbeats 4000000

theorem rcheck_any (op kind : Int) (w : World) : Calls Tryz.prog 9 #[.int .i64 op, .int .i64 kind] w fun e w' => e = .returned (.int .i64 (findE op kind)) ∧ w = w' := by
  have bad : (op < 1 ∨ 11 < op ∨ kind < 1 ∨ 3 < kind) → findE op kind = 2 := by intro h; unfold findE; rw [if_pos (by omega)]
  by_cases h1 : op < 1
  · have d1 : decide (op < 1) = true := decide_eq_true h1
    have HF := Lib.hid (bad (by omega))
    clear h1 bad
    go_enter Tryz.func9, Tryz.ntmps9
    go_wp2_with fail
    go_ret
    exact ⟨by rw [HF.out]; rfl, rfl⟩
  have d1 : decide (op < 1) = false := decide_eq_false h1
  by_cases h2 : 11 < op
  · have d2 : decide (11 < op) = true := decide_eq_true h2
    have HF := Lib.hid (bad (by omega))
    clear h1 h2 bad
    go_enter Tryz.func9, Tryz.ntmps9
    go_wp2_with fail
    go_ret
    exact ⟨by rw [HF.out]; rfl, rfl⟩
  have d2 : decide (11 < op) = false := decide_eq_false h2
  by_cases h3 : kind < 1
  · have d3 : decide (kind < 1) = true := decide_eq_true h3
    have HF := Lib.hid (bad (by omega))
    clear h1 h2 h3 bad
    go_enter Tryz.func9, Tryz.ntmps9
    go_wp2_with fail
    go_ret
    exact ⟨by rw [HF.out]; rfl, rfl⟩
  have d3 : decide (kind < 1) = false := decide_eq_false h3
  by_cases h4 : 3 < kind
  · have d4 : decide (3 < kind) = true := decide_eq_true h4
    have HF := Lib.hid (bad (by omega))
    clear h1 h2 h3 h4 bad
    go_enter Tryz.func9, Tryz.ntmps9
    go_wp2_with fail
    go_ret
    exact ⟨by rw [HF.out]; rfl, rfl⟩
  have hop : op = 1 ∨ op = 2 ∨ op = 3 ∨ op = 4 ∨ op = 5 ∨ op = 6 ∨ op = 7 ∨ op = 8 ∨ op = 9 ∨ op = 10 ∨ op = 11 := by omega
  have hk : kind = 1 ∨ kind = 2 ∨ kind = 3 := by omega
  clear d1 d2 d3 h1 h2 h3 h4 bad
  rcases hk with rfl | rfl | rfl <;> rcases hop with rfl | rfl | rfl | rfl | rfl | rfl | rfl | rfl | rfl | rfl | rfl
  all_goals
    go_enter Tryz.func9, Tryz.ntmps9
    go_wp2_with fail
    go_ret
    exact ⟨by simp [findE, keysOf], rfl⟩
theorem rvalid_any (kind : Int) (u : Vl) (w : World) : Calls Tryz.prog 36 #[.int .i64 kind, vA u] w fun e w' => e = .returned (.bool (allowsB kind u)) ∧ Below w.heap.size w w' := by
  obtain ⟨x, p⟩ := u
  have hb : Hid (Below w.heap.size w (w.alloc (.cells #[.int .u64 x, .int .i64 p] 24))) := (Below.refl _ _).alloc (Nat.le_refl _) _
  have h1 : (w.alloc (.cells #[.int .u64 x, .int .i64 p] 24)).heap[w.heap.size]? = some (.cells #[.int .u64 x, .int .i64 p] 24 (0, 0)) := heap_alloc_new w _
  have c1 := cellR 1 h1 rfl
  have HA : Hid (allowsB kind ⟨x, p⟩ = (decide (p = 0) || decide (kind = 3))) := rfl
  unfold vA
  by_cases hk : kind = 3
  · subst hk
    rw [decide_eq_true rfl, Bool.or_true] at HA
    go_enter Tryz.func36, Tryz.ntmps36
    go_wp2_with fail
    go_ret
    exact ⟨by rw [HA.out]; rfl, hb.out⟩
  · have e1 : (kind == 3) = false := by rw [beq_eq_false_iff_ne]; exact hk
    rw [decide_eq_false hk, Bool.or_false] at HA
    have e2 : (p == 0) = decide (p = 0) := by
      by_cases h : p = 0
      · rw [decide_eq_true h, beq_iff_eq]; exact h
      · rw [decide_eq_false h, beq_eq_false_iff_ne]; exact h
    go_enter Tryz.func36, Tryz.ntmps36
    go_wp2_with fail
    go_ret
    exact ⟨by rw [HA.out, ← e2]; rfl, hb.out⟩
theorem rtruth_any (b : Bool) (w : World) : Calls Tryz.prog 52 #[.bool b] w fun e w' => e = .returned (.int .u64 (((if b = true then 1 else 0 : Nat)) : Int)) ∧ w = w' := by
  cases b
  all_goals
    go_enter Tryz.func52, Tryz.ntmps52
    go_wp2_with fail
    go_ret
    exact ⟨rfl, rfl⟩
theorem rints_any (op : Int) (x y : Nat) (hx : x < 18446744073709551616) (hy : y < 18446744073709551616) (ho : 1 ≤ op ∧ op ≤ 9) (w : World) : Calls Tryz.prog 60 #[.int .i64 op, .int .u64 x, .int .u64 y] w fun e w' => e = .returned (.int .u64 ((intOp op x y : Nat) : Int)) ∧ w = w' := by
  have hop : op = 1 ∨ op = 2 ∨ op = 3 ∨ op = 4 ∨ op = 5 ∨ op = 6 ∨ op = 7 ∨ op = 8 ∨ op = 9 := by omega
  have w1 := wrap_sg x hx
  have w2 := wrap_sg y hy
  have H1 : Hid (IntKind.u64.wrap ((x : Int) + y) = (((x + y) % M64 : Nat) : Int)) := by show _ = _; rw [IntKind.wrap_u64]; rfl
  have H2 : Hid (IntKind.u64.wrap ((x : Int) * y) = (((x * y) % M64 : Nat) : Int)) := by show _ = _; rw [IntKind.wrap_u64]; rfl
  have H5 := Lib.hid ((bits_nat .u64 64 (by decide) wraps_u64 x y (by omega) (by omega)).1)
  have H6 := Lib.hid ((bits_nat .u64 64 (by decide) wraps_u64 x y (by omega) (by omega)).2)
  have H7 := Lib.hid (bits_xor_u64_nat x y hx hy)
  have hinj : sg x = sg y → x = y := by unfold sg; split <;> split <;> omega
  obtain ⟨sx, hsx⟩ : ∃ s, s = sg x := ⟨_, rfl⟩
  obtain ⟨sy, hsy⟩ : ∃ s, s = sg y := ⟨_, rfl⟩
  have HMin : Hid (intOp 3 x y = if sx ≤ sy then x else y) := by show _ = _; subst hsx hsy; rfl
  have HMax : Hid (intOp 4 x y = if sx ≤ sy then y else x) := by show _ = _; subst hsx hsy; rfl
  rw [← hsx] at w1
  rw [← hsy] at w2
  rw [← hsx, ← hsy] at hinj
  clear hsx hsy hx hy
  rcases hop with rfl | rfl | rfl | rfl | rfl | rfl | rfl | rfl | rfl
  · go_enter Tryz.func60, Tryz.ntmps60
    go_wp2_with fail
    go_ret
    exact ⟨by first | rw [H1.out]; rfl | (simp only [H1.out]; rfl), rfl⟩
  · go_enter Tryz.func60, Tryz.ntmps60
    go_wp2_with fail
    go_ret
    exact ⟨by rw [H2.out]; rfl, rfl⟩
  · by_cases h : sx ≤ sy
    · have d : decide (sy < sx) = false := decide_eq_false (by omega)
      rw [if_pos h] at HMin
      clear h
      go_enter Tryz.func60, Tryz.ntmps60
      go_wp2_with fail
      go_ret
      exact ⟨by rw [HMin.out]; rfl, rfl⟩
    · have d : decide (sy < sx) = true := decide_eq_true (by omega)
      rw [if_neg h] at HMin
      clear h
      go_enter Tryz.func60, Tryz.ntmps60
      go_wp2_with fail
      go_ret
      exact ⟨by rw [HMin.out]; rfl, rfl⟩
  · by_cases h : sx < sy
    · have d : decide (sx < sy) = true := decide_eq_true h
      rw [if_pos (by omega)] at HMax
      clear h
      go_enter Tryz.func60, Tryz.ntmps60
      go_wp2_with fail
      go_ret
      exact ⟨by rw [HMax.out]; rfl, rfl⟩
    · have d : decide (sx < sy) = false := decide_eq_false h
      have HM : Hid (intOp 4 x y = x) := by
        show _ = _
        rw [HMax.out]
        by_cases h9 : sx ≤ sy
        · rw [if_pos h9]; exact (hinj (by omega)).symm
        · rw [if_neg h9]
      clear h hinj HMax
      go_enter Tryz.func60, Tryz.ntmps60
      go_wp2_with fail
      go_ret
      exact ⟨by rw [HM.out]; rfl, rfl⟩
  · go_enter Tryz.func60, Tryz.ntmps60
    go_wp2_with fail
    go_ret
    exact ⟨by rw [show intOp 5 x y = x &&& y from rfl, ← H5.out]; rfl, rfl⟩
  · go_enter Tryz.func60, Tryz.ntmps60
    go_wp2_with fail
    go_ret
    exact ⟨by rw [show intOp 6 x y = x ||| y from rfl, ← H6.out]; rfl, rfl⟩
  · go_enter Tryz.func60, Tryz.ntmps60
    go_wp2_with fail
    go_ret
    exact ⟨by rw [show intOp 7 x y = x ^^^ y from rfl, ← H7.out]; rfl, rfl⟩
  all_goals
    obtain ⟨bx, hbx⟩ : ∃ bx, bx = ((x : Int) != 0) := ⟨_, rfl⟩
    obtain ⟨bz, hbz⟩ : ∃ bz, bz = ((y : Int) != 0) := ⟨_, rfl⟩
    have HT := Lib.hid (fun b => rtruth_any b w)
  · have HI : Hid (intOp 8 x y = if (bx && bz) = true then 1 else 0) := by show _ = _; subst hbx hbz; rfl
    replace hbx := hbx.symm
    replace hbz := hbz.symm
    cases bx <;> cases bz
    all_goals
      go_enter Tryz.func60, Tryz.ntmps60
      go_wp2_with fail
      refine (HT.out _).mono ?_
      rintro e w2 ⟨rfl, rfl⟩
      go_wp2_with fail
      go_ret
      exact ⟨by rw [HI.out]; rfl, rfl⟩
  · have HI : Hid (intOp 9 x y = if (bx || bz) = true then 1 else 0) := by show _ = _; subst hbx hbz; rfl
    replace hbx := hbx.symm
    replace hbz := hbz.symm
    cases bx <;> cases bz
    all_goals
      go_enter Tryz.func60, Tryz.ntmps60
      go_wp2_with fail
      refine (HT.out _).mono ?_
      rintro e w2 ⟨rfl, rfl⟩
      go_wp2_with fail
      go_ret
      exact ⟨by rw [HI.out]; rfl, rfl⟩
end Go.Proofs.YtjcdnaandbockaaGreat

namespace Go.Proofs.YtjcdnaandbockaaGreat
open Go.RowKit Go.Shelf
attribute [local go_sem] Oper.semAt_some
set_option maxRecDepth 100000
set_option maxHeartbeats 4000000

/-- the reference's comparison -/
def rcmpN (x y : Nat) : Int := if (nanB x && nanB y) = true ∨ x = y then 0 else if nanB x = true then 1 else if nanB y = true then -1
  else if 9223372036854775808 ≤ x ∧ ¬ 9223372036854775808 ≤ y then -1 else if 9223372036854775808 ≤ y ∧ ¬ 9223372036854775808 ≤ x then 1
  else if 9223372036854775808 ≤ x then (if x < y then 1 else -1) else (if x < y then -1 else 1)
theorem rcmp_eq (x y : Nat) (hx : x < 18446744073709551616) (hy : y < 18446744073709551616) : rcmpN x y = cmpN (levelN x) (levelN y) := by
  unfold rcmpN cmpN levelN oneN
  cases hnx : nanB x <;> cases hny : nanB y
  all_goals
    unfold nanB at hnx hny
    simp only [decide_eq_true_eq, decide_eq_false_iff_not] at hnx hny
    simp only [Bool.false_eq_true, if_false, if_true, Bool.and_false, Bool.false_and, Bool.and_self, Bool.and_true, Bool.true_and, false_or, true_or]
  · by_cases h1 : x = y
    · subst h1; rw [if_pos rfl, if_neg (by omega), if_neg (by omega)]
    rw [if_neg h1]
    by_cases h2 : 9223372036854775808 ≤ x <;> by_cases h3 : 9223372036854775808 ≤ y <;> simp only [h2, h3, if_true, if_false, not_true, not_false_iff, and_true, and_false, true_and, false_and, and_self] <;> (repeat' split) <;> omega
  · by_cases h1 : x = y
    · subst h1; exact absurd hny hnx
    rw [if_neg h1]
    by_cases h2 : 9223372036854775808 ≤ x <;> simp only [h2, if_true, if_false] <;> (repeat' split) <;> omega
  · by_cases h1 : x = y
    · subst h1; exact absurd hnx hny
    rw [if_neg h1]
    by_cases h2 : 9223372036854775808 ≤ y <;> simp only [h2, if_true, if_false] <;> (repeat' split) <;> omega
  · (repeat' split) <;> omega
theorem rcompare_any (x y : Nat) (hx : x < 18446744073709551616) (hy : y < 18446744073709551616) (w : World) : Calls Tryz.prog 11 #[.int .u64 x, .int .u64 y] w fun e w' => e = .returned (.int .i64 (cmpN (levelN x) (levelN y))) ∧ w = w' := by
  rw [← rcmp_eq x y hx hy]
  have HNX := Lib.hid (fun w => risNaN_any x hx w)
  have HNY := Lib.hid (fun w => risNaN_any y hy w)
  have sx := b_sign x hx
  have sy := b_sign y hy
  have HC : Hid (rcmpN x y = if (nanB x && nanB y) = true ∨ x = y then 0 else if nanB x = true then 1 else if nanB y = true then -1
    else if 9223372036854775808 ≤ x ∧ ¬ 9223372036854775808 ≤ y then -1 else if 9223372036854775808 ≤ y ∧ ¬ 9223372036854775808 ≤ x then 1
    else if 9223372036854775808 ≤ x then (if x < y then 1 else -1) else (if x < y then -1 else 1)) := rfl
  obtain ⟨c, hc⟩ : ∃ c, c = rcmpN x y := ⟨_, rfl⟩
  rw [← hc] at HC ⊢
  clear hc hx hy
  obtain ⟨nx, hnx⟩ : ∃ nx, nx = nanB x := ⟨_, rfl⟩
  obtain ⟨ny, hny⟩ : ∃ ny, ny = nanB y := ⟨_, rfl⟩
  by_cases hxy : x = y
  · subst hxy
    rw [if_pos (Or.inr rfl)] at HC
    have e1 : ((x : Int) == (x : Int)) = true := by simp
    rw [← hnx] at HNX
    clear HNY hny sy sx ny hnx
    cases nx
    · go_enter Tryz.func11, Tryz.ntmps11
      go_wp2_with fail
      refine (HNX.out _).mono ?_
      rintro e w1 ⟨rfl, rfl⟩
      go_wp2_with fail
      go_ret
      exact ⟨by rw [HC.out]; rfl, rfl⟩
    · go_enter Tryz.func11, Tryz.ntmps11
      go_wp2_with fail
      refine (HNX.out _).mono ?_
      rintro e w1 ⟨rfl, rfl⟩
      go_wp2_with fail
      refine (HNX.out _).mono ?_
      rintro e w2 ⟨rfl, rfl⟩
      go_wp2_with fail
      go_ret
      exact ⟨by rw [HC.out]; rfl, rfl⟩
  have e1 : ((x : Int) == (y : Int)) = false := by rw [beq_eq_false_iff_ne]; omega
  rw [← hnx] at HNX HC
  rw [← hny] at HNY HC
  clear hnx hny
  cases nx with
  | true =>
    clear sx sy
    cases ny with
    | true =>
      rw [if_pos (show (true && true) = true ∨ x = y from Or.inl rfl)] at HC
      clear hxy
      go_enter Tryz.func11, Tryz.ntmps11
      go_wp2_with fail
      refine (HNX.out _).mono ?_
      rintro e w1 ⟨rfl, rfl⟩
      go_wp2_with fail
      refine (HNY.out _).mono ?_
      rintro e w2 ⟨rfl, rfl⟩
      go_wp2_with fail
      go_ret
      exact ⟨by rw [HC.out]; rfl, rfl⟩
    | false =>
      rw [if_neg (by simp [hxy]), if_pos rfl] at HC
      clear hxy
      go_enter Tryz.func11, Tryz.ntmps11
      go_wp2_with fail
      refine (HNX.out _).mono ?_
      rintro e w1 ⟨rfl, rfl⟩
      go_wp2_with fail
      refine (HNY.out _).mono ?_
      rintro e w2 ⟨rfl, rfl⟩
      go_wp2_with fail
      refine (HNX.out _).mono ?_
      rintro e w3 ⟨rfl, rfl⟩
      go_wp2_with fail
      go_ret
      exact ⟨by rw [HC.out]; rfl, rfl⟩
  | false =>
    rw [if_neg (by simp [hxy]), if_neg Bool.false_ne_true] at HC
    cases ny with
    | true =>
      clear sx sy
      rw [if_pos rfl] at HC
      clear hxy
      go_enter Tryz.func11, Tryz.ntmps11
      go_wp2_with fail
      refine (HNX.out _).mono ?_
      rintro e w1 ⟨rfl, rfl⟩
      go_wp2_with fail
      refine (HNX.out _).mono ?_
      rintro e w2 ⟨rfl, rfl⟩
      go_wp2_with fail
      refine (HNY.out _).mono ?_
      rintro e w3 ⟨rfl, rfl⟩
      go_wp2_with fail
      go_ret
      exact ⟨by rw [HC.out]; rfl, rfl⟩
    | false =>
      rw [if_neg Bool.false_ne_true] at HC
      clear hxy
      have tail : ∀ v : Int, c = v → c = v := fun _ h => h
      by_cases hlt : x < y
      all_goals by_cases h2 : 9223372036854775808 ≤ x <;> by_cases h3 : 9223372036854775808 ≤ y
      all_goals
        simp only [h2, h3, hlt, if_true, if_false, not_true, not_false_iff, and_true, and_false, true_and, false_and, and_self] at HC
        have sx' := sx
        have sy' := sy
        first | rw [if_pos h2] at sx' | rw [if_neg h2] at sx'
        first | rw [if_pos h3] at sy' | rw [if_neg h3] at sy'
        clear sx sy h2 h3
        first | (have d1 : decide (x < y) = true := decide_eq_true hlt) | (have d1 : decide (x < y) = false := decide_eq_false hlt)
        first | (have d2 : decide ((x : Int) < (y : Int)) = true := decide_eq_true (by omega)) | (have d2 : decide ((x : Int) < (y : Int)) = false := decide_eq_false (by omega))
        clear hlt tail
        go_enter Tryz.func11, Tryz.ntmps11
        go_wp2_with fail
        refine (HNX.out _).mono ?_
        rintro e w1 ⟨rfl, rfl⟩
        go_wp2_with fail
        refine (HNX.out _).mono ?_
        rintro e w2 ⟨rfl, rfl⟩
        go_wp2_with fail
        refine (HNY.out _).mono ?_
        rintro e w3 ⟨rfl, rfl⟩
        go_wp2_with fail
        go_ret
        exact ⟨by rw [HC.out]; rfl, rfl⟩
end Go.Proofs.YtjcdnaandbockaaGreat

namespace Go.Proofs.YtjcdnaandbockaaGreat
open Go.RowKit Go.Shelf
attribute [local go_sem] Oper.semAt_some
set_option maxRecDepth 100000
set_option maxHeartbeats 4000000

theorem drewN_row {w : World} {g n : Nat} {o : Obj} (h : w.heap[g]? = some o) : (w.drewN n).heap[g]? = some o := h
theorem rpairs_any (op : Int) (u v : Vl) (hu : u.Ok) (hv : v.Ok) (ho : op = 10 ∨ op = 11) (w : World) : Calls Tryz.prog 62 #[.int .i64 op, vA u, vA v] w fun e w' => e = .returned (vA (opV op 3 u v)) ∧ Below w.heap.size w w' := by
  obtain ⟨x, p⟩ := u
  obtain ⟨y, q⟩ := v
  obtain ⟨hb, h1, h2, h3, hz⟩ := three w (.cells #[.int .u64 x, .int .i64 p] 24) (.cells #[.int .u64 y, .int .i64 q] 24) (.cells #[.int .u64 0, .int .i64 0] 24)
  have hR : opV op 3 ⟨x, p⟩ ⟨y, q⟩ = if sg x = sg y then (if q < p then ⟨y, q⟩ else ⟨x, p⟩) else if decide (sg y < sg x) = decide (op = 10) then ⟨y, q⟩ else ⟨x, p⟩ := by
    have hinj : sg x = sg y → x = y := by
      have h1 := hu.x
      have h2 := hv.x
      simp only at h1 h2
      unfold sg
      split <;> split <;> omega
    unfold opV
    rw [if_neg (by decide), if_neg (by decide)]
    rcases ho with rfl | rfl
    · rw [if_pos rfl, best108]
      unfold orI cmpI
      simp only
      by_cases he : sg x = sg y
      · have := hinj he
        subst this
        rw [if_pos rfl]
        by_cases h9 : q < p
        · simp [h9, show ¬ p < q by omega]
        · by_cases h8 : p < q
          · simp [h8, h9]
          · have : p = q := by omega
            subst this; simp
      · rw [if_neg he]
        by_cases h9 : sg y < sg x
        · simp [h9, show ¬ sg x < sg y by omega]
        · simp [h9, show sg x < sg y by omega]
    · rw [if_neg (by decide), best109]
      unfold orI cmpI
      simp only
      by_cases he : sg x = sg y
      · have := hinj he
        subst this
        rw [if_pos rfl]
        by_cases h9 : q < p
        · simp [h9, show ¬ p < q by omega]
        · by_cases h8 : p < q
          · simp [h8, h9]
          · have : p = q := by omega
            subst this; simp
      · rw [if_neg he]
        by_cases h9 : sg y < sg x
        · simp [h9]
        · simp [h9, show sg x < sg y by omega]
  obtain ⟨R, hr⟩ : ∃ R, R = opV op 3 ⟨x, p⟩ ⟨y, q⟩ := ⟨_, rfl⟩
  rw [← hr] at hR ⊢
  clear hr
  have w1 := wrap_sg x hu.x
  have w2 := wrap_sg y hv.x
  generalize sg x = sx at *
  generalize sg y = sy at *
  have HB := Lib.hid hb
  have H1 := Lib.hid h1
  have H2 := Lib.hid h2
  have H3 := Lib.hid h3
  have x0 := cellR 0 h1 rfl
  have x1 := cellR 1 h1 rfl
  have y0 := cellR 0 h2 rfl
  have y1 := cellR 1 h2 rfl
  have d0 := cellR 0 h3 rfl
  have d1 := cellR 1 h3 rfl
  have f0 := frozen_of_row _ _ 0 _ _ h3
  have f1 := frozen_of_row _ _ 1 _ _ h3
  have l0 := (Array.getElem?_eq_some_iff.1 h3).1
  clear hb h1 h2 h3 hu hv
  unfold vA
  by_cases he : sx = sy
  · rw [if_pos he] at hR
    have e1 : (sx == sy) = true := by rw [beq_iff_eq]; exact he
    by_cases hq : q < p
    · rw [if_pos hq] at hR
      have e2 : decide (q < p) = true := decide_eq_true hq
      clear he hq
      have HR : Hid (R = ⟨y, q⟩) := hR
      clear hR
      go_enter Tryz.func62, Tryz.ntmps62
      go_wp2_with fail
      generalize ((w.alloc (.cells #[.int .u64 x, .int .i64 p] 24)).alloc (.cells #[.int .u64 y, .int .i64 q] 24)).alloc (.cells #[.int .u64 0, .int .i64 0] 24) = X at *
      go_quiet (fail)
      go_wp2_with fail
      have hr := fun n => put2 (drewN_row (n := n) H3.out) (.int .u64 y) (.int .i64 q)
      have hb9 := fun n => ((below_drewN HB.out n).setCell (p := ⟨w.heap.size + 1 + 1, 0, none⟩) (by show _ ≤ _ + 1 + 1; omega) (.int .u64 y)).setCell (p := ⟨w.heap.size + 1 + 1, 1, none⟩) (by show _ ≤ _ + 1 + 1; omega) (.int .i64 q)
      refine bodyPost_ret (v := .agg #[.int .u64 y, .int .i64 q]) ?_ rfl ⟨by rw [HR.out], hb9 _⟩
      simp [results, Act.put, run_loadVar_row _ _ 24 24 _ _ _ (hr _) Tryz.underlying24 rfl info54, Tryz.results62, asAddr]
    · rw [if_neg hq] at hR
      have e2 : decide (q < p) = false := decide_eq_false hq
      clear he hq
      have HR : Hid (R = ⟨x, p⟩) := hR
      clear hR
      go_enter Tryz.func62, Tryz.ntmps62
      go_wp2_with fail
      generalize ((w.alloc (.cells #[.int .u64 x, .int .i64 p] 24)).alloc (.cells #[.int .u64 y, .int .i64 q] 24)).alloc (.cells #[.int .u64 0, .int .i64 0] 24) = X at *
      go_quiet (fail)
      go_wp2_with fail
      have hr := fun n => put2 (drewN_row (n := n) H3.out) (.int .u64 x) (.int .i64 p)
      have hb9 := fun n => ((below_drewN HB.out n).setCell (p := ⟨w.heap.size + 1 + 1, 0, none⟩) (by show _ ≤ _ + 1 + 1; omega) (.int .u64 x)).setCell (p := ⟨w.heap.size + 1 + 1, 1, none⟩) (by show _ ≤ _ + 1 + 1; omega) (.int .i64 p)
      refine bodyPost_ret (v := .agg #[.int .u64 x, .int .i64 p]) ?_ rfl ⟨by rw [HR.out], hb9 _⟩
      simp [results, Act.put, run_loadVar_row _ _ 24 24 _ _ _ (hr _) Tryz.underlying24 rfl info54, Tryz.results62, asAddr]
  · rw [if_neg he] at hR
    have e1 : (sx == sy) = false := by rw [beq_eq_false_iff_ne]; exact he
    rcases ho with rfl | rfl <;> by_cases hl : sy < sx
    · have e2 : decide (sy < sx) = true := decide_eq_true hl
      rw [e2, if_pos (by decide)] at hR
      clear he hl
      have HR : Hid (R = ⟨y, q⟩) := hR
      clear hR
      go_enter Tryz.func62, Tryz.ntmps62
      go_wp2_with fail
      generalize ((w.alloc (.cells #[.int .u64 x, .int .i64 p] 24)).alloc (.cells #[.int .u64 y, .int .i64 q] 24)).alloc (.cells #[.int .u64 0, .int .i64 0] 24) = X at *
      go_quiet (fail)
      go_wp2_with fail
      have hr := fun n => put2 (drewN_row (n := n) H3.out) (.int .u64 y) (.int .i64 q)
      have hb9 := fun n => ((below_drewN HB.out n).setCell (p := ⟨w.heap.size + 1 + 1, 0, none⟩) (by show _ ≤ _ + 1 + 1; omega) (.int .u64 y)).setCell (p := ⟨w.heap.size + 1 + 1, 1, none⟩) (by show _ ≤ _ + 1 + 1; omega) (.int .i64 q)
      refine bodyPost_ret (v := .agg #[.int .u64 y, .int .i64 q]) ?_ rfl ⟨by rw [HR.out], hb9 _⟩
      simp [results, Act.put, run_loadVar_row _ _ 24 24 _ _ _ (hr _) Tryz.underlying24 rfl info54, Tryz.results62, asAddr]
    · have e2 : decide (sy < sx) = false := decide_eq_false hl
      rw [e2, if_neg (by decide)] at hR
      clear he hl
      have HR : Hid (R = ⟨x, p⟩) := hR
      clear hR
      go_enter Tryz.func62, Tryz.ntmps62
      go_wp2_with fail
      generalize ((w.alloc (.cells #[.int .u64 x, .int .i64 p] 24)).alloc (.cells #[.int .u64 y, .int .i64 q] 24)).alloc (.cells #[.int .u64 0, .int .i64 0] 24) = X at *
      go_quiet (fail)
      go_wp2_with fail
      have hr := fun n => put2 (drewN_row (n := n) H3.out) (.int .u64 x) (.int .i64 p)
      have hb9 := fun n => ((below_drewN HB.out n).setCell (p := ⟨w.heap.size + 1 + 1, 0, none⟩) (by show _ ≤ _ + 1 + 1; omega) (.int .u64 x)).setCell (p := ⟨w.heap.size + 1 + 1, 1, none⟩) (by show _ ≤ _ + 1 + 1; omega) (.int .i64 p)
      refine bodyPost_ret (v := .agg #[.int .u64 x, .int .i64 p]) ?_ rfl ⟨by rw [HR.out], hb9 _⟩
      simp [results, Act.put, run_loadVar_row _ _ 24 24 _ _ _ (hr _) Tryz.underlying24 rfl info54, Tryz.results62, asAddr]
    · have e2 : decide (sy < sx) = true := decide_eq_true hl
      rw [e2, if_neg (by decide)] at hR
      clear he hl
      have HR : Hid (R = ⟨x, p⟩) := hR
      clear hR
      go_enter Tryz.func62, Tryz.ntmps62
      go_wp2_with fail
      generalize ((w.alloc (.cells #[.int .u64 x, .int .i64 p] 24)).alloc (.cells #[.int .u64 y, .int .i64 q] 24)).alloc (.cells #[.int .u64 0, .int .i64 0] 24) = X at *
      go_quiet (fail)
      go_wp2_with fail
      have hr := fun n => put2 (drewN_row (n := n) H3.out) (.int .u64 x) (.int .i64 p)
      have hb9 := fun n => ((below_drewN HB.out n).setCell (p := ⟨w.heap.size + 1 + 1, 0, none⟩) (by show _ ≤ _ + 1 + 1; omega) (.int .u64 x)).setCell (p := ⟨w.heap.size + 1 + 1, 1, none⟩) (by show _ ≤ _ + 1 + 1; omega) (.int .i64 p)
      refine bodyPost_ret (v := .agg #[.int .u64 x, .int .i64 p]) ?_ rfl ⟨by rw [HR.out], hb9 _⟩
      simp [results, Act.put, run_loadVar_row _ _ 24 24 _ _ _ (hr _) Tryz.underlying24 rfl info54, Tryz.results62, asAddr]
    · have e2 : decide (sy < sx) = false := decide_eq_false hl
      rw [e2, if_pos (by decide)] at hR
      clear he hl
      have HR : Hid (R = ⟨y, q⟩) := hR
      clear hR
      go_enter Tryz.func62, Tryz.ntmps62
      go_wp2_with fail
      generalize ((w.alloc (.cells #[.int .u64 x, .int .i64 p] 24)).alloc (.cells #[.int .u64 y, .int .i64 q] 24)).alloc (.cells #[.int .u64 0, .int .i64 0] 24) = X at *
      go_quiet (fail)
      go_wp2_with fail
      have hr := fun n => put2 (drewN_row (n := n) H3.out) (.int .u64 y) (.int .i64 q)
      have hb9 := fun n => ((below_drewN HB.out n).setCell (p := ⟨w.heap.size + 1 + 1, 0, none⟩) (by show _ ≤ _ + 1 + 1; omega) (.int .u64 y)).setCell (p := ⟨w.heap.size + 1 + 1, 1, none⟩) (by show _ ≤ _ + 1 + 1; omega) (.int .i64 q)
      refine bodyPost_ret (v := .agg #[.int .u64 y, .int .i64 q]) ?_ rfl ⟨by rw [HR.out], hb9 _⟩
      simp [results, Act.put, run_loadVar_row _ _ 24 24 _ _ _ (hr _) Tryz.underlying24 rfl info54, Tryz.results62, asAddr]
end Go.Proofs.YtjcdnaandbockaaGreat
