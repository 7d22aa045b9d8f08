import Derived.Test.YtjcdnaandbockaaGreatGf
namespace Go.Proofs.YtjcdnaandbockaaGreat
open Go.RowKit Go.Shelf
attribute [local go_sem] Oper.semAt_some
set_option maxRecDepth 100000
set_option maxHeartbeats 1000000

/-- a value of the program: its bits and its place -/
structure Vl where
  x : Nat
  p : Int
structure Vl.Ok (v : Vl) : Prop where
  x : v.x < 18446744073709551616
  p0 : -9223372036854775808 ≤ v.p
  p1 : v.p < 9223372036854775808
def vA (v : Vl) : Value := .agg #[.int .u64 v.x, .int .i64 v.p]

def M64 : Nat := 18446744073709551616
/-- bits as a signed number -/
def sg (x : Nat) : Int := if x < 9223372036854775808 then x else (x : Int) - 18446744073709551616

theorem f91 (x y : Nat) (w : World) : Calls Tryz.prog 101 #[.int .u64 x, .int .u64 y] w fun e w' => e = .returned (.int .u64 ((x + y) % M64 : Nat)) ∧ w = w' := by
  go_enter Tryz.func101, Tryz.ntmps101
  go_wp2_with fail
  go_ret
  exact ⟨by rw [IntKind.wrap_u64]; congr 2, rfl⟩
theorem f92 (x y : Nat) (w : World) : Calls Tryz.prog 102 #[.int .u64 x, .int .u64 y] w fun e w' => e = .returned (.int .u64 ((x * y) % M64 : Nat)) ∧ w = w' := by
  go_enter Tryz.func102, Tryz.ntmps102
  go_wp2_with fail
  go_ret
  exact ⟨by rw [IntKind.wrap_u64]; congr 2, rfl⟩
def minS (x y : Nat) : Nat := if sg x ≤ sg y then x else y
def maxS (x y : Nat) : Nat := if sg x ≤ sg y then y else x
theorem wrap_sg (x : Nat) (hx : x < 18446744073709551616) : wrap64 (x : Int) = sg x := by unfold wrap64 sg; split <;> omega
theorem unwrap_sg (x : Nat) (hx : x < 18446744073709551616) : IntKind.u64.wrap (sg x) = x := by rw [IntKind.wrap_u64]; unfold sg; split <;> omega
theorem min_wrap (x y : Nat) (hx : x < 18446744073709551616) (hy : y < 18446744073709551616) : IntKind.u64.wrap (min (wrap64 (x : Int)) (wrap64 (y : Int))) = (minS x y : Nat) := by
  rw [wrap_sg x hx, wrap_sg y hy]
  unfold minS
  split
  · next h => rw [Int.min_eq_left h, unwrap_sg x hx]
  · next h => rw [Int.min_eq_right (by omega), unwrap_sg y hy]
theorem max_wrap (x y : Nat) (hx : x < 18446744073709551616) (hy : y < 18446744073709551616) : IntKind.u64.wrap (max (wrap64 (x : Int)) (wrap64 (y : Int))) = (maxS x y : Nat) := by
  rw [wrap_sg x hx, wrap_sg y hy]
  unfold maxS
  split
  · next h => rw [Int.max_eq_right h, unwrap_sg y hy]
  · next h => rw [Int.max_eq_left (by omega), unwrap_sg x hx]
theorem f93 (x y : Nat) (hx : x < 18446744073709551616) (hy : y < 18446744073709551616) (w : World) : Calls Tryz.prog 103 #[.int .u64 x, .int .u64 y] w fun e w' => e = .returned (.int .u64 ((minS x y : Nat) : Int)) ∧ w = w' := by
  have h := Lib.hid (min_wrap x y hx hy)
  obtain ⟨r, hr⟩ : ∃ r : Nat, r = (minS x y) := ⟨_, rfl⟩
  rw [← hr] at h ⊢
  clear hr
  go_enter Tryz.func103, Tryz.ntmps103
  go_wp2_with fail
  go_ret
  exact ⟨by rw [← h.out]; rfl, rfl⟩
theorem f94 (x y : Nat) (hx : x < 18446744073709551616) (hy : y < 18446744073709551616) (w : World) : Calls Tryz.prog 104 #[.int .u64 x, .int .u64 y] w fun e w' => e = .returned (.int .u64 ((maxS x y : Nat) : Int)) ∧ w = w' := by
  have h := Lib.hid (max_wrap x y hx hy)
  obtain ⟨r, hr⟩ : ∃ r : Nat, r = (maxS x y) := ⟨_, rfl⟩
  rw [← hr] at h ⊢
  clear hr
  go_enter Tryz.func104, Tryz.ntmps104
  go_wp2_with fail
  go_ret
  exact ⟨by rw [← h.out]; rfl, rfl⟩
theorem f95 (x y : Nat) (hx : x < 18446744073709551616) (hy : y < 18446744073709551616) (w : World) : Calls Tryz.prog 105 #[.int .u64 x, .int .u64 y] w fun e w' => e = .returned (.int .u64 ((x &&& y : Nat) : Int)) ∧ w = w' := by
  have h := Lib.hid ((bits_nat .u64 64 (by decide) wraps_u64 x y (by omega) (by omega)).1)
  obtain ⟨r, hr⟩ : ∃ r : Nat, r = (x &&& y) := ⟨_, rfl⟩
  rw [← hr] at h ⊢
  clear hr
  go_enter Tryz.func105, Tryz.ntmps105
  go_wp2_with fail
  go_ret
  exact ⟨by rw [← h.out]; rfl, rfl⟩
theorem f96 (x y : Nat) (hx : x < 18446744073709551616) (hy : y < 18446744073709551616) (w : World) : Calls Tryz.prog 106 #[.int .u64 x, .int .u64 y] w fun e w' => e = .returned (.int .u64 ((x ||| y : Nat) : Int)) ∧ w = w' := by
  have h := Lib.hid ((bits_nat .u64 64 (by decide) wraps_u64 x y (by omega) (by omega)).2)
  obtain ⟨r, hr⟩ : ∃ r : Nat, r = (x ||| y) := ⟨_, rfl⟩
  rw [← hr] at h ⊢
  clear hr
  go_enter Tryz.func106, Tryz.ntmps106
  go_wp2_with fail
  go_ret
  exact ⟨by rw [← h.out]; rfl, rfl⟩
theorem f97 (x y : Nat) (hx : x < 18446744073709551616) (hy : y < 18446744073709551616) (w : World) : Calls Tryz.prog 107 #[.int .u64 x, .int .u64 y] w fun e w' => e = .returned (.int .u64 ((x ^^^ y : Nat) : Int)) ∧ w = w' := by
  have h := Lib.hid (bits_xor_u64_nat x y hx hy)
  obtain ⟨r, hr⟩ : ∃ r : Nat, r = (x ^^^ y) := ⟨_, rfl⟩
  rw [← hr] at h ⊢
  clear hr
  go_enter Tryz.func107, Tryz.ntmps107
  go_wp2_with fail
  go_ret
  exact ⟨by rw [← h.out]; rfl, rfl⟩
theorem f98 (x y : Bool) (w : World) : Calls Tryz.prog 108 #[.bool x, .bool y] w fun e w' => e = .returned (.bool (x && y)) ∧ w = w' := by
  cases x <;> cases y <;>
  · go_enter Tryz.func108, Tryz.ntmps108
    go_wp2_with fail
    go_ret
    exact ⟨rfl, rfl⟩
theorem f99 (x y : Bool) (w : World) : Calls Tryz.prog 109 #[.bool x, .bool y] w fun e w' => e = .returned (.bool (x || y)) ∧ w = w' := by
  cases x <;> cases y <;>
  · go_enter Tryz.func109, Tryz.ntmps109
    go_wp2_with fail
    go_ret
    exact ⟨rfl, rfl⟩
theorem f103 (x : Int) (w : World) : Calls Tryz.prog 113 #[.int .i64 x] w fun e w' => e = .returned (.bool (decide (x < 0))) ∧ w = w' := by
  go_enter Tryz.func113, Tryz.ntmps113
  go_wp2_with fail
  go_ret
  exact ⟨by simp, rfl⟩
theorem f104 (x : Int) (w : World) : Calls Tryz.prog 114 #[.int .i64 x] w fun e w' => e = .returned (.bool (decide (0 < x))) ∧ w = w' := by
  go_enter Tryz.func114, Tryz.ntmps114
  go_wp2_with fail
  go_ret
  exact ⟨by simp, rfl⟩
theorem isNaN64 (x : Int) (w : World) : Calls Tryz.prog 126 #[.int .i64 x] w fun e w' => e = .returned (.bool false) ∧ w = w' := by
  go_enter Tryz.func126, Tryz.ntmps126
  go_wp2_with fail
  go_ret
  exact ⟨by simp, rfl⟩
def cmpI (x y : Int) : Int := if x < y then -1 else if y < x then 1 else 0
theorem f108 (x y : Int) (w : World) : Calls Tryz.prog 118 #[.int .i64 x, .int .i64 y] w fun e w' => e = .returned (.int .i64 (cmpI x y)) ∧ w = w' := by
  have h1 := isNaN64 x w
  have h2 := isNaN64 y w
  have HC : Hid (cmpI x y = if x < y then -1 else if y < x then 1 else 0) := rfl
  rw [HC.out]
  clear HC
  split
  · go_enter Tryz.func118, Tryz.ntmps118
    go_wp2_with (first | (refine h1.mono ?_; rintro e w' ⟨rfl, rfl⟩) | (refine h2.mono ?_; rintro e w' ⟨rfl, rfl⟩))
    go_ret
    exact ⟨rfl, rfl⟩
  · split
    · go_enter Tryz.func118, Tryz.ntmps118
      go_wp2_with (first | (refine h1.mono ?_; rintro e w' ⟨rfl, rfl⟩) | (refine h2.mono ?_; rintro e w' ⟨rfl, rfl⟩))
      go_ret
      exact ⟨rfl, rfl⟩
    · go_enter Tryz.func118, Tryz.ntmps118
      go_wp2_with (first | (refine h1.mono ?_; rintro e w' ⟨rfl, rfl⟩) | (refine h2.mono ?_; rintro e w' ⟨rfl, rfl⟩))
      go_ret
      exact ⟨rfl, rfl⟩
theorem f109 (x y : Int) (w : World) : Calls Tryz.prog 119 #[.int .i64 x, .int .i64 y] w fun e w' => e = .returned (.int .i64 (cmpI y x)) ∧ w = w' := by
  have h1 := f108 y x w
  go_enter Tryz.func119, Tryz.ntmps119
  go_wp2_with (refine h1.mono ?_; rintro e w' ⟨rfl, rfl⟩)
  go_ret
  exact ⟨rfl, rfl⟩
end Go.Proofs.YtjcdnaandbockaaGreat

namespace Go.Proofs.YtjcdnaandbockaaGreat
open Go.RowKit Go.Shelf
attribute [local go_sem] Oper.semAt_some litZ litF0 fA_set2
set_option maxRecDepth 100000
set_option maxHeartbeats 1000000

theorem heap_alloc_keep (w : World) (A : Obj) (b : Nat) (o : Obj) (h : w.heap[b]? = some o) : (w.alloc A).heap[b]? = some o := by
  have hl : b < w.heap.size := (Array.getElem?_eq_some_iff.1 h).1
  exact (Below.heap_alloc _ _ _ hl).trans h
theorem two (w : World) (A B : Obj) : Below w.heap.size w ((w.alloc A).alloc B) ∧ ((w.alloc A).alloc B).heap[w.heap.size]? = some A ∧ ((w.alloc A).alloc B).heap[w.heap.size + 1]? = some B ∧
    ((w.alloc A).alloc B).heap.size = w.heap.size + 2 := by
  refine ⟨((Below.refl _ _).alloc (Nat.le_refl _) _).alloc (by simp) _, heap_alloc_keep _ _ _ _ (heap_alloc_new w A), ?_, by simp⟩
  have := heap_alloc_new (w.alloc A) B
  rwa [show (w.alloc A).heap.size = w.heap.size + 1 by simp] at this
theorem three (w : World) (A B C : Obj) : Below w.heap.size w (((w.alloc A).alloc B).alloc C) ∧ (((w.alloc A).alloc B).alloc C).heap[w.heap.size]? = some A ∧ (((w.alloc A).alloc B).alloc C).heap[w.heap.size + 1]? = some B ∧
    (((w.alloc A).alloc B).alloc C).heap[w.heap.size + 2]? = some C ∧ (((w.alloc A).alloc B).alloc C).heap.size = w.heap.size + 3 := by
  obtain ⟨h1, h2, h3, h4⟩ := two w A B
  refine ⟨h1.alloc (by rw [h4]; omega) _, heap_alloc_keep _ _ _ _ h2, heap_alloc_keep _ _ _ _ h3, ?_, by simp⟩
  have := heap_alloc_new ((w.alloc A).alloc B) C
  rwa [h4] at this
/-- cell j of block b -/
theorem cellR {w : World} {b : Nat} {t : TypeId} {cs : Array Value} {v : Value} (j : Nat) (h : w.heap[b]? = some (.cells cs t (0, 0))) (hj : cs[j]? = some v) : w.cell? ⟨b, j, none⟩ = some v := by rw [cell_of_row w b j _ t _ h]; exact hj
theorem put2 {w : World} {g : Nat} {a b : Value} {t : TypeId} (h : w.heap[g]? = some (.cells #[a, b] t (0, 0))) (x y : Value) : ((w.setCell ⟨g, 0, none⟩ x).setCell ⟨g, 1, none⟩ y).heap[g]? = some (.cells #[x, y] t (0, 0)) := by
  have h1 := heap_setCell_same w g 0 _ t x h
  have h2 := heap_setCell_same _ g 1 _ t y h1
  simpa using h2
theorem info54 : (Tryz.prog.info? 24).map (·.size) = some 2 := by kernel_rfl
theorem f112 {w : World} {b n : Nat} {cs : Array Value} {u v : Vl} {r : Nat} (eg : ∀ args w, (callFunc n args).run Tryz.prog w = .ok (.enter n args) w) (hh : Holds w b 130 (.func (.func n) #[] cs))
    (hc : ∀ W, Below w.heap.size w W → Calls Tryz.prog n (#[.int .u64 u.x, .int .u64 v.x] ++ cs) W fun e w' => e = .returned (.int .u64 r) ∧ Below W.heap.size W w') :
    Calls Tryz.prog 125 #[vA u, vA v, .pointer (some ⟨b, 0, none⟩)] w fun e w' => e = .returned (vA ⟨r, 0⟩) ∧ Below w.heap.size w w' := by
  obtain ⟨x, p⟩ := u
  obtain ⟨y, q⟩ := v
  unfold vA
  obtain ⟨hb, h1, h2, h3, hz⟩ := three w (.cells #[.int .u64 x, .int .i64 p] 24) (.cells #[.int .u64 y, .int .i64 q] 24) (.cells #[.int .u64 0, .int .i64 0] 24)
  have c0 := cellR 0 (hh.keep hb) rfl
  have c1 := cellR 0 h1 rfl
  have c2 := cellR 0 h2 rfl
  have HC := Lib.hid (hc _ hb)
  have HB := Lib.hid hb
  have H3 := Lib.hid h3
  have HZ := Lib.hid hz
  clear hc hh h1 h2 h3 hb hz
  go_enter Tryz.func125, Tryz.ntmps125
  go_wp2_with fail
  refine HC.out.mono ?_
  rintro e w1 ⟨rfl, hb1⟩
  have hz := HZ.out
  have HB2 := Lib.hid (HB.out.trans (hb1.mono (by rw [hz]; omega)))
  have H5 := Lib.hid (below_heapAt hb1 ⟨by rw [hz]; omega, H3.out⟩)
  clear HC HB H3 HZ hb1 c0 c1 c2 hz
  have d0 := cellR 0 H5.out rfl
  have d1 := cellR 1 H5.out rfl
  have f0 := frozen_of_row w1 _ 0 _ _ H5.out
  have f1 := frozen_of_row w1 _ 1 _ _ H5.out
  have l0 : w.heap.size + 1 + 1 < w1.heap.size := (Array.getElem?_eq_some_iff.1 H5.out).1
  go_wp2_with fail
  have hr := put2 H5.out (.int .u64 r) (.int .i64 0)
  have hb9 := (HB2.out.setCell (p := ⟨w.heap.size + 1 + 1, 0, none⟩) (by show _ ≤ _ + 1 + 1; omega) (.int .u64 r)).setCell (p := ⟨w.heap.size + 1 + 1, 1, none⟩) (by show _ ≤ _ + 1 + 1; omega) (.int .i64 0)
  refine bodyPost_ret (v := .agg #[.int .u64 r, .int .i64 0]) ?_ rfl ⟨rfl, hb9⟩
  simp [results, Act.put, run_loadVar_row _ _ 24 24 _ _ _ hr Tryz.underlying24 rfl info54, Tryz.results125, asAddr]

theorem f90 {w : World} {b n : Nat} {cs : Array Value} {x y : Nat} {r : Bool} (eg : ∀ args w, (callFunc n args).run Tryz.prog w = .ok (.enter n args) w) (hh : Holds w b 128 (.func (.func n) #[] cs))
    (hc : Calls Tryz.prog n (#[.bool ((x : Int) != 0), .bool ((y : Int) != 0)] ++ cs) w fun e w' => e = .returned (.bool r) ∧ w = w') :
    Calls Tryz.prog 100 #[.int .u64 x, .int .u64 y, .pointer (some ⟨b, 0, none⟩)] w fun e w' => e = .returned (.int .u64 ((if r = true then 1 else 0 : Nat) : Int)) ∧ w = w' := by
  have c0 := cellR 0 hh rfl
  have HC := Lib.hid hc
  clear hc hh
  cases r with
  | true =>
    go_enter Tryz.func100, Tryz.ntmps100
    go_wp2_with (refine HC.out.mono ?_; rintro e w' ⟨rfl, rfl⟩)
    go_ret
    exact ⟨rfl, rfl⟩
  | false =>
    go_enter Tryz.func100, Tryz.ntmps100
    go_wp2_with (refine HC.out.mono ?_; rintro e w' ⟨rfl, rfl⟩)
    go_ret
    exact ⟨rfl, rfl⟩
end Go.Proofs.YtjcdnaandbockaaGreat

namespace Go.Proofs.YtjcdnaandbockaaGreat
open Go.RowKit Go.Shelf
set_option maxRecDepth 100000
set_option maxHeartbeats 1000000

@[irreducible] def top : Nat := 2 ^ 2240
theorem top_eq : top = 2 ^ 2240 := by unfold top; rfl
theorem big_top : big = 18446744073709551616 * top := by
  unfold big top
  have h := Nat.pow_add 2 64 2240
  rw [show (64 + 2240 : Nat) = 2304 by decide] at h
  rw [h, show (2 : Nat) ^ 64 = 18446744073709551616 by decide]
theorem top_pos : 0 < top := by rw [top_eq]; exact Nat.two_pow_pos 2240
theorem limb35 {V : Nat} (h : V < big) : limb V 35 = V / top := by
  have := limb_top (V := V) (i := 35) (by unfold big at h; rw [show 64 * (35 + 1) = 2304 by decide]; exact h)
  rw [this, top_eq, show 64 * 35 = 2240 by decide]
theorem neg_iff {V : Nat} (h : V < big) : negN V = true ↔ 9223372036854775808 * top ≤ V := by
  unfold negN
  rw [limb35 h, decide_eq_true_iff, Nat.le_div_iff_mul_le top_pos]
theorem fit_iff {V : Nat} (h : V < big) : fitN V = true ↔ absN V < top := by
  unfold fitN
  rw [limb35 (absN_lt h), beq_iff_eq, Nat.div_eq_zero_iff]
  have := top_pos
  omega
/-- the integer that some words are, in two's complement -/
def iv (V : Nat) : Int := if 9223372036854775808 * top ≤ V then (V : Int) - big else V
theorem abs_iv {V : Nat} (h : V < big) : absN V = (iv V).natAbs := by
  have hb := big_top
  have ht := top_pos
  unfold absN iv
  by_cases hn : 9223372036854775808 * top ≤ V
  · rw [if_pos ((neg_iff h).2 hn), if_pos hn]
    unfold opp
    rw [Nat.mod_eq_of_lt (by omega)]
    omega
  · rw [if_neg (fun h' => hn ((neg_iff h).1 h')), if_neg hn]
    omega
theorem iv_lo {V : Nat} : -(9223372036854775808 * top : Nat) ≤ iv V := by
  have hb := big_top
  unfold iv
  split <;> omega
theorem iv_hi {V : Nat} (h : V < big) : iv V < (9223372036854775808 * top : Nat) := by
  have hb := big_top
  unfold iv
  split <;> omega
/-- an integer as words -/
def wv (n : Int) : Nat := (n % big).toNat
theorem wv_lt (n : Int) : wv n < big := by
  have := big_pos
  unfold wv
  have h1 := Int.emod_nonneg n (b := (big : Int)) (by omega)
  have h2 := Int.emod_lt_of_pos n (b := (big : Int)) (by omega)
  omega
theorem wv_iv {V : Nat} (h : V < big) : wv (iv V) = V := by
  unfold wv iv
  split
  · rw [Int.sub_emod_right, Int.emod_eq_of_lt (by omega) (by omega)]; rfl
  · rw [Int.emod_eq_of_lt (by omega) (by omega)]; rfl
theorem iv_wv {n : Int} (h1 : -(9223372036854775808 * top : Nat) ≤ n) (h2 : n < (9223372036854775808 * top : Nat)) : iv (wv n) = n := by
  have hb := big_top
  have ht := top_pos
  unfold wv
  rcases Int.lt_or_le n 0 with h | h
  · have e : n % (big : Int) = n + big := by
      rw [← Int.add_emod_right, Int.emod_eq_of_lt (by omega) (by omega)]
    rw [e]
    unfold iv
    rw [if_pos (by omega)]
    omega
  · rw [Int.emod_eq_of_lt h (by omega)]
    unfold iv
    rw [if_neg (by omega)]
    omega
theorem wv_add (m n : Int) : (wv m + wv n) % big = wv (m + n) := by
  have := big_pos
  unfold wv
  have h1 := Int.emod_nonneg m (b := (big : Int)) (by omega)
  have h2 := Int.emod_nonneg n (b := (big : Int)) (by omega)
  have h3 := Int.emod_nonneg (m + n) (b := (big : Int)) (by omega)
  have e : ((((m % big).toNat + (n % big).toNat) % big : Nat) : Int) = (m + n) % big := by
    rw [Int.natCast_emod, Int.natCast_add, Int.toNat_of_nonneg h1, Int.toNat_of_nonneg h2, ← Int.add_emod]
  omega
theorem add_wv {V W : Nat} (hV : V < big) (hW : W < big) : (V + W) % big = wv (iv V + iv W) := by
  have := wv_add (iv V) (iv W)
  rwa [wv_iv hV, wv_iv hW] at this
theorem iv_add {V W : Nat} (hV : V < big) (hW : W < big) (h1 : -(9223372036854775808 * top : Nat) ≤ iv V + iv W) (h2 : iv V + iv W < (9223372036854775808 * top : Nat)) : iv ((V + W) % big) = iv V + iv W := by
  rw [add_wv hV hW, iv_wv h1 h2]
/-- the greatest number of a list's element -/
@[irreducible] def mid : Nat := 2 ^ 2098
theorem mid_pos : 0 < mid := by unfold mid; exact Nat.two_pow_pos 2098
theorem mid_top : mid * 9223372036854775808 ≤ top := by
  have h := Nat.pow_add 2 2098 63
  rw [show (2098 + 63 : Nat) = 2161 by decide] at h
  have h2 := pow2_le 2161 2240 (by decide)
  rw [h] at h2
  unfold mid top
  rw [show (9223372036854775808 : Nat) = 2 ^ 63 by decide]
  exact h2
theorem mid_le {m : Nat} (h : m < mid) : m < top := Nat.lt_of_lt_of_le (Nat.lt_of_lt_of_le h (Nat.le_mul_of_pos_right _ (by decide))) mid_top
theorem mag_mid (x : Nat) (h : expN x < 2047) : digN x * 2 ^ shN x < mid := by
  have h1 := digN_lt x
  have h2 := shN_le h
  have h3 : digN x * 2 ^ shN x < 2 ^ 53 * 2 ^ shN x := Nat.mul_lt_mul_of_pos_right (by simpa using h1) (Nat.two_pow_pos _)
  rw [← Nat.pow_add] at h3
  unfold mid
  exact Nat.lt_of_lt_of_le h3 (pow2_le (53 + shN x) 2098 (by omega))
/-- a finite number times 2^1074 -/
def exI (x : Nat) : Int := if 9223372036854775808 ≤ x then -(digN x * 2 ^ shN x : Nat) else (digN x * 2 ^ shN x : Nat)
theorem iv_opp {m : Nat} (h1 : m < mid) : iv (opp m) = -(m : Int) := by
  have h2 := mid_le h1
  clear h1
  have hb := big_top
  have ht := top_pos
  have hp := big_pos
  unfold opp iv
  by_cases h0 : m = 0
  · subst h0
    rw [Nat.sub_zero, Nat.mod_self, if_neg (by omega)]
    rfl
  · have e : (big - m) % big = big - m := Nat.mod_eq_of_lt (Nat.sub_lt hp (Nat.pos_of_ne_zero h0))
    rw [e]
    clear e
    have h4 : m ≤ big := by omega
    have h3 : 9223372036854775808 * top ≤ big - m := by omega
    rw [if_pos h3]
    clear h3
    omega
theorem iv_small {m : Nat} (h1 : m < mid) : iv m = m := by
  have h2 := mid_le h1
  clear h1
  have ht := top_pos
  unfold iv
  rw [if_neg (by omega)]
theorem exact_iv (x : Nat) (h : expN x < 2047) : iv (exactN x) = exI x := by
  have h1 := mag_mid x h
  unfold exactN exI
  split
  · exact iv_opp h1
  · exact iv_small h1
theorem exI_abs (x : Nat) (h : expN x < 2047) : (exI x).natAbs < mid := by
  have h1 := mag_mid x h
  unfold exI
  split <;> omega
theorem iv_zero : iv 0 = 0 := by
  have ht := top_pos
  unfold iv
  rw [if_neg (by omega)]
  rfl
end Go.Proofs.YtjcdnaandbockaaGreat

namespace Go.Proofs.YtjcdnaandbockaaGreat
open Go.RowKit Go.Shelf
attribute [local go_sem] Oper.semAt_some litZ litF0 fA_set2
set_option maxRecDepth 100000
set_option maxHeartbeats 1000000

theorem factsN_abs {x : Nat} (hx : x < 18446744073709551616) : (iv (factsN x).V).natAbs < mid := by
  have hm := mid_pos
  unfold factsN
  split
  · simpa [iv_zero] using hm
  · rename_i hN
    split
    · simpa [iv_zero] using hm
    · split
      · simpa [iv_zero] using hm
      · split
        · simpa [iv_zero] using hm
        · rename_i h1 h2 h3
          have he : expN x < 2047 := by
            unfold nanB at hN
            simp at hN
            unfold expN
            omega
          show (iv (exactN x)).natAbs < mid
          rw [exact_iv x he]
          exact exI_abs x he
theorem join2_abs {x y : Nat} (hx : x < 18446744073709551616) (hy : y < 18446744073709551616) : absN (((factsN x).V + (factsN y).V) % big) < 2 ^ 2240 := by
  have h1 := factsN_abs hx
  have h2 := factsN_abs hy
  have h3 := (factsN_ok hx).V
  have h4 := (factsN_ok hy).V
  have hm := mid_le (Nat.sub_lt mid_pos (show 0 < 1 by decide))
  have hmt : 4 * mid ≤ top := Nat.le_trans (by omega) mid_top
  rw [abs_iv (Nat.mod_lt _ big_pos), iv_add h3 h4 (by omega) (by omega), ← top_eq]
  omega
theorem f102 (x y : Nat) (hx : x < 18446744073709551616) (hy : y < 18446744073709551616) (w : World) : Calls Tryz.prog 112 #[.int .u64 x, .int .u64 y] w fun e w' => e = .returned (.int .u64 (valueN (joinF (factsN x) (factsN y)) : Nat)) ∧ Below w.heap.size w w' := by
  have HJ := Lib.hid (join2_abs hx hy)
  go_enter Tryz.func112, Tryz.ntmps112
  go_wp2_with fail
  refine (factsOf_any x hx _).mono ?_
  rintro e w1 ⟨rfl, hb1⟩
  have h4 := Lib.hid (heap_alloc_new w1 (.cells (fA ⟨0, 0, 0⟩) 87))
  have HB := Lib.hid ((hb1.alloc hb1.size (.cells (fA ⟨0, 0, 0⟩) 87)).trans (below_setRow hb1.size (fA (factsN x))))
  have H5 := Lib.hid (show FAt _ _ _ from setRow_heap _ w1.heap.size _ (fA (factsN x)) 87 _ h4.out)
  have hs1 := hb1.size
  clear hb1
  go_wp2_with (refine wpList_store_row rfl 87 _ _ rfl w1.heap.size (fA (factsN x)) rfl rfl 87 _ h4.out (info40' _) (by simp) (fA_one _) ?_)
  clear h4
  generalize (w1.alloc (.cells (fA ⟨0, 0, 0⟩) 87)).setRow w1.heap.size (fA (factsN x)) = w2 at *
  refine (factsOf_any y hy _).mono ?_
  rintro e w3 ⟨rfl, hb3⟩
  have H6 := Lib.hid (show FAt _ _ _ from below_heapAt hb3 ⟨H5.out.lt, H5.out⟩)
  have HB3 := Lib.hid (HB.out.trans (hb3.mono HB.out.size))
  clear H5 HB hb3
  go_wp2_with fail
  refine (join_any H6.out (factsN_ok hx) (factsN_ok hy)).mono ?_
  rintro e w4 ⟨rfl, h4, hs4⟩
  have HB4 := Lib.hid (HB3.out.trans (hs4.below hs1 HB3.out.size))
  clear H6 HB3 hs4
  go_wp2_with fail
  refine (value_any h4.fin (joinF_ok (factsN_ok hx) (factsN_ok hy)).saw (joinF_ok (factsN_ok hx) (factsN_ok hy)).V HJ.out).mono ?_
  rintro e w5 ⟨rfl, hb5⟩
  have hb6 := HB4.out.trans (hb5.mono HB4.out.size)
  clear HB4 hb5 h4 HJ
  go_wp2_with fail
  go_ret
  exact ⟨rfl, hb6⟩
/-- the lesser or greater one of two real numbers, NaN if one is -/
def pickN (first : Int → Bool) (x y : Nat) : Nat := if (nanB x || nanB y) = true then 9221120237041090560 else if first (cmpN (levelN x) (levelN y)) = true then x else y
theorem f101_103 {w : World} {b : Nat} {x y : Nat} (hx : x < 18446744073709551616) (hy : y < 18446744073709551616) (hh : Holds w b 127 (.func (.func 113) #[] #[])) :
    Calls Tryz.prog 111 #[.int .u64 x, .int .u64 y, .pointer (some ⟨b, 0, none⟩)] w fun e w' => e = .returned (.int .u64 (pickN (fun i => decide (i < 0)) x y : Nat)) ∧ Below w.heap.size w w' := by
  have c0 := cellR 0 hh rfl
  have h1 := isNaN_any x hx
  have h2 := isNaN_any y hy
  have h3 := Compare_any x y hx hy
  have h4 := f103 (cmpN (levelN x) (levelN y))
  have HP : Hid (pickN (fun i => decide (i < 0)) x y = if (nanB x || nanB y) = true then 9221120237041090560 else if (fun i => decide (i < 0)) (cmpN (levelN x) (levelN y)) = true then x else y) := rfl
  obtain ⟨c, hc⟩ : ∃ c, c = cmpN (levelN x) (levelN y) := ⟨_, rfl⟩
  rw [← hc] at HP h3 h4
  clear hc
  cases hX : nanB x with
  | true =>
    rw [hX] at h1 HP
    go_enter Tryz.func111, Tryz.ntmps111
    go_wp2_with fail
    refine (h1 _).mono ?_
    rintro e w' ⟨rfl, rfl⟩
    go_wp2_with fail
    go_ret
    exact ⟨by rw [HP.out]; rfl, Below.refl _ _⟩
  | false =>
    cases hY : nanB y with
    | true =>
      rw [hX] at h1 HP
      rw [hY] at h2 HP
      go_enter Tryz.func111, Tryz.ntmps111
      go_wp2_with fail
      refine (h1 _).mono ?_
      rintro e w' ⟨rfl, rfl⟩
      go_wp2_with fail
      refine (h2 _).mono ?_
      rintro e w' ⟨rfl, rfl⟩
      go_wp2_with fail
      go_ret
      exact ⟨by rw [HP.out]; rfl, Below.refl _ _⟩
    | false =>
      rw [hX] at h1 HP
      rw [hY] at h2 HP
      have HP2 : Hid (pickN (fun i => decide (i < 0)) x y = if (fun i => decide (i < 0)) c = true then x else y) := HP.out
      clear HP
      cases hF : decide (c < 0) with
      | true =>
        rw [hF] at h4
        have HP3 : Hid (pickN (fun i => decide (i < 0)) x y = x) := by have := HP2.out; simp only [hF, if_true] at this; exact this
        rw [HP3.out]
        clear HP2 HP3 hF
        go_enter Tryz.func111, Tryz.ntmps111
        go_wp2_with fail
        refine (h1 _).mono ?_
        rintro e w' ⟨rfl, rfl⟩
        go_wp2_with fail
        refine (h2 _).mono ?_
        rintro e w' ⟨rfl, rfl⟩
        go_wp2_with fail
        clear h1 h2
        have h3' : ∀ n, Calls Tryz.prog 10 #[.int .u64 x, .int .u64 y] (w.drewN n) fun e w' => e = .returned (.int .i64 c) ∧ w' = w.drewN n := fun n => (h3 _).mono fun _ _ ⟨h1, h2⟩ => ⟨h1, h2.symm⟩
        have h4' : ∀ n, Calls Tryz.prog 113 #[.int .i64 c] (w.drewN n) fun e w' => e = .returned (.bool true) ∧ w' = w.drewN n := fun n => (h4 _).mono fun _ _ ⟨h1, h2⟩ => ⟨h1, h2.symm⟩
        go_quiet (first | (go_at_call 10; refine Calls.quiet_of_same (h3' _)) | (go_at_call 113; refine Calls.quiet_of_same (h4' _)))
        go_wp2_with fail
        go_ret
        exact ⟨rfl, below_drewN (Below.refl _ _) _⟩
      | false =>
        rw [hF] at h4
        have HP3 : Hid (pickN (fun i => decide (i < 0)) x y = y) := by have := HP2.out; simp only [hF, Bool.false_eq_true, if_false] at this; exact this
        rw [HP3.out]
        clear HP2 HP3 hF
        go_enter Tryz.func111, Tryz.ntmps111
        go_wp2_with fail
        refine (h1 _).mono ?_
        rintro e w' ⟨rfl, rfl⟩
        go_wp2_with fail
        refine (h2 _).mono ?_
        rintro e w' ⟨rfl, rfl⟩
        go_wp2_with fail
        clear h1 h2
        have h3' : ∀ n, Calls Tryz.prog 10 #[.int .u64 x, .int .u64 y] (w.drewN n) fun e w' => e = .returned (.int .i64 c) ∧ w' = w.drewN n := fun n => (h3 _).mono fun _ _ ⟨h1, h2⟩ => ⟨h1, h2.symm⟩
        have h4' : ∀ n, Calls Tryz.prog 113 #[.int .i64 c] (w.drewN n) fun e w' => e = .returned (.bool false) ∧ w' = w.drewN n := fun n => (h4 _).mono fun _ _ ⟨h1, h2⟩ => ⟨h1, h2.symm⟩
        go_quiet (first | (go_at_call 10; refine Calls.quiet_of_same (h3' _)) | (go_at_call 113; refine Calls.quiet_of_same (h4' _)))
        go_wp2_with fail
        go_ret
        exact ⟨rfl, below_drewN (Below.refl _ _) _⟩
theorem f101_104 {w : World} {b : Nat} {x y : Nat} (hx : x < 18446744073709551616) (hy : y < 18446744073709551616) (hh : Holds w b 127 (.func (.func 114) #[] #[])) :
    Calls Tryz.prog 111 #[.int .u64 x, .int .u64 y, .pointer (some ⟨b, 0, none⟩)] w fun e w' => e = .returned (.int .u64 (pickN (fun i => decide (0 < i)) x y : Nat)) ∧ Below w.heap.size w w' := by
  have c0 := cellR 0 hh rfl
  have h1 := isNaN_any x hx
  have h2 := isNaN_any y hy
  have h3 := Compare_any x y hx hy
  have h4 := f104 (cmpN (levelN x) (levelN y))
  have HP : Hid (pickN (fun i => decide (0 < i)) x y = if (nanB x || nanB y) = true then 9221120237041090560 else if (fun i => decide (0 < i)) (cmpN (levelN x) (levelN y)) = true then x else y) := rfl
  obtain ⟨c, hc⟩ : ∃ c, c = cmpN (levelN x) (levelN y) := ⟨_, rfl⟩
  rw [← hc] at HP h3 h4
  clear hc
  cases hX : nanB x with
  | true =>
    rw [hX] at h1 HP
    go_enter Tryz.func111, Tryz.ntmps111
    go_wp2_with fail
    refine (h1 _).mono ?_
    rintro e w' ⟨rfl, rfl⟩
    go_wp2_with fail
    go_ret
    exact ⟨by rw [HP.out]; rfl, Below.refl _ _⟩
  | false =>
    cases hY : nanB y with
    | true =>
      rw [hX] at h1 HP
      rw [hY] at h2 HP
      go_enter Tryz.func111, Tryz.ntmps111
      go_wp2_with fail
      refine (h1 _).mono ?_
      rintro e w' ⟨rfl, rfl⟩
      go_wp2_with fail
      refine (h2 _).mono ?_
      rintro e w' ⟨rfl, rfl⟩
      go_wp2_with fail
      go_ret
      exact ⟨by rw [HP.out]; rfl, Below.refl _ _⟩
    | false =>
      rw [hX] at h1 HP
      rw [hY] at h2 HP
      have HP2 : Hid (pickN (fun i => decide (0 < i)) x y = if (fun i => decide (0 < i)) c = true then x else y) := HP.out
      clear HP
      cases hF : decide (0 < c) with
      | true =>
        rw [hF] at h4
        have HP3 : Hid (pickN (fun i => decide (0 < i)) x y = x) := by have := HP2.out; simp only [hF, if_true] at this; exact this
        rw [HP3.out]
        clear HP2 HP3 hF
        go_enter Tryz.func111, Tryz.ntmps111
        go_wp2_with fail
        refine (h1 _).mono ?_
        rintro e w' ⟨rfl, rfl⟩
        go_wp2_with fail
        refine (h2 _).mono ?_
        rintro e w' ⟨rfl, rfl⟩
        go_wp2_with fail
        clear h1 h2
        have h3' : ∀ n, Calls Tryz.prog 10 #[.int .u64 x, .int .u64 y] (w.drewN n) fun e w' => e = .returned (.int .i64 c) ∧ w' = w.drewN n := fun n => (h3 _).mono fun _ _ ⟨h1, h2⟩ => ⟨h1, h2.symm⟩
        have h4' : ∀ n, Calls Tryz.prog 114 #[.int .i64 c] (w.drewN n) fun e w' => e = .returned (.bool true) ∧ w' = w.drewN n := fun n => (h4 _).mono fun _ _ ⟨h1, h2⟩ => ⟨h1, h2.symm⟩
        go_quiet (first | (go_at_call 10; refine Calls.quiet_of_same (h3' _)) | (go_at_call 114; refine Calls.quiet_of_same (h4' _)))
        go_wp2_with fail
        go_ret
        exact ⟨rfl, below_drewN (Below.refl _ _) _⟩
      | false =>
        rw [hF] at h4
        have HP3 : Hid (pickN (fun i => decide (0 < i)) x y = y) := by have := HP2.out; simp only [hF, Bool.false_eq_true, if_false] at this; exact this
        rw [HP3.out]
        clear HP2 HP3 hF
        go_enter Tryz.func111, Tryz.ntmps111
        go_wp2_with fail
        refine (h1 _).mono ?_
        rintro e w' ⟨rfl, rfl⟩
        go_wp2_with fail
        refine (h2 _).mono ?_
        rintro e w' ⟨rfl, rfl⟩
        go_wp2_with fail
        clear h1 h2
        have h3' : ∀ n, Calls Tryz.prog 10 #[.int .u64 x, .int .u64 y] (w.drewN n) fun e w' => e = .returned (.int .i64 c) ∧ w' = w.drewN n := fun n => (h3 _).mono fun _ _ ⟨h1, h2⟩ => ⟨h1, h2.symm⟩
        have h4' : ∀ n, Calls Tryz.prog 114 #[.int .i64 c] (w.drewN n) fun e w' => e = .returned (.bool false) ∧ w' = w.drewN n := fun n => (h4 _).mono fun _ _ ⟨h1, h2⟩ => ⟨h1, h2.symm⟩
        go_quiet (first | (go_at_call 10; refine Calls.quiet_of_same (h3' _)) | (go_at_call 114; refine Calls.quiet_of_same (h4' _)))
        go_wp2_with fail
        go_ret
        exact ⟨rfl, below_drewN (Below.refl _ _) _⟩
end Go.Proofs.YtjcdnaandbockaaGreat

namespace Go.Proofs.YtjcdnaandbockaaGreat
open Go.RowKit Go.Shelf
attribute [local go_sem] Oper.semAt_some
set_option maxRecDepth 100000
set_option maxHeartbeats 1000000

def orI (a c : Int) : Int := if a = 0 then c else a
theorem f107 {w : World} {g : Nat} {t : TypeId} {a c : Int} (h : w.heap[g]? = some (.cells #[.int .i64 a, .int .i64 c] t (0, 0))) :
    Calls Tryz.prog 117 #[.slice (some ⟨g, 0, none⟩) 2 2] w fun e w' => e = .returned (.int .i64 (orI a c)) ∧ w = w' := by
  have c0 := cellR 0 h rfl
  have c1 := cellR 1 h rfl
  have HO : Hid (orI a c = if a = 0 then c else a) := rfl
  go_enter Tryz.func117, Tryz.ntmps117
  go_wp2_with fail
  go_loop [8] (fun i => i = .int .i64 0 ∨ (i = .int .i64 1 ∧ Hid (a = 0)) ∨ (i = .int .i64 2 ∧ Hid (a = 0) ∧ Hid (c = 0))) (fun i => 2 - (intOf i).toNat)
  case atStart => exact .inl rfl
  case round =>
    rcases hrel with rfl | ⟨rfl, HA⟩ | ⟨rfl, HA, HC⟩
    · by_cases ha : a = 0
      · have HA : Hid (a = 0) := ha
        rw [ha] at c0
        go_wp2_with fail
        go_round
        case rel => exact .inr (.inl ⟨rfl, HA⟩)
        case measure => simp [intOf]
      · have HA : Hid (orI a c = a) := by rw [HO.out, if_neg ha]; rfl
        go_wp2_with fail
        go_ret
        exact ⟨by rw [HA.out]; rfl, rfl⟩
    · by_cases hc : c = 0
      · have HC : Hid (c = 0) := hc
        rw [hc] at c1
        go_wp2_with fail
        go_round
        case rel => exact .inr (.inr ⟨rfl, HA, HC⟩)
        case measure => simp [intOf]
      · have HB : Hid (orI a c = c) := by rw [HO.out, if_pos HA.out]; rfl
        go_wp2_with fail
        go_ret
        exact ⟨by rw [HB.out]; rfl, rfl⟩
    · have HB : Hid (orI a c = 0) := by rw [HO.out, if_pos HA.out, HC.out]; rfl
      go_wp2_with fail
      go_ret
      exact ⟨by rw [HB.out]; rfl, rfl⟩
end Go.Proofs.YtjcdnaandbockaaGreat
