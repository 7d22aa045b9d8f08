import Derived.Test.YtjcdnaandbockaaGreatGj
namespace Go.Proofs.YtjcdnaandbockaaGreat
open Go.RowKit Go.Shelf
set_option maxRecDepth 100000
set_option maxHeartbeats 1000000

def v0 (x : Nat) : Vl := ⟨x, 0⟩
def exA : List Vl := [v0 4877398396442247168, v0 4607182418800017408, v0 14100770433297022976]
def exB : List Vl := [v0 4591870180066957722, v0 4591870180066957722, v0 4591870180066957722, v0 4591870180066957722, v0 4591870180066957722, v0 4591870180066957722, v0 4591870180066957722, v0 4591870180066957722, v0 4591870180066957722, v0 4591870180066957722]
def exC : List Vl := [v0 9218868437227405312, v0 18442240474082181120]
theorem evA : valueN (foldF exA) = 4607182418800017408 := by kernel_rfl
theorem evB : valueN (foldF exB) = 4607182418800017408 := by kernel_rfl
theorem evC : valueN (foldF exC) = 9221120237041090560 := by kernel_rfl
theorem evA1 : redE 1 2 exA = 0 ∧ redE 1 2 exB = 0 ∧ redE 1 2 exC = 0 := ⟨by kernel_rfl, by kernel_rfl, by kernel_rfl⟩
theorem evF : findE 2 2 = 13 ∧ findE 10 3 = 0 ∧ findE 0 1 = 2 := by decide
theorem evD : doE 11 3 ⟨7, 3⟩ ⟨7, 1⟩ = 0 ∧ doV 11 3 ⟨7, 3⟩ ⟨7, 1⟩ = ⟨7, 1⟩ := ⟨by kernel_rfl, by kernel_rfl⟩
theorem evS : scanE 1 1 [v0 1, v0 2, v0 3] = 0 ∧ scanV 1 1 [v0 1, v0 2, v0 3] = [v0 1, v0 3, v0 6] := ⟨by kernel_rfl, by kernel_rfl⟩
theorem evd : decOk [16, 0, 1] := ⟨by kernel_rfl, by kernel_rfl⟩
theorem evd0 : ¬ decOk [0, 0, 0] := fun h => by
  have h2 := h.2
  rw [show encN (decN [0, 0, 0]) = [0, 0] by kernel_rfl] at h2
  exact absurd h2 (by decide)
theorem evv : valueN (decN [16, 0, 1]) = 1 := by kernel_rfl
theorem eva : resE (decN [16, 0, 1]) (factsN 9223372036854776065) = 0 := by kernel_rfl
theorem eve : encN (resF (decN [16, 0, 1]) (factsN 9223372036854776065)) = [16, 1, 1, 0] := by kernel_rfl
theorem evc : cmpN (levelN 9223372036854775808) (levelN 0) = -1 := by decide
end Go.Proofs.YtjcdnaandbockaaGreat

namespace Go.Proofs.YtjcdnaandbockaaGreat
open Go.RowKit Go.Shelf
set_option maxRecDepth 100000
set_option maxHeartbeats 1000000

theorem realsE {W : World} {g : Nat} (U : List Nat) (n : Nat) (hn : U.length = n) (h : URow W g U) (hs : ∀ x ∈ U, x < 18446744073709551616) (hl : n ≤ 1000) :
    Calls Tryz.prog 41 #[.slice (some ⟨g, 0, none⟩) n n] W fun e w' => ∃ a cap, e = .returned (.slice a n cap) ∧ Vls w' a (U.map v0) ∧ Below W.heap.size W w' := by
  subst hn
  refine (reals_any h (by omega)).mono ?_
  rintro e w' ⟨v, rfl, hv, hb⟩
  obtain ⟨a, cap, rfl, h2⟩ := hv.vls (fun u hu => by obtain ⟨x, hx, rfl⟩ := List.mem_map.1 hu; exact ok0 (hs x hx))
  exact ⟨a, cap, by rw [List.length_map], h2, hb⟩
theorem red_of {W : World} {a : Option Addr} {l : List Vl} (r : Nat) (n : Nat) (hn : l.length = n) (h : Vls W a l) (hE : redE 1 2 l = 0) (hr : valueN (foldF l) = r) (cap : Nat) :
    Calls Tryz.prog 16 #[.int .i64 1, .int .i64 2, .slice a n cap] W fun e w' => e = .returned (.tuple #[.agg #[.int .u64 r, .int .i64 0], .int .i64 0]) ∧ Below W.heap.size W w' := by
  subst hn
  refine (Reduce_any 1 2 h cap).mono ?_
  rintro e w' ⟨rfl, hb⟩
  refine ⟨?_, hb⟩
  rw [hE]
  unfold redV accV
  rw [if_pos hE, if_pos ⟨rfl, rfl⟩, hr]
  rfl
theorem redA {W : World} {a : Option Addr} (h : Vls W a exA) (cap : Nat) : Calls Tryz.prog 16 #[.int .i64 1, .int .i64 2, .slice a 3 cap] W fun e w' => e = .returned (.tuple #[.agg #[.int .u64 4607182418800017408, .int .i64 0], .int .i64 0]) ∧ Below W.heap.size W w' := red_of 4607182418800017408 3 rfl h evA1.1 evA cap
theorem redB {W : World} {a : Option Addr} (h : Vls W a exB) (cap : Nat) : Calls Tryz.prog 16 #[.int .i64 1, .int .i64 2, .slice a 10 cap] W fun e w' => e = .returned (.tuple #[.agg #[.int .u64 4607182418800017408, .int .i64 0], .int .i64 0]) ∧ Below W.heap.size W w' := red_of 4607182418800017408 10 rfl h evA1.2.1 evB cap
theorem redC {W : World} {a : Option Addr} (h : Vls W a exC) (cap : Nat) : Calls Tryz.prog 16 #[.int .i64 1, .int .i64 2, .slice a 2 cap] W fun e w' => e = .returned (.tuple #[.agg #[.int .u64 9221120237041090560, .int .i64 0], .int .i64 0]) ∧ Below W.heap.size W w' := red_of 9221120237041090560 2 rfl h evA1.2.2 evC cap
theorem chk1 (W : World) : Calls Tryz.prog 8 #[.int .i64 2, .int .i64 2] W fun e w' => e = .returned (.int .i64 13) ∧ Below W.heap.size W w' := by have := Check_any 2 2 W; rwa [evF.1] at this
theorem chk2 (W : World) : Calls Tryz.prog 8 #[.int .i64 10, .int .i64 3] W fun e w' => e = .returned (.int .i64 0) ∧ Below W.heap.size W w' := by have := Check_any 10 3 W; rwa [evF.2.1] at this
theorem chk3 (W : World) : Calls Tryz.prog 8 #[.int .i64 0, .int .i64 1] W fun e w' => e = .returned (.int .i64 2) ∧ Below W.heap.size W w' := by have := Check_any 0 1 W; rwa [evF.2.2] at this
theorem doX (W : World) : Calls Tryz.prog 6 #[.int .i64 11, .int .i64 3, .agg #[.int .u64 7, .int .i64 3], .agg #[.int .u64 7, .int .i64 1]] W fun e w' => e = .returned (.tuple #[.agg #[.int .u64 7, .int .i64 1], .int .i64 0]) ∧ Below W.heap.size W w' := by
  have := Do_any 11 3 ⟨7, 3⟩ ⟨7, 1⟩ ⟨by decide, by decide, by decide⟩ ⟨by decide, by decide, by decide⟩ W
  rw [evD.1, evD.2] at this
  exact this
theorem scanX {W : World} {a : Option Addr} (h : Vls W a [v0 1, v0 2, v0 3]) (cap : Nat) : Calls Tryz.prog 18 #[.int .i64 1, .int .i64 1, .slice a 3 cap] W fun e w' => ∃ g, e = .returned (.tuple #[.slice (some ⟨g, 0, none⟩) 3 3, .int .i64 0]) ∧ Vls w' (some ⟨g, 0, none⟩) [v0 1, v0 3, v0 6] ∧ Below W.heap.size W w' := by
  refine (Scan_any 1 1 h (by decide) cap).mono ?_
  rintro e w' ⟨⟨h0, _⟩ | ⟨_, g, _, rfl, hr⟩, hb⟩
  · exact absurd evS.1 h0
  · rw [evS.2] at hr
    refine ⟨g, rfl, hr.vls (by decide) ?_, hb⟩
    intro u hu
    simp at hu
    rcases hu with rfl | rfl | rfl <;> exact ok0 (by decide)
theorem dec1 {W : World} {g : Nat} (h : Bs W (some ⟨g, 0, none⟩) [16, 0, 1]) : Calls Tryz.prog 29 #[.slice (some ⟨g, 0, none⟩) 3 3] W fun e w' => ∃ b, e = .returned (.tuple #[.pointer (some ⟨b, 0, none⟩), .int .i64 0]) ∧ W.heap.size ≤ b ∧ AAt w' b (decN [16, 0, 1]) ∧ Below W.heap.size W w' := by
  refine (Decode_any h (by decide) (by decide) 3 (by decide)).mono ?_
  rintro e w' ⟨hb, h1⟩
  rw [if_pos evd] at h1
  obtain ⟨b, h2, h3, h4⟩ := h1
  exact ⟨b, h2, h3, h4, hb⟩
theorem dec0 {W : World} {g : Nat} (h : Bs W (some ⟨g, 0, none⟩) [0, 0, 0]) : Calls Tryz.prog 29 #[.slice (some ⟨g, 0, none⟩) 3 3] W fun e w' => e = .returned (.tuple #[.pointer none, .int .i64 7]) ∧ Below W.heap.size W w' := by
  refine (Decode_any h (by decide) (by decide) 3 (by decide)).mono ?_
  rintro e w' ⟨hb, h1⟩
  rw [if_neg evd0] at h1
  exact ⟨h1, hb⟩
theorem decF : (decN [16, 0, 1]).Ok := ⟨decN_big (by decide) (by decide), by rw [show (decN [16, 0, 1]).saw = 0 by kernel_rfl]; decide, by rw [show (decN [16, 0, 1]).zero = 2 by kernel_rfl]; decide⟩
theorem val1 {W : World} {b : Nat} (h : AAt W b (decN [16, 0, 1])) : Calls Tryz.prog 30 #[.pointer (some ⟨b, 0, none⟩)] W fun e w' => e = .returned (.int .u64 1) ∧ Below W.heap.size W w' := by
  have := Value_any h decF.saw decF.V (by rw [← top_eq]; exact (fit_iff decF.V).1 (by kernel_rfl))
  rw [evv] at this
  exact this
theorem add1 {W : World} {b : Nat} (h : AAt W b (decN [16, 0, 1])) : Calls Tryz.prog 21 #[.pointer (some ⟨b, 0, none⟩), .int .u64 9223372036854776065] W fun e w' => e = .returned (.int .i64 0) ∧ AAt w' b (resF (decN [16, 0, 1]) (factsN 9223372036854776065)) ∧ Sole b W w' := by
  have := Add_any h decF 9223372036854776065 (by decide)
  rw [eva] at this
  exact this
theorem resFok : (resF (decN [16, 0, 1]) (factsN 9223372036854776065)).Ok := resF_ok decF (factsN_ok (by decide))
theorem enc1 {W : World} {b : Nat} (h : AAt W b (resF (decN [16, 0, 1]) (factsN 9223372036854776065))) : Calls Tryz.prog 27 #[.pointer (some ⟨b, 0, none⟩)] W fun e w' => ∃ a cap, e = .returned (.tuple #[.slice a 4 cap, .int .i64 0]) ∧ Bs w' a [16, 1, 1, 0] ∧ Below W.heap.size W w' := by
  refine (Encode_any h resFok.saw (Nat.lt_of_le_of_lt resFok.zero (by decide)) resFok.V).mono ?_
  rintro e w' ⟨v, rfl, hv, hb⟩
  rw [eve] at hv
  obtain ⟨a, cap, rfl, h2⟩ := hv.bs (by simp) (by decide)
  exact ⟨a, cap, rfl, h2, hb⟩
theorem cmp1 (W : World) : Calls Tryz.prog 10 #[.int .u64 9223372036854775808, .int .u64 0] W fun e w' => e = .returned (.int .i64 (-1)) ∧ W = w' := by
  have := Compare_any 9223372036854775808 0 (by decide) (by decide) W
  rw [evc] at this
  exact this
theorem bs_lit {W : World} {g : Nat} {l : List Nat} (h : W.heap[g]? = some (.cells (bvals l).toArray 5 (0, 0))) (hs : ∀ x ∈ l, x < 256) (hl : l.length ≤ 17592186044416) : Bs W (some ⟨g, 0, none⟩) l :=
  ⟨hl, hs, fun _ => ⟨g, 0, rfl, fun j hj => by rw [Nat.zero_add]; exact cellR j h (by simp [bvals, hj])⟩⟩
end Go.Proofs.YtjcdnaandbockaaGreat

namespace Go.Proofs.YtjcdnaandbockaaGreat
open Go.RowKit Go.Shelf
attribute [local go_sem] Oper.semAt_some
set_option maxRecDepth 100000
set_option maxHeartbeats 2000000

theorem works_any (w : World) : Calls Tryz.prog 12 #[] w fun e w' => e = .returned (.bool true) ∧ Below w.heap.size w w' := by
  have hor : bits .or .u64 4877398396442247168 9223372036854775808 = 14100770433297022976 := b_orsign 4877398396442247168 (by decide)
  have u1 : URow (w.alloc (.cells #[.int .u64 4877398396442247168, .int .u64 4607182418800017408, .int .u64 14100770433297022976] 22)) w.heap.size [4877398396442247168, 4607182418800017408, 14100770433297022976] := heap_alloc_new w (.cells #[.int .u64 4877398396442247168, .int .u64 4607182418800017408, .int .u64 14100770433297022976] 22)
  have HB0 := Lib.hid ((Below.refl w.heap.size w).alloc (Nat.le_refl _) (.cells #[.int .u64 4877398396442247168, .int .u64 4607182418800017408, .int .u64 14100770433297022976] 22))
  have HC := Lib.hid (realsE [4877398396442247168, 4607182418800017408, 14100770433297022976] 3 rfl u1 (by decide) (by decide))
  clear u1
  go_enter Tryz.func12, Tryz.ntmps12
  go_wp2_with fail
  refine HC.out.mono ?_
  rintro e w1 ⟨a, cap, rfl, hv, hb⟩
  have HB1 := Lib.hid (HB0.out.trans (hb.mono HB0.out.size))
  clear HC HB0 hb
  have HC := Lib.hid (redA hv cap)
  clear hv
  go_wp2_with fail
  refine HC.out.mono ?_
  rintro e w2 ⟨rfl, hb⟩
  have HB2 := Lib.hid (HB1.out.trans (hb.mono HB1.out.size))
  clear HC HB1 hb
  have hb9 := (Below.refl (w2).heap.size (w2)).alloc (Nat.le_refl _) (.cells #[.int .u64 4607182418800017408, .int .i64 0] 24)
  have hn9 := Lib.hid (heap_alloc_new (w2) (.cells #[.int .u64 4607182418800017408, .int .i64 0] 24))
  have n0 := hn9
  have HB3 := Lib.hid (HB2.out.trans (hb9.mono HB2.out.size))
  clear hb9 hn9 HB2
  have hb9 := (Below.refl ((w2).alloc (.cells #[.int .u64 4607182418800017408, .int .i64 0] 24)).heap.size ((w2).alloc (.cells #[.int .u64 4607182418800017408, .int .i64 0] 24))).alloc (Nat.le_refl _) (.cells #[.int .u64 4591870180066957722, .int .u64 4591870180066957722, .int .u64 4591870180066957722, .int .u64 4591870180066957722, .int .u64 4591870180066957722, .int .u64 4591870180066957722, .int .u64 4591870180066957722, .int .u64 4591870180066957722, .int .u64 4591870180066957722, .int .u64 4591870180066957722] 22)
  have hn9 := Lib.hid (heap_alloc_new ((w2).alloc (.cells #[.int .u64 4607182418800017408, .int .i64 0] 24)) (.cells #[.int .u64 4591870180066957722, .int .u64 4591870180066957722, .int .u64 4591870180066957722, .int .u64 4591870180066957722, .int .u64 4591870180066957722, .int .u64 4591870180066957722, .int .u64 4591870180066957722, .int .u64 4591870180066957722, .int .u64 4591870180066957722, .int .u64 4591870180066957722] 22))
  have n0 := Lib.hid (heapB hb9 n0.out)
  have n1 := hn9
  have HB4 := Lib.hid (HB3.out.trans (hb9.mono HB3.out.size))
  clear hb9 hn9 HB3
  have sz : ((w2).alloc (.cells #[.int .u64 4607182418800017408, .int .i64 0] 24)).heap.size = (w2).heap.size + 1 := by simp
  have u1 : URow (((w2).alloc (.cells #[.int .u64 4607182418800017408, .int .i64 0] 24)).alloc (.cells #[.int .u64 4591870180066957722, .int .u64 4591870180066957722, .int .u64 4591870180066957722, .int .u64 4591870180066957722, .int .u64 4591870180066957722, .int .u64 4591870180066957722, .int .u64 4591870180066957722, .int .u64 4591870180066957722, .int .u64 4591870180066957722, .int .u64 4591870180066957722] 22)) (w2.heap.size + 1) [4591870180066957722, 4591870180066957722, 4591870180066957722, 4591870180066957722, 4591870180066957722, 4591870180066957722, 4591870180066957722, 4591870180066957722, 4591870180066957722, 4591870180066957722] := by have h9 := n1.out; rw [sz] at h9; exact h9
  have F4 := n0
  clear n0 n1 sz
  have HC := Lib.hid (realsE [4591870180066957722, 4591870180066957722, 4591870180066957722, 4591870180066957722, 4591870180066957722, 4591870180066957722, 4591870180066957722, 4591870180066957722, 4591870180066957722, 4591870180066957722] 10 rfl u1 (by decide) (by decide))
  clear u1
  go_wp2_with fail
  refine HC.out.mono ?_
  rintro e w3 ⟨a, cap, rfl, hv, hb⟩
  have HB5 := Lib.hid (HB4.out.trans (hb.mono HB4.out.size))
  have F4 := Lib.hid (heapB hb F4.out)
  clear HC HB4 hb
  have HC := Lib.hid (redB hv cap)
  clear hv
  go_wp2_with fail
  refine HC.out.mono ?_
  rintro e w4 ⟨rfl, hb⟩
  have HB6 := Lib.hid (HB5.out.trans (hb.mono HB5.out.size))
  have F4 := Lib.hid (heapB hb F4.out)
  clear HC HB5 hb
  have hb9 := (Below.refl (w4).heap.size (w4)).alloc (Nat.le_refl _) (.cells #[.int .u64 4607182418800017408, .int .i64 0] 24)
  have hn9 := Lib.hid (heap_alloc_new (w4) (.cells #[.int .u64 4607182418800017408, .int .i64 0] 24))
  have n0 := hn9
  have F4 := Lib.hid (heapB hb9 F4.out)
  have HB7 := Lib.hid (HB6.out.trans (hb9.mono HB6.out.size))
  clear hb9 hn9 HB6
  have hb9 := (Below.refl ((w4).alloc (.cells #[.int .u64 4607182418800017408, .int .i64 0] 24)).heap.size ((w4).alloc (.cells #[.int .u64 4607182418800017408, .int .i64 0] 24))).alloc (Nat.le_refl _) (.cells #[.int .u64 9218868437227405312, .int .u64 18442240474082181120] 22)
  have hn9 := Lib.hid (heap_alloc_new ((w4).alloc (.cells #[.int .u64 4607182418800017408, .int .i64 0] 24)) (.cells #[.int .u64 9218868437227405312, .int .u64 18442240474082181120] 22))
  have n0 := Lib.hid (heapB hb9 n0.out)
  have n1 := hn9
  have F4 := Lib.hid (heapB hb9 F4.out)
  have HB8 := Lib.hid (HB7.out.trans (hb9.mono HB7.out.size))
  clear hb9 hn9 HB7
  have sz : ((w4).alloc (.cells #[.int .u64 4607182418800017408, .int .i64 0] 24)).heap.size = (w4).heap.size + 1 := by simp
  have u1 : URow (((w4).alloc (.cells #[.int .u64 4607182418800017408, .int .i64 0] 24)).alloc (.cells #[.int .u64 9218868437227405312, .int .u64 18442240474082181120] 22)) (w4.heap.size + 1) [9218868437227405312, 18442240474082181120] := by have h9 := n1.out; rw [sz] at h9; exact h9
  have F6 := n0
  clear n0 n1 sz
  have HC := Lib.hid (realsE [9218868437227405312, 18442240474082181120] 2 rfl u1 (by decide) (by decide))
  clear u1
  go_wp2_with fail
  refine HC.out.mono ?_
  rintro e w5 ⟨a, cap, rfl, hv, hb⟩
  have HB9 := Lib.hid (HB8.out.trans (hb.mono HB8.out.size))
  have F4 := Lib.hid (heapB hb F4.out)
  have F6 := Lib.hid (heapB hb F6.out)
  clear HC HB8 hb
  have HC := Lib.hid (redC hv cap)
  clear hv
  go_wp2_with fail
  refine HC.out.mono ?_
  rintro e w6 ⟨rfl, hb⟩
  have HB10 := Lib.hid (HB9.out.trans (hb.mono HB9.out.size))
  have F4 := Lib.hid (heapB hb F4.out)
  have F6 := Lib.hid (heapB hb F6.out)
  clear HC HB9 hb
  have hb9 := (Below.refl (w6).heap.size (w6)).alloc (Nat.le_refl _) (.cells #[.int .u64 9221120237041090560, .int .i64 0] 24)
  have hn9 := Lib.hid (heap_alloc_new (w6) (.cells #[.int .u64 9221120237041090560, .int .i64 0] 24))
  have n0 := hn9
  have F4 := Lib.hid (heapB hb9 F4.out)
  have F6 := Lib.hid (heapB hb9 F6.out)
  have HB11 := Lib.hid (HB10.out.trans (hb9.mono HB10.out.size))
  clear hb9 hn9 HB10
  have F8 := n0
  clear n0
  have c4 := cellR 0 F4.out rfl
  have c6 := cellR 0 F6.out rfl
  have c8 := cellR 0 F8.out rfl
  have HC := Lib.hid (chk1 ((w6).alloc (.cells #[.int .u64 9221120237041090560, .int .i64 0] 24)))
  go_wp2_with fail
  clear c4 c6 c8 F4 F6 F8
  refine HC.out.mono ?_
  rintro e w7 ⟨rfl, hb⟩
  have HB12 := Lib.hid (HB11.out.trans (hb.mono HB11.out.size))
  clear HC HB11 hb
  have HC := Lib.hid (chk2 w7)
  go_wp2_with fail
  refine HC.out.mono ?_
  rintro e w8 ⟨rfl, hb⟩
  have HB13 := Lib.hid (HB12.out.trans (hb.mono HB12.out.size))
  clear HC HB12 hb
  have HC := Lib.hid (chk3 w8)
  go_wp2_with fail
  refine HC.out.mono ?_
  rintro e w9 ⟨rfl, hb⟩
  have HB14 := Lib.hid (HB13.out.trans (hb.mono HB13.out.size))
  clear HC HB13 hb
  have HC := Lib.hid (doX w9)
  go_wp2_with fail
  refine HC.out.mono ?_
  rintro e w10 ⟨rfl, hb⟩
  have HB15 := Lib.hid (HB14.out.trans (hb.mono HB14.out.size))
  clear HC HB14 hb
  have hb9 := (Below.refl (w10).heap.size (w10)).alloc (Nat.le_refl _) (.cells #[.int .u64 7, .int .i64 1] 24)
  have hn9 := Lib.hid (heap_alloc_new (w10) (.cells #[.int .u64 7, .int .i64 1] 24))
  have n0 := hn9
  have HB16 := Lib.hid (HB15.out.trans (hb9.mono HB15.out.size))
  clear hb9 hn9 HB15
  have hb9 := (Below.refl ((w10).alloc (.cells #[.int .u64 7, .int .i64 1] 24)).heap.size ((w10).alloc (.cells #[.int .u64 7, .int .i64 1] 24))).alloc (Nat.le_refl _) (.cells #[.int .u64 1, .int .u64 2, .int .u64 3] 22)
  have hn9 := Lib.hid (heap_alloc_new ((w10).alloc (.cells #[.int .u64 7, .int .i64 1] 24)) (.cells #[.int .u64 1, .int .u64 2, .int .u64 3] 22))
  have n0 := Lib.hid (heapB hb9 n0.out)
  have n1 := hn9
  have HB17 := Lib.hid (HB16.out.trans (hb9.mono HB16.out.size))
  clear hb9 hn9 HB16
  have sz : ((w10).alloc (.cells #[.int .u64 7, .int .i64 1] 24)).heap.size = (w10).heap.size + 1 := by simp
  have u1 : URow (((w10).alloc (.cells #[.int .u64 7, .int .i64 1] 24)).alloc (.cells #[.int .u64 1, .int .u64 2, .int .u64 3] 22)) (w10.heap.size + 1) [1, 2, 3] := by have h9 := n1.out; rw [sz] at h9; exact h9
  have F10 := n0
  clear n0 n1 sz
  have HC := Lib.hid (realsE [1, 2, 3] 3 rfl u1 (by decide) (by decide))
  clear u1
  go_wp2_with fail
  refine HC.out.mono ?_
  rintro e w11 ⟨a, cap, rfl, hv, hb⟩
  have HB18 := Lib.hid (HB17.out.trans (hb.mono HB17.out.size))
  have F10 := Lib.hid (heapB hb F10.out)
  clear HC HB17 hb
  have HC := Lib.hid (scanX hv cap)
  clear hv
  go_wp2_with fail
  refine HC.out.mono ?_
  rintro e w12 ⟨g12, rfl, hsc, hb⟩
  have HB19 := Lib.hid (HB18.out.trans (hb.mono HB18.out.size))
  have F10 := Lib.hid (heapB hb F10.out)
  clear HC HB18 hb
  have c0 := cellR 0 F10.out rfl
  have c1 := cellR 1 F10.out rfl
  have hne := neq_V 7 7 1 1
  rw [show eqV ⟨7, 1⟩ ⟨7, 1⟩ = true from rfl] at hne
  have u1 : URow (w12.alloc (.cells #[.int .u64 1, .int .u64 3, .int .u64 6] 22)) w12.heap.size [1, 3, 6] := heap_alloc_new w12 (.cells #[.int .u64 1, .int .u64 3, .int .u64 6] 22)
  have hb9 := (Below.refl w12.heap.size w12).alloc (Nat.le_refl _) (.cells #[.int .u64 1, .int .u64 3, .int .u64 6] 22)
  have HS := Lib.hid (hsc.keep hb9)
  have HB20 := Lib.hid (HB19.out.trans (hb9.mono HB19.out.size))
  clear HB19 hb9 hsc
  have HC := Lib.hid (realsE [1, 3, 6] 3 rfl u1 (by decide) (by decide))
  clear u1
  go_wp2_with fail
  refine HC.out.mono ?_
  rintro e w13 ⟨a, cap, rfl, hv, hb⟩
  have HB21 := Lib.hid (HB20.out.trans (hb.mono HB20.out.size))
  have hs9 := same_any (HS.out.keep hb) hv 3 cap
  rw [show sameL [v0 1, v0 3, v0 6] (List.map v0 [1, 3, 6]) = true from (sameL_iff _ _).2 rfl] at hs9
  have HC2 : Hid (Calls Tryz.prog 15 #[.slice (some ⟨g12, 0, none⟩) 3 3, .slice a 3 cap] w13 fun e w' => e = .returned (.bool true) ∧ Below w13.heap.size w13 w') := hs9
  clear hs9 HC HB20 hb hv HS c0 c1
  go_wp2_with fail
  refine HC2.out.mono ?_
  rintro e w14 ⟨rfl, hb⟩
  have HB22 := Lib.hid (HB21.out.trans (hb.mono HB21.out.size))
  clear HC2 HB21 hb
  have bs1 : Bs ((w14).alloc (.cells #[.int .u8 16, .int .u8 0, .int .u8 1] 5)) (some ⟨(w14).heap.size, 0, none⟩) [16, 0, 1] := bs_lit (heap_alloc_new (w14) (.cells #[.int .u8 16, .int .u8 0, .int .u8 1] 5)) (by decide) (by decide)
  have hb9 := (Below.refl (w14).heap.size (w14)).alloc (Nat.le_refl _) (.cells #[.int .u8 16, .int .u8 0, .int .u8 1] 5)
  have HB23 := Lib.hid (HB22.out.trans (hb9.mono HB22.out.size))
  clear HB22 hb9
  have HC := Lib.hid (dec1 bs1)
  clear bs1
  go_wp2_with fail
  refine HC.out.mono ?_
  rintro e w15 ⟨b, rfl, hbl, hA, hb⟩
  have HB24 := Lib.hid (HB23.out.trans (hb.mono HB23.out.size))
  have hwb : w.heap.size ≤ b := Nat.le_trans HB23.out.size hbl
  have HA := Lib.hid hA
  clear HB23 hb hA hbl HC
  have bs1 : Bs ((w15).alloc (.cells #[.int .u8 0, .int .u8 0, .int .u8 0] 5)) (some ⟨(w15).heap.size, 0, none⟩) [0, 0, 0] := bs_lit (heap_alloc_new (w15) (.cells #[.int .u8 0, .int .u8 0, .int .u8 0] 5)) (by decide) (by decide)
  have hb9 := (Below.refl (w15).heap.size (w15)).alloc (Nat.le_refl _) (.cells #[.int .u8 0, .int .u8 0, .int .u8 0] 5)
  have HB25 := Lib.hid (HB24.out.trans (hb9.mono HB24.out.size))
  have HA := Lib.hid (HA.out.keep hb9)
  clear HB24 hb9
  have HC := Lib.hid (dec0 bs1)
  clear bs1
  go_wp2_with fail
  refine HC.out.mono ?_
  rintro e w16 ⟨rfl, hb⟩
  have HB26 := Lib.hid (HB25.out.trans (hb.mono HB25.out.size))
  have HA := Lib.hid (HA.out.keep hb)
  clear HB25 hb HC
  have HC := Lib.hid (val1 HA.out)
  go_wp2_with fail
  refine HC.out.mono ?_
  rintro e w17 ⟨rfl, hb⟩
  have HB27 := Lib.hid (HB26.out.trans (hb.mono HB26.out.size))
  have HA := Lib.hid (HA.out.keep hb)
  clear HB26 hb HC
  have HC := Lib.hid (add1 HA.out)
  go_wp2_with fail
  refine HC.out.mono ?_
  rintro e w18 ⟨rfl, hA, hs⟩
  clear HA HC
  have HA := Lib.hid hA
  have HB28 := Lib.hid (HB27.out.trans (hs.below hwb HB27.out.size))
  clear HB27 hA hs
  have HC := Lib.hid (enc1 HA.out)
  go_wp2_with fail
  refine HC.out.mono ?_
  rintro e w19 ⟨a, cap, rfl, hbs, hb⟩
  have HB29 := Lib.hid (HB28.out.trans (hb.mono HB28.out.size))
  clear HB28 hb HC HA
  have bs2 : Bs (w19.alloc (.cells #[.int .u8 16, .int .u8 1, .int .u8 1, .int .u8 0] 5)) (some ⟨w19.heap.size, 0, none⟩) [16, 1, 1, 0] := bs_lit (heap_alloc_new w19 (.cells #[.int .u8 16, .int .u8 1, .int .u8 1, .int .u8 0] 5)) (by decide) (by decide)
  have hb9 := (Below.refl w19.heap.size w19).alloc (Nat.le_refl _) (.cells #[.int .u8 16, .int .u8 1, .int .u8 1, .int .u8 0] 5)
  have HB30 := Lib.hid (HB29.out.trans (hb9.mono HB29.out.size))
  have q1 : (convert 46 9 (.slice a 4 cap)).run Tryz.prog w19 = .ok (.string (strN [16, 1, 1, 0])) w19 := conv_str hbs (by decide) cap
  have q2 : (convert 46 9 (.slice (some ⟨w19.heap.size, 0, none⟩) 4 4)).run Tryz.prog (w19.alloc (.cells #[.int .u8 16, .int .u8 1, .int .u8 1, .int .u8 0] 5)) = .ok (.string (strN [16, 1, 1, 0])) (w19.alloc (.cells #[.int .u8 16, .int .u8 1, .int .u8 1, .int .u8 0] 5)) := conv_str bs2 (by decide) 4
  have h3 : ((strN [16, 1, 1, 0]).toList == (strN [16, 1, 1, 0]).toList) = true := by simp
  have HC := Lib.hid (cmp1 (w19.alloc (.cells #[.int .u8 16, .int .u8 1, .int .u8 1, .int .u8 0] 5)))
  clear HB29 hb9 bs2 hbs
  go_wp2_with fail
  refine HC.out.mono ?_
  rintro e w' ⟨rfl, rfl⟩
  go_wp2_with fail
  go_ret
  exact ⟨rfl, HB30.out⟩
end Go.Proofs.YtjcdnaandbockaaGreat
