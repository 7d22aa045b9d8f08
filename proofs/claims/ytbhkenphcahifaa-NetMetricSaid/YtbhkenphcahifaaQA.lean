import Derived.Test.YtbhkenphcahifaaOH
namespace Go.Proofs.Ytbhkenphcahifaa
open Go.RowKit Go.Shelf
attribute [local go_sem] Oper.semAt_some
set_option maxRecDepth 100000
set_option maxHeartbeats 4000000

def twoE (kind : Int) (l : List Int) (hosts x y : Int) : Int := if vOk kind l hosts then (if inB (swI kind l) [x, y] = true then 0 else 3) else 2
theorem rTwo_any {w : World} {sa : Option Addr} {l : List Int} (h : Ints w sa l) (sc : Nat) (kind hosts x y : Int) :
    Calls Try.prog 66 #[.agg #[.int .i64 kind, .slice sa l.length sc, .int .i64 hosts], .int .i64 x, .int .i64 y] w fun e w' => e = .returned (.int .i64 (twoE kind l hosts x y)) ∧ Below w.heap.size w w' := by
  have HB := Lib.hid ((Below.refl w.heap.size w).alloc (Nat.le_refl _) (.cells #[.int .i64 kind, .slice sa l.length sc, .int .i64 hosts] 30))
  have Q0 := Lib.hid (heap_alloc_new w (.cells #[.int .i64 kind, .slice sa l.length sc, .int .i64 hosts] 30))
  have c0 := cellR 0 Q0.out rfl
  have c1 := cellR 1 Q0.out rfl
  have c2 := cellR 2 Q0.out rfl
  have H1 := Lib.hid (rIs_any (h.keep HB.out) sc kind hosts x)
  have H2 : Hid (∀ W, Below w.heap.size w W → Calls Try.prog 48 #[.agg #[.int .i64 kind, .slice sa l.length sc, .int .i64 hosts], .int .i64 y] W fun e w' => e = .returned (.int .i64 (plaE kind l hosts y)) ∧ Below W.heap.size W w') := fun W hb => rIs_any (h.keep hb) sc kind hosts y
  by_cases hx : plaE kind l hosts x = 0
  · have hT : twoE kind l hosts x y = plaE kind l hosts y := by
      unfold twoE
      unfold plaE at hx ⊢
      by_cases hv : vOk kind l hosts
      · rw [if_pos hv] at hx ⊢
        rw [if_pos hv]
        by_cases hi : inB (swI kind l) [x] = true
        · have : (inB (swI kind l) [x, y] = true) = (inB (swI kind l) [y] = true) := by
            simp only [inB, List.all_cons, List.all_nil, Bool.and_true] at hi ⊢
            rw [hi]; simp
          simp only [this]
        · rw [if_neg hi] at hx; cases hx
      · rw [if_neg hv] at hx; cases hx
    rw [hT]
    rw [hx] at H1
    clear h hx hT
    generalize l.length = N at *
    generalize plaE kind l hosts y = E at *
    go_enter Try.func66, Try.ntmps66
    go_wp2_with fail
    generalize w.alloc (.cells #[.int .i64 kind, .slice sa N sc, .int .i64 hosts] 30) = X at *
    refine H1.out.mono ?_
    rintro e w1 ⟨rfl, hb⟩
    replace c0 := kcell hb c0
    replace c1 := kcell hb c1
    replace c2 := kcell hb c2
    replace HB := Lib.hid (HB.out.trans (hb.mono HB.out.size))
    have H3 := Lib.hid (H2.out _ HB.out)
    clear H1 H2 hb Q0
    go_wp2_with fail
    refine H3.out.mono ?_
    rintro e w2 ⟨rfl, hb⟩
    replace HB := Lib.hid (HB.out.trans (hb.mono HB.out.size))
    clear H3 hb c0 c1 c2
    go_wp2_with fail
    go_ret
    exact ⟨rfl, HB.out⟩
  · have hT : twoE kind l hosts x y = plaE kind l hosts x := by
      unfold twoE
      unfold plaE at hx ⊢
      by_cases hv : vOk kind l hosts
      · rw [if_pos hv] at hx ⊢
        rw [if_pos hv]
        by_cases hi : inB (swI kind l) [x] = true
        · rw [if_pos hi] at hx; exact absurd rfl hx
        · rw [if_neg hi, if_neg]
          simp only [inB, List.all_cons, List.all_nil, Bool.and_true, Bool.and_eq_true, not_and] at hi ⊢
          intro h; exact absurd h hi
      · rw [if_neg hv, if_neg hv]
    rw [hT]
    have hne : (plaE kind l hosts x != 0) = true := bne_iff_ne.2 hx
    clear h hx hT
    generalize l.length = N at *
    generalize plaE kind l hosts x = E at *
    go_enter Try.func66, Try.ntmps66
    go_wp2_with fail
    generalize w.alloc (.cells #[.int .i64 kind, .slice sa N sc, .int .i64 hosts] 30) = X at *
    refine H1.out.mono ?_
    rintro e w1 ⟨rfl, hb⟩
    replace HB := Lib.hid (HB.out.trans (hb.mono HB.out.size))
    clear H1 H2 hb Q0 c0 c1 c2
    go_wp2_with fail
    go_ret
    exact ⟨rfl, HB.out⟩
theorem rGoal_any {w : World} {sa : Option Addr} {l : List Int} (h : Ints w sa l) (sc : Nat) (kind hosts x y : Int) :
    Calls Try.prog 52 #[.agg #[.int .i64 kind, .slice sa l.length sc, .int .i64 hosts], .int .i64 x, .int .i64 y] w fun e w' => e = .returned (.int .i64 (rteE kind l hosts x y)) ∧ Below w.heap.size w w' := by
  have HB := Lib.hid ((Below.refl w.heap.size w).alloc (Nat.le_refl _) (.cells #[.int .i64 kind, .slice sa l.length sc, .int .i64 hosts] 30))
  have Q0 := Lib.hid (heap_alloc_new w (.cells #[.int .i64 kind, .slice sa l.length sc, .int .i64 hosts] 30))
  have c0 := cellR 0 Q0.out rfl
  have c1 := cellR 1 Q0.out rfl
  have c2 := cellR 2 Q0.out rfl
  have H1 := Lib.hid (rTwo_any (h.keep HB.out) sc kind hosts x y)
  by_cases hx : twoE kind l hosts x y = 0
  · have hv : vOk kind l hosts ∧ inB (swI kind l) [x, y] = true := by
      unfold twoE at hx
      by_cases hv : vOk kind l hosts
      · rw [if_pos hv] at hx
        by_cases hi : inB (swI kind l) [x, y] = true
        · exact ⟨hv, hi⟩
        · rw [if_neg hi] at hx; cases hx
      · rw [if_neg hv] at hx; cases hx
    have hT : rteE kind l hosts x y = if y < hoI kind l then 0 else 2 := by unfold rteE; rw [if_pos hv.1, if_pos hv.2]
    rw [hT]
    rw [hx] at H1
    have H2 : Hid (∀ W, Below w.heap.size w W → Calls Try.prog 44 #[.agg #[.int .i64 kind, .slice sa l.length sc, .int .i64 hosts]] W fun e w' => e = .returned (.int .i64 (hoI kind l)) ∧ Below W.heap.size W w') := fun W hb => rHomes_any (h.keep hb) sc kind hosts hv.1
    clear h hx hT hv
    generalize l.length = N at *
    generalize hoI kind l = E at *
    by_cases hy : y < E
    · have hd : decide (y ≥ E) = false := decide_eq_false (by omega)
      rw [if_pos hy]
      clear hy
      go_enter Try.func52, Try.ntmps52
      go_wp2_with fail
      generalize w.alloc (.cells #[.int .i64 kind, .slice sa N sc, .int .i64 hosts] 30) = X at *
      refine H1.out.mono ?_
      rintro e w1 ⟨rfl, hb⟩
      replace c0 := kcell hb c0
      replace c1 := kcell hb c1
      replace c2 := kcell hb c2
      replace HB := Lib.hid (HB.out.trans (hb.mono HB.out.size))
      have H3 := Lib.hid (H2.out _ HB.out)
      clear H1 H2 hb Q0
      go_wp2_with fail
      refine H3.out.mono ?_
      rintro e w2 ⟨rfl, hb⟩
      replace HB := Lib.hid (HB.out.trans (hb.mono HB.out.size))
      clear H3 hb c0 c1 c2
      go_wp2_with fail
      go_ret
      exact ⟨rfl, HB.out⟩
    · have hd : decide (y ≥ E) = true := decide_eq_true (by omega)
      rw [if_neg hy]
      clear hy
      go_enter Try.func52, Try.ntmps52
      go_wp2_with fail
      generalize w.alloc (.cells #[.int .i64 kind, .slice sa N sc, .int .i64 hosts] 30) = X at *
      refine H1.out.mono ?_
      rintro e w1 ⟨rfl, hb⟩
      replace c0 := kcell hb c0
      replace c1 := kcell hb c1
      replace c2 := kcell hb c2
      replace HB := Lib.hid (HB.out.trans (hb.mono HB.out.size))
      have H3 := Lib.hid (H2.out _ HB.out)
      clear H1 H2 hb Q0
      go_wp2_with fail
      refine H3.out.mono ?_
      rintro e w2 ⟨rfl, hb⟩
      replace HB := Lib.hid (HB.out.trans (hb.mono HB.out.size))
      clear H3 hb c0 c1 c2
      go_wp2_with fail
      go_ret
      exact ⟨rfl, HB.out⟩
  · have hT : rteE kind l hosts x y = twoE kind l hosts x y := by
      unfold rteE
      unfold twoE at hx ⊢
      by_cases hv : vOk kind l hosts
      · rw [if_pos hv] at hx ⊢
        rw [if_pos hv]
        by_cases hi : inB (swI kind l) [x, y] = true
        · rw [if_pos hi] at hx; exact absurd rfl hx
        · rw [if_neg hi, if_neg hi]
      · rw [if_neg hv, if_neg hv]
    rw [hT]
    have hne : (twoE kind l hosts x y == 0) = false := by simpa using hx
    clear h hx hT
    generalize l.length = N at *
    generalize twoE kind l hosts x y = E at *
    go_enter Try.func52, Try.ntmps52
    go_wp2_with fail
    generalize w.alloc (.cells #[.int .i64 kind, .slice sa N sc, .int .i64 hosts] 30) = X at *
    refine H1.out.mono ?_
    rintro e w1 ⟨rfl, hb⟩
    replace HB := Lib.hid (HB.out.trans (hb.mono HB.out.size))
    clear H1 hb Q0 c0 c1 c2
    go_wp2_with fail
    go_ret
    exact ⟨rfl, HB.out⟩
end Go.Proofs.Ytbhkenphcahifaa
