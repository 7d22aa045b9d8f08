import Derived.Test.YtbhkenphcahifaaQH
namespace Go.Proofs.Ytbhkenphcahifaa
open Go.RowKit Go.Shelf
attribute [local go_sem] Oper.semAt_some
set_option maxRecDepth 100000
set_option maxHeartbeats 4000000

theorem NetRoutes_done {w : World} {sa : Option Addr} {l : List Int} (h : Ints w sa l) (sc : Nat) (kind hosts x y : Int) :
    Calls Try.prog 4 #[.agg #[.int .i64 kind, .slice sa l.length sc, .int .i64 hosts], .int .i64 x, .int .i64 y] w fun e w' => e = .returned (.bool true) ∧ Below w.heap.size w w' := by
  have HWK := Lib.hid works_any
  have H21 := Lib.hid (fun W (hb : Below w.heap.size w W) => Route_all (h.keep hb) sc kind hosts x y)
  have H22 := Lib.hid (fun W (hb : Below w.heap.size w W) => rRoute_all (h.keep hb) sc kind hosts x y)
  have H23 := Lib.hid (fun W (hb : Below w.heap.size w W) => Classes_all (h.keep hb) sc kind hosts x y)
  have H24 := Lib.hid (fun W (hb : Below w.heap.size w W) => rClasses_all (h.keep hb) sc kind hosts x y)
  have H13 := Lib.hid (fun W => spec_any sa l.length sc kind hosts W)
  have H20 := Lib.hid (fun (W : World) (a b : Option Addr) (m : List Int) (ha : Ints W a m) (hb : Ints W b m) (ca cb : Nat) => equal_any ha hb ca cb)
  generalize rteE kind l hosts x y = ER at *
  generalize rteL kind l hosts x y = RL at *
  generalize rteC kind l hosts x y = RC at *
  generalize l.length = N at *
  have hd1 : decide (RL = RL) = true := decide_eq_true rfl
  have hd2 : decide (RC = RC) = true := decide_eq_true rfl
  clear h
  have HB := Lib.hid ((Below.refl w.heap.size w).alloc (Nat.le_refl _) (.cells #[.int .i64 kind, .slice sa N sc, .int .i64 hosts] 24))
  have Q0 := Lib.hid (heap_alloc_new w (.cells #[.int .i64 kind, .slice sa N sc, .int .i64 hosts] 24))
  have c0 := cellR 0 Q0.out rfl
  have c1 := cellR 1 Q0.out rfl
  have c2 := cellR 2 Q0.out rfl
  by_cases hN : 10 < (N : Int)
  case pos =>
    clear H13 H20 H21 H22 H23 H24
    go_enter Try.func4, Try.ntmps4
    go_wp2_with fail
    generalize w.alloc (.cells #[.int .i64 kind, .slice sa N sc, .int .i64 hosts] 24) = X at *
    refine (HWK.out _).mono ?_
    rintro e w1 ⟨rfl, hb1⟩
    clear HWK c0 c1 c2
    go_wp2_with fail
    go_ret
    exact ⟨rfl, HB.out.trans (hb1.mono HB.out.size)⟩
  have hNd : decide (10 < (N : Int)) = false := decide_eq_false hN
  clear hN
  go_enter Try.func4, Try.ntmps4
  go_wp2_with fail
  generalize w.alloc (.cells #[.int .i64 kind, .slice sa N sc, .int .i64 hosts] 24) = X at *
  refine (H21.out _ HB.out).mono ?_
  rintro e W2 ⟨⟨a1, k1, rfl, i1⟩, hb⟩
  have I1 := Lib.hid i1
  clear i1
  replace Q0 := Lib.hid (heapB hb Q0.out)
  replace HB := Lib.hid (HB.out.trans (hb.mono HB.out.size))
  clear hb c0 c1 c2 H21
  have c0 := cellR 0 Q0.out rfl
  have c1 := cellR 1 Q0.out rfl
  have c2 := cellR 2 Q0.out rfl
  obtain ⟨w1, rfl⟩ : ∃ w1, w1 = W2 := ⟨_, rfl⟩
  go_wp2_with fail
  refine (H13.out _).mono ?_
  rintro e W2 ⟨rfl, hb⟩
  replace I1 := Lib.hid (I1.out.keep hb)
  replace Q0 := Lib.hid (heapB hb Q0.out)
  replace HB := Lib.hid (HB.out.trans (hb.mono HB.out.size))
  clear hb c0 c1 c2
  have c0 := cellR 0 Q0.out rfl
  have c1 := cellR 1 Q0.out rfl
  have c2 := cellR 2 Q0.out rfl
  obtain ⟨w1, rfl⟩ : ∃ w1, w1 = W2 := ⟨_, rfl⟩
  go_wp2_with fail
  refine (H22.out _ HB.out).mono ?_
  rintro e W2 ⟨⟨a2, k2, rfl, i2⟩, hb⟩
  replace I1 := Lib.hid (I1.out.keep hb)
  have I2 := Lib.hid i2
  clear i2
  replace Q0 := Lib.hid (heapB hb Q0.out)
  replace HB := Lib.hid (HB.out.trans (hb.mono HB.out.size))
  clear hb c0 c1 c2 H22
  have c0 := cellR 0 Q0.out rfl
  have c1 := cellR 1 Q0.out rfl
  have c2 := cellR 2 Q0.out rfl
  obtain ⟨w1, rfl⟩ : ∃ w1, w1 = W2 := ⟨_, rfl⟩
  go_wp2_with fail
  refine (H23.out _ HB.out).mono ?_
  rintro e W2 ⟨⟨a3, k3, rfl, i3⟩, hb⟩
  replace I1 := Lib.hid (I1.out.keep hb)
  replace I2 := Lib.hid (I2.out.keep hb)
  have I3 := Lib.hid i3
  clear i3
  replace Q0 := Lib.hid (heapB hb Q0.out)
  replace HB := Lib.hid (HB.out.trans (hb.mono HB.out.size))
  clear hb c0 c1 c2 H23
  have c0 := cellR 0 Q0.out rfl
  have c1 := cellR 1 Q0.out rfl
  have c2 := cellR 2 Q0.out rfl
  obtain ⟨w1, rfl⟩ : ∃ w1, w1 = W2 := ⟨_, rfl⟩
  go_wp2_with fail
  refine (H13.out _).mono ?_
  rintro e W2 ⟨rfl, hb⟩
  replace I1 := Lib.hid (I1.out.keep hb)
  replace I2 := Lib.hid (I2.out.keep hb)
  replace I3 := Lib.hid (I3.out.keep hb)
  replace Q0 := Lib.hid (heapB hb Q0.out)
  replace HB := Lib.hid (HB.out.trans (hb.mono HB.out.size))
  clear hb c0 c1 c2 H13
  have c0 := cellR 0 Q0.out rfl
  have c1 := cellR 1 Q0.out rfl
  have c2 := cellR 2 Q0.out rfl
  obtain ⟨w1, rfl⟩ : ∃ w1, w1 = W2 := ⟨_, rfl⟩
  go_wp2_with fail
  refine (H24.out _ HB.out).mono ?_
  rintro e W2 ⟨⟨a4, k4, rfl, i4⟩, hb⟩
  replace I1 := Lib.hid (I1.out.keep hb)
  replace I2 := Lib.hid (I2.out.keep hb)
  replace I3 := Lib.hid (I3.out.keep hb)
  have I4 := Lib.hid i4
  clear i4
  replace Q0 := Lib.hid (heapB hb Q0.out)
  replace HB := Lib.hid (HB.out.trans (hb.mono HB.out.size))
  clear hb c0 c1 c2 H24
  have c0 := cellR 0 Q0.out rfl
  have c1 := cellR 1 Q0.out rfl
  have c2 := cellR 2 Q0.out rfl
  obtain ⟨w1, rfl⟩ : ∃ w1, w1 = W2 := ⟨_, rfl⟩
  go_wp2_with fail
  refine (H20.out _ _ _ _ I1.out I2.out _ _).mono ?_
  rintro e W2 ⟨rfl, hb⟩
  replace I1 := Lib.hid (I1.out.keep hb)
  replace I2 := Lib.hid (I2.out.keep hb)
  replace I3 := Lib.hid (I3.out.keep hb)
  replace I4 := Lib.hid (I4.out.keep hb)
  rw [hd1]
  replace Q0 := Lib.hid (heapB hb Q0.out)
  replace HB := Lib.hid (HB.out.trans (hb.mono HB.out.size))
  clear hb c0 c1 c2
  have c0 := cellR 0 Q0.out rfl
  have c1 := cellR 1 Q0.out rfl
  have c2 := cellR 2 Q0.out rfl
  obtain ⟨w1, rfl⟩ : ∃ w1, w1 = W2 := ⟨_, rfl⟩
  go_wp2_with fail
  refine (H20.out _ _ _ _ I3.out I4.out _ _).mono ?_
  rintro e W2 ⟨rfl, hb⟩
  replace I1 := Lib.hid (I1.out.keep hb)
  replace I2 := Lib.hid (I2.out.keep hb)
  replace I3 := Lib.hid (I3.out.keep hb)
  replace I4 := Lib.hid (I4.out.keep hb)
  rw [hd2]
  replace Q0 := Lib.hid (heapB hb Q0.out)
  replace HB := Lib.hid (HB.out.trans (hb.mono HB.out.size))
  clear hb c0 c1 c2 H20
  have c0 := cellR 0 Q0.out rfl
  have c1 := cellR 1 Q0.out rfl
  have c2 := cellR 2 Q0.out rfl
  obtain ⟨w1, rfl⟩ : ∃ w1, w1 = W2 := ⟨_, rfl⟩
  go_wp2_with fail
  refine (HWK.out _).mono ?_
  rintro e W2 ⟨rfl, hb⟩
  replace I1 := Lib.hid (I1.out.keep hb)
  replace I2 := Lib.hid (I2.out.keep hb)
  replace I3 := Lib.hid (I3.out.keep hb)
  replace I4 := Lib.hid (I4.out.keep hb)
  replace Q0 := Lib.hid (heapB hb Q0.out)
  replace HB := Lib.hid (HB.out.trans (hb.mono HB.out.size))
  clear hb c0 c1 c2
  have c0 := cellR 0 Q0.out rfl
  have c1 := cellR 1 Q0.out rfl
  have c2 := cellR 2 Q0.out rfl
  obtain ⟨w1, rfl⟩ : ∃ w1, w1 = W2 := ⟨_, rfl⟩
  go_wp2_with fail
  go_ret
  exact ⟨rfl, HB.out⟩
end Go.Proofs.Ytbhkenphcahifaa
