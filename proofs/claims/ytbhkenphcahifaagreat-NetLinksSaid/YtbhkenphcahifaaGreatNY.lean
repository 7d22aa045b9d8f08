import Derived.Test.YtbhkenphcahifaaGreatNW
namespace Go.Proofs.YtbhkenphcahifaaGreat
open Go.RowKit Go.Shelf
attribute [local go_sem] Oper.semAt_some
set_option maxRecDepth 100000
set_option maxHeartbeats 4000000

theorem routed_err {w : World} {sa : Option Addr} {l : List Int} (h : Ints w sa l) (sc : Nat) (kind hosts x y : Int) (hE : rteE kind l hosts x y ≠ 0) :
    Calls Tryz.prog 115 #[.agg #[.int .i64 kind, .slice sa l.length sc, .int .i64 hosts], .int .i64 x, .int .i64 y] w fun e w' => e = .returned (.tuple #[.nilIface, .int .i64 (rteE kind l hosts x y)]) ∧ Below w.heap.size w w' := by
  by_cases hv : vOk kind l hosts ∧ inB (swI kind l) [x, y] = true
  · have hy : ¬ y < hoI kind l := fun hy => hE (by unfold rteE; rw [if_pos hv.1, if_pos hv.2, if_pos hy])
    obtain ⟨hv, hin⟩ := hv
    rcases v_kind hv with rfl | rfl | rfl
    · have := routed1_any h sc hosts x y hv hin; rw [if_neg hy] at this; exact this
    · have := routed2_any h sc hosts x y hv hin; rw [if_neg hy] at this; exact this
    · have := routed3_any h sc hosts x y hv hin; rw [if_neg hy] at this; exact this
  · exact routed_bad h sc kind hosts x y hv
theorem Route_bad {w : World} {sa : Option Addr} {l : List Int} (h : Ints w sa l) (sc : Nat) (kind hosts x y : Int) (hE : rteE kind l hosts x y ≠ 0) :
    Calls Tryz.prog 87 #[.agg #[.int .i64 kind, .slice sa l.length sc, .int .i64 hosts], .int .i64 x, .int .i64 y] w fun e w' => e = .returned (.tuple #[.slice none 0 0, .int .i64 (rteE kind l hosts x y)]) ∧ Below w.heap.size w w' := by
  have HRO := Lib.hid (fun W (hb : Below w.heap.size w W) => routed_err (h.keep hb) sc kind hosts x y hE)
  have hne : (rteE kind l hosts x y != 0) = true := bne_iff_ne.2 hE
  generalize rteE kind l hosts x y = E at *
  have HB := Lib.hid ((Below.refl w.heap.size w).alloc (Nat.le_refl _) (.cells #[.int .i64 kind, .slice sa l.length sc, .int .i64 hosts] 24))
  have c0 := cellR 0 (heap_alloc_new w (.cells #[.int .i64 kind, .slice sa l.length sc, .int .i64 hosts] 24)) rfl
  have c1 := cellR 1 (heap_alloc_new w (.cells #[.int .i64 kind, .slice sa l.length sc, .int .i64 hosts] 24)) rfl
  have c2 := cellR 2 (heap_alloc_new w (.cells #[.int .i64 kind, .slice sa l.length sc, .int .i64 hosts] 24)) rfl
  clear h hE
  refine (callsIn_wide (n := 4)).1 ?_
  refine callsIn_of_wp_marks Tryz.func87 rfl trivial ?_ rfl
  simp only [Tryz.ntmps87, List.size_toArray, List.length_cons, List.length_nil, Nat.reduceAdd, Nat.reduceSub, Array.replicate_succ, Array.replicate_zero, List.push_toArray, List.append_toArray, List.nil_append, List.cons_append]
  gi_wp2
  generalize w.alloc (.cells #[.int .i64 kind, .slice sa l.length sc, .int .i64 hosts] 24) = X at *
  refine ⟨trivial, callsIn_wide.2 ((HRO.out _ HB.out).mono ?_)⟩
  rintro e w1 ⟨rfl, hb1⟩
  have HB1 := Lib.hid (HB.out.trans (hb1.mono HB.out.size))
  clear HRO c0 c1 c2 HB hb1
  gi_wp2
  refine ⟨.tuple #[.slice none 0 0, .int .i64 E], ?_, rfl, HB1.out⟩
  simp [results, Tryz.results87, go_sem]
theorem Classes_bad {w : World} {sa : Option Addr} {l : List Int} (h : Ints w sa l) (sc : Nat) (kind hosts x y : Int) (hE : rteE kind l hosts x y ≠ 0) :
    Calls Tryz.prog 88 #[.agg #[.int .i64 kind, .slice sa l.length sc, .int .i64 hosts], .int .i64 x, .int .i64 y] w fun e w' => e = .returned (.tuple #[.slice none 0 0, .int .i64 (rteE kind l hosts x y)]) ∧ Below w.heap.size w w' := by
  have HRO := Lib.hid (fun W (hb : Below w.heap.size w W) => routed_err (h.keep hb) sc kind hosts x y hE)
  have hne : (rteE kind l hosts x y != 0) = true := bne_iff_ne.2 hE
  generalize rteE kind l hosts x y = E at *
  have HB := Lib.hid ((Below.refl w.heap.size w).alloc (Nat.le_refl _) (.cells #[.int .i64 kind, .slice sa l.length sc, .int .i64 hosts] 24))
  have c0 := cellR 0 (heap_alloc_new w (.cells #[.int .i64 kind, .slice sa l.length sc, .int .i64 hosts] 24)) rfl
  have c1 := cellR 1 (heap_alloc_new w (.cells #[.int .i64 kind, .slice sa l.length sc, .int .i64 hosts] 24)) rfl
  have c2 := cellR 2 (heap_alloc_new w (.cells #[.int .i64 kind, .slice sa l.length sc, .int .i64 hosts] 24)) rfl
  clear h hE
  refine (callsIn_wide (n := 4)).1 ?_
  refine callsIn_of_wp_marks Tryz.func88 rfl trivial ?_ rfl
  simp only [Tryz.ntmps88, List.size_toArray, List.length_cons, List.length_nil, Nat.reduceAdd, Nat.reduceSub, Array.replicate_succ, Array.replicate_zero, List.push_toArray, List.append_toArray, List.nil_append, List.cons_append]
  gi_wp2
  generalize w.alloc (.cells #[.int .i64 kind, .slice sa l.length sc, .int .i64 hosts] 24) = X at *
  refine ⟨trivial, callsIn_wide.2 ((HRO.out _ HB.out).mono ?_)⟩
  rintro e w1 ⟨rfl, hb1⟩
  have HB1 := Lib.hid (HB.out.trans (hb1.mono HB.out.size))
  clear HRO c0 c1 c2 HB hb1
  gi_wp2
  refine ⟨.tuple #[.slice none 0 0, .int .i64 E], ?_, rfl, HB1.out⟩
  simp [results, Tryz.results88, go_sem]
end Go.Proofs.YtbhkenphcahifaaGreat
