import Derived.Test.YtoloiingodigpaaGE
namespace Go.Proofs.Ytoloiingodigpaa
open Go.RowKit Go.Shelf
attribute [local go_sem] Oper.semAt_some litE
set_option maxRecDepth 100000
set_option maxHeartbeats 2000000

theorem Compare_any {w : World} {a b : Option Addr} {l m : List Int} (h : Ints w a l) (hm : Ints w b m) (cap cap' : Nat) :
    Calls Try.prog 24 #[.slice a l.length cap, .slice b m.length cap'] w fun e w' => e = .returned (.tuple #[.int .i64 (if pairErr l m = 0 then cmpC l m else 0), .int .i64 (pairErr l m)]) ∧ Below w.heap.size w w' := by
  have hlen := h.len
  have hlen2 := hm.len
  by_cases he : pairErr l m = 0
  · rw [if_pos he]
    have HCM : Hid (cmpC l m = if l = m then 1 else if ((List.range 64).all fun i => inS l i == inS m i) = true then 2 else 3) := by
      show _ = _; unfold cmpC; rw [pairF_ok he, pairF_ok he]
    go_enter Try.func24, Try.ntmps24
    go_wp2_with fail
    refine (groupSets_any h hm cap cap').mono ?_
    rintro e X ⟨rfl, hb⟩
    have A0 := Lib.hid (h.keep hb)
    have A1 := Lib.hid (hm.keep hb)
    have hzX := hb.size
    rw [he, pairF_ok he, pairF_ok he]
    obtain ⟨S0, S1, hb1, hs1⟩ := two_sets X (inS l) (inS m)
    have HE := Lib.hid he
    clear he h hm
    have N0 : SetAt ((X.alloc (.cells setE 83)).alloc (.cells setE 83)) X.heap.size (fun _ => false) := (SetAt.new X).alloc _
    have N1 : SetAt ((((X.alloc (.cells setE 83)).alloc (.cells setE 83)).setRow X.heap.size (setA (inS l)))) (X.heap.size + 1) (fun _ => false) := by
      have := SetAt.new (X.alloc (.cells setE 83)); rw [show (X.alloc (.cells setE 83)).heap.size = X.heap.size + 1 by simp] at this; exact this.setRow_other _ (by omega)
    have S0 := Lib.hid S0
    have S1 := Lib.hid S1
    have N0 := Lib.hid N0
    have N1 := Lib.hid N1
    go_wp2_with (first
      | (refine wpList_store_row rfl 83 _ _ rfl X.heap.size (setA (inS l)) rfl rfl 83 _ N0.out (by rw [setA_size]; exact Try.info83) (by simp) (setA_one _) ?_)
      | (refine wpList_store_row rfl 83 _ _ rfl (X.heap.size + 1) (setA (inS m)) rfl rfl 83 _ N1.out (by rw [setA_size]; exact Try.info83) (by simp) (setA_one _) ?_))
    generalize (((X.alloc (.cells setE 83)).alloc (.cells setE 83)).setRow X.heap.size (setA (inS l))).setRow (X.heap.size + 1) (setA (inS m)) = Y at *
    refine (equal_ints (A0.out.keep hb1) (A1.out.keep hb1) cap cap').mono ?_
    rintro e Z ⟨rfl, hbz⟩
    have T0 := Lib.hid (S0.out.keep hbz)
    have T1 := Lib.hid (S1.out.keep hbz)
    have HBZ : Hid (Below w.heap.size w Z) := (hb.trans (hb1.mono hzX)).trans (hbz.mono (Nat.le_trans hzX hb1.size))
    clear N0 N1 S0 S1 A0 A1 hbz hb1 hb
    by_cases e : l = m
    · have HN : Hid (cmpC l m = 1) := by show _ = _; rw [HCM.out, if_pos e]
      rw [show decide (l = m) = true by simp [e]]
      go_wp2_with fail
      go_ret2
      rw [HN.out, HE.out]
      exact ⟨rfl, HBZ.out⟩
    · rw [show decide (l = m) = false by simp [e]]
      have heq := run_eql_set (inS l) (inS m)
      cases hq : (List.range 64).all fun i => inS l i == inS m i with
      | true =>
        have HN : Hid (cmpC l m = 2) := by show _ = _; rw [HCM.out, if_neg e, if_pos hq]
        simp only [hq] at heq
        clear hq e
        go_wp2_with (first
          | (refine wpList_load_row rfl 83 _ rfl X.heap.size rfl 83 _ _ _ T0.out Try.und83 rfl (by rw [setA_size]; exact Try.info83) ?_)
          | (refine wpList_load_row rfl 83 _ rfl (X.heap.size + 1) rfl 83 _ _ _ T1.out Try.und83 rfl (by rw [setA_size]; exact Try.info83) ?_))
        go_ret2
        rw [HN.out, HE.out]
        exact ⟨rfl, HBZ.out⟩
      | false =>
        have HN : Hid (cmpC l m = 3) := by show _ = _; rw [HCM.out, if_neg e, if_neg (by rw [hq]; decide)]
        simp only [hq] at heq
        clear hq e
        go_wp2_with (first
          | (refine wpList_load_row rfl 83 _ rfl X.heap.size rfl 83 _ _ _ T0.out Try.und83 rfl (by rw [setA_size]; exact Try.info83) ?_)
          | (refine wpList_load_row rfl 83 _ rfl (X.heap.size + 1) rfl 83 _ _ _ T1.out Try.und83 rfl (by rw [setA_size]; exact Try.info83) ?_))
        go_ret2
        rw [HN.out, HE.out]
        exact ⟨rfl, HBZ.out⟩
  · rw [if_neg he]
    go_enter Try.func24, Try.ntmps24
    go_wp2_with fail
    refine (groupSets_any h hm cap cap').mono ?_
    rintro e X ⟨rfl, hb⟩
    have hzX := hb.size
    obtain ⟨S0, S1, hb1, hs1⟩ := two_sets X (pairF l m l) (pairF l m m)
    clear h hm
    have N0 : SetAt ((X.alloc (.cells setE 83)).alloc (.cells setE 83)) X.heap.size (fun _ => false) := (SetAt.new X).alloc _
    have N1 : SetAt ((((X.alloc (.cells setE 83)).alloc (.cells setE 83)).setRow X.heap.size (setA (pairF l m l)))) (X.heap.size + 1) (fun _ => false) := by
      have := SetAt.new (X.alloc (.cells setE 83)); rw [show (X.alloc (.cells setE 83)).heap.size = X.heap.size + 1 by simp] at this; exact this.setRow_other _ (by omega)
    clear S0 S1
    have N0 := Lib.hid N0
    have N1 := Lib.hid N1
    go_wp2_with (first
      | (refine wpList_store_row rfl 83 _ _ rfl X.heap.size (setA (pairF l m l)) rfl rfl 83 _ N0.out (by rw [setA_size]; exact Try.info83) (by simp) (setA_one _) ?_)
      | (refine wpList_store_row rfl 83 _ _ rfl (X.heap.size + 1) (setA (pairF l m m)) rfl rfl 83 _ N1.out (by rw [setA_size]; exact Try.info83) (by simp) (setA_one _) ?_))
    go_ret2
    exact ⟨rfl, hb.trans (hb1.mono hzX)⟩
end Go.Proofs.Ytoloiingodigpaa
