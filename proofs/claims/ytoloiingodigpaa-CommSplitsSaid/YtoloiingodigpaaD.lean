import Derived.Test.YtoloiingodigpaaC
import Derived.Test.YtoloiingodigpaaR
namespace Go.Proofs.Ytoloiingodigpaa
open Go.RowKit
attribute [local go_sem] Oper.semAt_some litE

def pairErr (a b : List Int) : Int := if chkErr a = 0 then chkErr b else chkErr a
def pairF (a b l : List Int) : Nat → Bool := fun j => decide (pairErr a b = 0) && inS l j

theorem SetAt.range {w : World} {b : Nat} {s : Nat → Bool} (h : SetAt w b s) : w.rangeAt b 0 (setA s).toList := fun j v hj => by
  rw [cell_of_row w b _ _ _ _ h]; simpa using hj
theorem SetAt.there {w : World} {b : Nat} {s : Nat → Bool} (h : SetAt w b s) : w.there b 0 64 := fun j hj => by
  refine ⟨?_, h.open_ _⟩
  rw [h.cell _ (by omega)]; rfl

theorem Try.info83' (s : Nat → Bool) : (Try.prog.info? 83).map (·.size) = some (setA s).toList.length := by simp [Try.info83]
theorem setA_len (s : Nat → Bool) : (setA s).toList.length = 64 := by simp
theorem setA_one' (s : Nat → Bool) : ∀ v ∈ (setA s).toList, v.oneCell' = true := fun v hv => (Array.all_eq_true_iff_forall_mem.1 (setA_one s)) v (by simpa using hv)

set_option maxHeartbeats 1000000 in
set_option maxRecDepth 100000 in
theorem groupSets_any {w : World} {a b : Option Addr} {l m : List Int} (h : Ints w a l) (hm : Ints w b m) (cap cap' : Nat) :
    Calls Try.prog 59 #[.slice a l.length cap, .slice b m.length cap'] w fun e w' => e = .returned (.tuple #[.agg (setA (pairF l m l)), .agg (setA (pairF l m m)), .int .i64 (pairErr l m)]) ∧ Below w.heap.size w w' := by
  have hlen := h.len
  have hlen2 := hm.len
  have h0 := (Below.refl w.heap.size w).alloc (Nat.le_refl _) (.cells setE 83)
  have h1 := h0.alloc (by simp) (.cells setE 83)
  have n0 : SetAt ((w.alloc (.cells setE 83)).alloc (.cells setE 83)) w.heap.size (fun _ => false) := (SetAt.new w).alloc _
  have n1 : SetAt ((w.alloc (.cells setE 83)).alloc (.cells setE 83)) (w.heap.size + 1) (fun _ => false) := by have := SetAt.new (w.alloc (.cells setE 83)); simpa using this
  have N0 := Lib.hid n0
  have N1 := Lib.hid n1
  clear n0 n1
  by_cases hl : chkErr l = 0
  · by_cases hr : chkErr m = 0
    · have hv : Hid (pairErr l m = 0) := by show _ = _; simp [pairErr, hl, hr]
      have E1 : Hid (pairF l m l = grpF l) := by show _ = _; funext j; simp [pairF, grpF, hv.out, hl]
      have E2 : Hid (pairF l m m = grpF m) := by show _ = _; funext j; simp [pairF, grpF, hv.out, hr]
      go_enter Try.func59, Try.ntmps59
      go_wp2_with fail
      refine (groupSet_any (h.keep h1) cap).mono ?_
      rintro e W ⟨rfl, hb⟩
      have hz := hb.size
      simp at hz
      have b1 := h1.trans (hb.mono (by simp; omega))
      have N0 := Lib.hid (N0.out.keep hb)
      have N1 := Lib.hid (N1.out.keep hb)
      rw [hl]
      have hV := hv
      clear hl hb h0 h1
      go_wp2_with (first
        | (refine wpList_store_row rfl 83 _ _ rfl W.heap.size (setA (grpF l)) rfl rfl 83 _ (SetAt.new W) (by rw [setA_size]; exact Try.info83) (by simp) (setA_one _) ?_))
      have hzW : (W.alloc (.cells setE 83)).heap.size = W.heap.size + 1 := by simp
      have b2 := (b1.alloc (by omega) (.cells setE 83)).trans (below_setRow (b := W.heap.size) (by omega) (setA (grpF l)))
      have S0 := Lib.hid ((N0.out.alloc (.cells setE 83)).setRow_other (b' := W.heap.size) (setA (grpF l)) (by omega))
      have S1 := Lib.hid ((N1.out.alloc (.cells setE 83)).setRow_other (b' := W.heap.size) (setA (grpF l)) (by omega))
      have S2 := Lib.hid ((SetAt.new W).setRow (grpF l))
      have hzX : ((W.alloc (.cells setE 83)).setRow W.heap.size (setA (grpF l))).heap.size = W.heap.size + 1 := by simp
      clear N0 N1 b1
      refine (groupSet_any (hm.keep b2) cap').mono ?_
      generalize (W.alloc (.cells setE 83)).setRow W.heap.size (setA (grpF l)) = X at *
      rintro e Y ⟨rfl, hb⟩
      have hzY := hb.size
      have b3 := b2.trans (hb.mono (by omega))
      have S0 := Lib.hid (S0.out.keep hb)
      have S1 := Lib.hid (S1.out.keep hb)
      have S2 := Lib.hid (S2.out.keep hb)
      rw [hr]
      clear hr hb b2
      go_wp2_with (first
        | (refine wpList_store_row rfl 83 _ _ rfl Y.heap.size (setA (grpF m)) rfl rfl 83 _ (SetAt.new Y) (by rw [setA_size]; exact Try.info83) (by simp) (setA_one _) ?_))
      have b4 := (b3.alloc (by omega) (.cells setE 83)).trans (below_setRow (b := Y.heap.size) (by omega) (setA (grpF m)))
      have S0 := (S0.out.alloc (.cells setE 83)).setRow_other (b' := Y.heap.size) (setA (grpF m)) (by omega)
      have S1 := (S1.out.alloc (.cells setE 83)).setRow_other (b' := Y.heap.size) (setA (grpF m)) (by omega)
      have S2 := (S2.out.alloc (.cells setE 83)).setRow_other (b' := Y.heap.size) (setA (grpF m)) (by omega)
      have S3 := (SetAt.new Y).setRow (grpF m)
      have hyz : W.heap.size < Y.heap.size := by omega
      generalize hZ : (Y.alloc (.cells setE 83)).setRow Y.heap.size (setA (grpF m)) = Z at *
      have S0 := Lib.hid S0
      have S1 := Lib.hid S1
      have S2 := Lib.hid S2
      have S3 := Lib.hid S3
      have hb4 := b4
      clear hZ b3 hzX hzY hzW b4
      refine (wpIn_wide (n := 0)).1 ?_
      refine region_det (by kernel_rfl) (I := fun listed a' w' => SetAt w' W.heap.size (grpF l) ∧ SetAt w' Y.heap.size (grpF m) ∧ SetAt w' w.heap.size (if listed.getD 2 false = true then grpF l else fun _ => false) ∧ SetAt w' (w.heap.size + 1) (if listed.getD 3 false = true then grpF m else fun _ => false) ∧ Below w.heap.size w w' ∧ a' = ⟨#[Value.slice a l.length cap, Value.slice b m.length cap', undef, undef,
          Value.pointer (some { block := w.heap.size, off := 0 }),
          Value.pointer (some { block := w.heap.size + 1, off := 0 }), Value.int IntKind.i64 0,
          Value.pointer (some { block := W.heap.size, off := 0 }), Value.int IntKind.i64 0,
          Value.pointer (some { block := Y.heap.size, off := 0 }),
          Value.tuple #[Value.agg (setA (grpF l)), Value.int IntKind.i64 0], Value.slice a l.length cap,
          Value.tuple #[Value.agg (setA (grpF l)), Value.int IntKind.i64 0], Value.agg (setA (grpF l)),
          Value.int IntKind.i64 0, Value.int IntKind.i64 0, Value.bool false, undef, undef, undef,
          Value.tuple #[Value.agg (setA (grpF m)), Value.int IntKind.i64 0], Value.slice b m.length cap',
          Value.tuple #[Value.agg (setA (grpF m)), Value.int IntKind.i64 0], Value.agg (setA (grpF m)),
          Value.int IntKind.i64 0, Value.int IntKind.i64 0, Value.bool false, undef, undef, undef, if listed.getD 0 false = true then Value.agg (setA (grpF l)) else undef, if listed.getD 1 false = true then Value.agg (setA (grpF m)) else undef], []⟩) (hup_check (by kernel_rfl)) ?h0 ?step ?fin
      case h0 =>
        exact ⟨S2.out, S3.out, S0.out, S1.out, hb4.drew, rfl⟩
      case step =>
        intro listed a' w' i hs hbi hdep hi ⟨I0, I1, I2, I3, hb, ha⟩
        obtain ⟨ls⟩ := listed
        match ls, hs with
        | [x0, x1, x2, x3, x4], _ =>
        subst ha
        have hi' : i = 0 ∨ i = 1 ∨ i = 2 ∨ i = 3 ∨ i = 4 := by simp at hi; omega
        rcases hi' with rfl | rfl | rfl | rfl | rfl
        · refine wpOpIn_load_row rfl rfl 83 _ rfl W.heap.size rfl 83 _ _ _ I0 Try.und83 rfl (by rw [setA_size]; exact Try.info83) ?_
          exact ⟨I0, I1, I2, I3, hb, rfl⟩
        · refine wpOpIn_load_row rfl rfl 83 _ rfl Y.heap.size rfl 83 _ _ _ I1 Try.und83 rfl (by rw [setA_size]; exact Try.info83) ?_
          exact ⟨I0, I1, I2, I3, hb, rfl⟩
        · obtain rfl : x0 = true := hdep _ rfl ⟨0, .data⟩ (by simp) rfl
          refine wpOpIn_store_row rfl rfl 83 _ _ rfl w.heap.size (setA (grpF l)) rfl rfl 83 _ I2 (by rw [setA_size]; exact Try.info83) (by simp) (setA_one _) ?_
          exact ⟨I0.setRow_other _ (by omega), I1.setRow_other _ (by omega), I2.setRow _, I3.setRow_other _ (by omega), hb.trans (below_setRow (Nat.le_refl _) _), rfl⟩
        · obtain rfl : x1 = true := hdep _ rfl ⟨1, .data⟩ (by simp) rfl
          refine wpOpIn_store_row rfl rfl 83 _ _ rfl (w.heap.size + 1) (setA (grpF m)) rfl rfl 83 _ I3 (by rw [setA_size]; exact Try.info83) (by simp) (setA_one _) ?_
          exact ⟨I0.setRow_other _ (by omega), I1.setRow_other _ (by omega), I2.setRow_other _ (by omega), I3.setRow _, hb.trans (below_setRow (by omega) _), rfl⟩
        · refine wpOpIn_step rfl (fun K' hK => ?_)
          rw [if_pos (by rfl)]
          refine wpIn_of_wp_plain (v := .int .i64 0) rfl ?_
          exact hK _ _ ⟨I0, I1, I2, I3, hb, rfl⟩
      case fin =>
        intro listed a' w' hs hall ⟨I0, I1, I2, I3, hb, ha⟩
        obtain ⟨ls⟩ := listed
        match ls, hs with
        | [x0, x1, x2, x3, x4], _ =>
        obtain rfl : x0 = true := hall 0 (by simp)
        obtain rfl : x1 = true := hall 1 (by simp)
        obtain rfl : x2 = true := hall 2 (by simp)
        obtain rfl : x3 = true := hall 3 (by simp)
        subst ha
        have I2 : SetAt w' w.heap.size (grpF l) := I2
        have I3 : SetAt w' (w.heap.size + 1) (grpF m) := I3
        have HI2 := Lib.hid I2
        have HI3 := Lib.hid I3
        have hB := Lib.hid hb
        clear I0 I1 I2 I3 hb hall hs S0 S1 S2 S3
        dsimp only [Exit.then]
        go_wp2
        refine bodyPost_ret (v := .tuple #[.agg (setA (pairF l m l)), .agg (setA (pairF l m m)), .int .i64 (pairErr l m)]) ?_ rfl ⟨rfl, hB.out⟩
        rw [E1.out, E2.out, hv.out]
        simp [results, Try.results59, asAddr, HI2.out.load, HI3.out.load]
    · have hv : Hid (pairErr l m = chkErr m) := by show _ = _; simp [pairErr, hl]
      have E1 : Hid (pairF l m l = fun _ => false) := by show _ = _; funext j; simp [pairF, hv.out, hr]
      have E2 : Hid (pairF l m m = fun _ => false) := by show _ = _; funext j; simp [pairF, hv.out, hr]
      go_enter Try.func59, Try.ntmps59
      go_wp2_with fail
      refine (groupSet_any (h.keep h1) cap).mono ?_
      rintro e W ⟨rfl, hb⟩
      have hz := hb.size
      simp at hz
      have b1 := h1.trans (hb.mono (by simp; omega))
      have N0 := Lib.hid (N0.out.keep hb)
      have N1 := Lib.hid (N1.out.keep hb)
      rw [hl]
      clear hl hb h0 h1
      go_wp2_with (first
        | (refine wpList_store_row rfl 83 _ _ rfl W.heap.size (setA (grpF l)) rfl rfl 83 _ (SetAt.new W) (by rw [setA_size]; exact Try.info83) (by simp) (setA_one _) ?_))
      have hzW : (W.alloc (.cells setE 83)).heap.size = W.heap.size + 1 := by simp
      have b2 := (b1.alloc (by omega) (.cells setE 83)).trans (below_setRow (b := W.heap.size) (by omega) (setA (grpF l)))
      have S0 := Lib.hid ((N0.out.alloc (.cells setE 83)).setRow_other (b' := W.heap.size) (setA (grpF l)) (by omega))
      have S1 := Lib.hid ((N1.out.alloc (.cells setE 83)).setRow_other (b' := W.heap.size) (setA (grpF l)) (by omega))
      have hzX : ((W.alloc (.cells setE 83)).setRow W.heap.size (setA (grpF l))).heap.size = W.heap.size + 1 := by simp
      clear N0 N1 b1
      refine (groupSet_any (hm.keep b2) cap').mono ?_
      generalize (W.alloc (.cells setE 83)).setRow W.heap.size (setA (grpF l)) = X at *
      rintro e Y ⟨rfl, hb⟩
      have hzY := hb.size
      have b3 := b2.trans (hb.mono (by omega))
      have S0 := Lib.hid (S0.out.keep hb)
      have S1 := Lib.hid (S1.out.keep hb)
      have R1 := S0.out.lt
      have R2 := S1.out.lt
      clear hb b2
      have S0' := Lib.hid ((S0.out.alloc (.cells setE 83)).setRow_other (b' := Y.heap.size) (setA (grpF m)) (by omega))
      have S1' := Lib.hid ((S1.out.alloc (.cells setE 83)).setRow_other (b' := Y.heap.size) (setA (grpF m)) (by omega))
      have S1'' : Hid (SetAt ((((Y.alloc (.cells setE 83)).setRow Y.heap.size (setA (grpF m)))).setRow w.heap.size setE) (w.heap.size + 1) (fun _ => false)) := S1'.out.setRow_other _ (by omega)
      go_wp2_with (first
        | (refine wpList_store_row rfl 83 _ _ rfl Y.heap.size (setA (grpF m)) rfl rfl 83 _ (SetAt.new Y) (by rw [setA_size]; exact Try.info83) (by simp) (setA_one _) ?_)
        | (refine wpList_store_row rfl 83 _ _ rfl w.heap.size setE rfl rfl 83 _ S0'.out (by rw [setE_size]; exact Try.info83) (by simp) setE_one ?_)
        | (refine wpList_store_row rfl 83 _ _ rfl (w.heap.size + 1) setE rfl rfl 83 _ S1''.out (by rw [setE_size]; exact Try.info83) (by simp) setE_one ?_))
      have b4 := (b3.alloc (by omega) (.cells setE 83)).trans (below_setRow (b := Y.heap.size) (by omega) (setA (grpF m)))
      have b5 := (b4.trans (below_setRow (b := w.heap.size) (by omega) setE)).trans (below_setRow (b := w.heap.size + 1) (by omega) setE)
      have F1 : SetAt (((((Y.alloc (.cells setE 83)).setRow Y.heap.size (setA (grpF m)))).setRow w.heap.size setE).setRow (w.heap.size + 1) setE) (w.heap.size + 1) (fun _ => false) := by
        have := S1''.out.setRow (fun _ => false); rwa [← setE_eq] at this
      have F0 : SetAt (((((Y.alloc (.cells setE 83)).setRow Y.heap.size (setA (grpF m)))).setRow w.heap.size setE).setRow (w.heap.size + 1) setE) w.heap.size (fun _ => false) := by
        have := S0'.out.setRow (fun _ => false); rw [← setE_eq] at this; exact this.setRow_other _ (by omega)
      refine bodyPost_ret (v := .tuple #[.agg (setA (pairF l m l)), .agg (setA (pairF l m m)), .int .i64 (pairErr l m)]) ?_ rfl ⟨rfl, b5⟩
      rw [E1.out, E2.out, hv.out]
      simp [results, Try.results59, asAddr, F0.load, F1.load]
  · have hv : Hid (pairErr l m = chkErr l) := by show _ = _; simp [pairErr, hl]
    have E1 : Hid (pairF l m l = fun _ => false) := by show _ = _; funext j; simp [pairF, hv.out, hl]
    have E2 : Hid (pairF l m m = fun _ => false) := by show _ = _; funext j; simp [pairF, hv.out, hl]
    go_enter Try.func59, Try.ntmps59
    go_wp2_with fail
    refine (groupSet_any (h.keep h1) cap).mono ?_
    rintro e W ⟨rfl, hb⟩
    have hz := hb.size
    simp at hz
    have b1 := h1.trans (hb.mono (by simp; omega))
    have N0 := Lib.hid (N0.out.keep hb)
    have N1 := Lib.hid (N1.out.keep hb)
    clear hb h0 h1
    have S0' := Lib.hid ((N0.out.alloc (.cells setE 83)).setRow_other (b' := W.heap.size) (setA (grpF l)) (by omega))
    have S1' := Lib.hid ((N1.out.alloc (.cells setE 83)).setRow_other (b' := W.heap.size) (setA (grpF l)) (by omega))
    have S1'' : Hid (SetAt ((((W.alloc (.cells setE 83)).setRow W.heap.size (setA (grpF l)))).setRow w.heap.size setE) (w.heap.size + 1) (fun _ => false)) := S1'.out.setRow_other _ (by omega)
    go_wp2_with (first
      | (refine wpList_store_row rfl 83 _ _ rfl W.heap.size (setA (grpF l)) rfl rfl 83 _ (SetAt.new W) (by rw [setA_size]; exact Try.info83) (by simp) (setA_one _) ?_)
      | (refine wpList_store_row rfl 83 _ _ rfl w.heap.size setE rfl rfl 83 _ S0'.out (by rw [setE_size]; exact Try.info83) (by simp) setE_one ?_)
      | (refine wpList_store_row rfl 83 _ _ rfl (w.heap.size + 1) setE rfl rfl 83 _ S1''.out (by rw [setE_size]; exact Try.info83) (by simp) setE_one ?_))
    have b4 := (b1.alloc (by omega) (.cells setE 83)).trans (below_setRow (b := W.heap.size) (by omega) (setA (grpF l)))
    have b5 := (b4.trans (below_setRow (b := w.heap.size) (by omega) setE)).trans (below_setRow (b := w.heap.size + 1) (by omega) setE)
    have F1 : SetAt (((((W.alloc (.cells setE 83)).setRow W.heap.size (setA (grpF l)))).setRow w.heap.size setE).setRow (w.heap.size + 1) setE) (w.heap.size + 1) (fun _ => false) := by
      have := S1''.out.setRow (fun _ => false); rwa [← setE_eq] at this
    have F0 : SetAt (((((W.alloc (.cells setE 83)).setRow W.heap.size (setA (grpF l)))).setRow w.heap.size setE).setRow (w.heap.size + 1) setE) w.heap.size (fun _ => false) := by
      have := S0'.out.setRow (fun _ => false); rw [← setE_eq] at this; exact this.setRow_other _ (by omega)
    refine bodyPost_ret (v := .tuple #[.agg (setA (pairF l m l)), .agg (setA (pairF l m m)), .int .i64 (pairErr l m)]) ?_ rfl ⟨rfl, b5⟩
    rw [E1.out, E2.out, hv.out]
    simp [results, Try.results59, asAddr, F0.load, F1.load]
end Go.Proofs.Ytoloiingodigpaa
