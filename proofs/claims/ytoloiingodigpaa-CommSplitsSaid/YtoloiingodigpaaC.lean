import Derived.Test.YtoloiingodigpaaB
import Derived.Deep.RegionHeld3
namespace Go.Proofs.Ytoloiingodigpaa
open Go.RowKit
attribute [local go_sem] Oper.semAt_some litE

/-- what is wrong with a group -/
def chkErr (l : List Int) : Int := if 64 < l.length then 9 else setErr [] l 64
def grpF (l : List Int) : Nat → Bool := fun j => decide (chkErr l = 0) && inS l j

set_option maxRecDepth 100000 in
theorem groupSet_any {w : World} {a : Option Addr} {l : List Int} (h : Ints w a l) (cap : Nat) :
    Calls Try.prog 65 #[.slice a l.length cap] w fun e w' => e = .returned (.tuple #[.agg (setA (grpF l)), .int .i64 (chkErr l)]) ∧ Below w.heap.size w w' := by
  have hlen := h.len
  by_cases hl : 64 < l.length
  · have hv : Hid (chkErr l = 9) := by show _ = _; simp [chkErr, hl]
    go_enter Try.func65, Try.ntmps65
    go_wp2_with (first
      | (refine wpList_store_row rfl 83 _ _ rfl w.heap.size setE rfl rfl 83 _ (SetAt.new w) (by rw [setE_size]; exact Try.info83) (by simp) setE_one ?_))
    have s2 : SetAt ((w.alloc (.cells setE 83)).setRow w.heap.size setE) w.heap.size (fun _ => false) := by rw [setE_eq]; rw [← setE_eq]; have := (SetAt.new w).setRow (fun _ => false); rwa [← setE_eq] at this
    refine bodyPost_ret (v := .tuple #[.agg (setA (grpF l)), .int .i64 (chkErr l)]) ?_ rfl ⟨rfl, ((Below.refl _ _).alloc (Nat.le_refl _) _).trans (below_setRow (Nat.le_refl _) _)⟩
    have hr : grpF l = fun _ => false := by funext j; simp [grpF, hv.out]
    rw [hr, hv.out]
    simp [results, Try.results65, asAddr, s2.load]
  · have hv : Hid (chkErr l = setErr [] l 64) := by show _ = _; simp [chkErr, hl]
    have hl' : l.length ≤ 64 := by omega
    go_enter Try.func65, Try.ntmps65
    go_wp2_with fail
    refine (setOf_any (h.keep ((Below.refl _ _).alloc (Nat.le_refl _) _)) cap 64 (by omega)).mono ?_
    rintro e W ⟨rfl, hb⟩
    have s1 := (SetAt.new w).keep hb
    have HS := Lib.hid s1
    clear s1
    go_wp2_with (first
      | (refine wpList_store_row rfl 83 _ _ rfl w.heap.size (setA (setR l 64)) rfl rfl 83 _ HS.out (by rw [setA_size]; exact Try.info83) (by simp) (setA_one _) ?_))
    have s2 := HS.out.setRow (setR l 64)
    refine bodyPost_ret (v := .tuple #[.agg (setA (grpF l)), .int .i64 (chkErr l)]) ?_ rfl ⟨rfl, (((Below.refl _ _).alloc (Nat.le_refl _) _).trans (hb.mono (by simp))).trans (below_setRow (Nat.le_refl _) _)⟩
    have hr : grpF l = setR l 64 := by funext j; simp [grpF, setR, hv.out]
    rw [hr, hv.out]
    simp [results, Try.results65, asAddr, s2.load]

set_option maxRecDepth 100000 in
theorem check_any {w : World} {a : Option Addr} {l : List Int} (h : Ints w a l) (cap : Nat) :
    Calls Try.prog 18 #[.slice a l.length cap] w fun e w' => e = .returned (.int .i64 (chkErr l)) ∧ Below w.heap.size w w' := by
  go_enter Try.func18, Try.ntmps18
  go_wp2_with fail
  refine (groupSet_any h cap).mono ?_
  rintro e W ⟨rfl, hb⟩
  go_wp2_with (first
    | (refine wpList_store_row rfl 83 _ _ rfl W.heap.size (setA (grpF l)) rfl rfl 83 _ (SetAt.new W) (by rw [setA_size]; exact Try.info83) (by simp) (setA_one _) ?_))
  go_ret
  exact ⟨rfl, (hb.trans ((Below.refl _ _).alloc hb.size _)).trans (below_setRow hb.size _)⟩

/-- what is wrong with ranks of a group -/
def rankErr (g ranks : List Int) : Int := if chkErr g = 0 then setErr [] ranks g.length else chkErr g
def rankF (g ranks : List Int) : Nat → Bool := fun j => decide (rankErr g ranks = 0) && inS ranks j

theorem chkErr_len {l : List Int} (h : chkErr l = 0) : l.length ≤ 64 := by
  unfold chkErr at h
  split at h
  · cases h
  · omega

set_option maxRecDepth 100000 in
theorem rankSet_any {w : World} {a b : Option Addr} {l r : List Int} (h : Ints w a l) (hr : Ints w b r) (cap cap' : Nat) :
    Calls Try.prog 70 #[.slice a l.length cap, .slice b r.length cap'] w fun e w' => e = .returned (.tuple #[.agg (setA (rankF l r)), .int .i64 (rankErr l r)]) ∧ Below w.heap.size w w' := by
  have hlen := h.len
  have hlen2 := hr.len
  have h0 := (Below.refl w.heap.size w).alloc (Nat.le_refl _) (.cells setE 83)
  by_cases hl : chkErr l = 0
  · have hv : Hid (rankErr l r = setErr [] r l.length) := by show _ = _; simp [rankErr, hl]
    have hl64 := chkErr_len hl
    have HL : Hid (chkErr l = 0) := hl
    go_enter Try.func70, Try.ntmps70
    go_wp2_with fail
    refine (check_any (h.keep h0) cap).mono ?_
    rintro e W ⟨rfl, hb⟩
    have s1 := (SetAt.new w).keep hb
    have HS := Lib.hid s1
    clear s1
    go_wp2_with fail
    have hz := hb.size
    simp at hz
    refine (setOf_any (hr.keep (h0.trans (hb.mono (by simp)))) cap' l.length (by omega)).mono ?_
    rintro e W2 ⟨rfl, hb2⟩
    have HS2 := Lib.hid (HS.out.keep hb2)
    clear hl
    go_wp2_with (first
      | (refine wpList_store_row rfl 83 _ _ rfl w.heap.size (setA (setR r l.length)) rfl rfl 83 _ HS2.out (by rw [setA_size]; exact Try.info83) (by simp) (setA_one _) ?_))
    have s2 := HS2.out.setRow (setR r l.length)
    refine bodyPost_ret (v := .tuple #[.agg (setA (rankF l r)), .int .i64 (rankErr l r)]) ?_ rfl ⟨rfl, ((h0.trans (hb.mono (by simp))).trans (hb2.mono (by omega))).trans (below_setRow (Nat.le_refl _) _)⟩
    have hr : rankF l r = setR r l.length := by funext j; simp [rankF, setR, hv.out]
    rw [hr, hv.out]
    simp [results, Try.results70, asAddr, s2.load]
  · have hv : Hid (rankErr l r = chkErr l) := by show _ = _; simp [rankErr, hl]
    go_enter Try.func70, Try.ntmps70
    go_wp2_with fail
    refine (check_any (h.keep h0) cap).mono ?_
    rintro e W ⟨rfl, hb⟩
    have s1 := (SetAt.new w).keep hb
    have HS := Lib.hid s1
    clear s1
    go_wp2_with (first
      | (refine wpList_store_row rfl 83 _ _ rfl w.heap.size setE rfl rfl 83 _ HS.out (by rw [setE_size]; exact Try.info83) (by simp) setE_one ?_))
    have s2 : SetAt (W.setRow w.heap.size setE) w.heap.size (fun _ => false) := by rw [setE_eq]; exact HS.out.setRow _
    refine bodyPost_ret (v := .tuple #[.agg (setA (rankF l r)), .int .i64 (rankErr l r)]) ?_ rfl ⟨rfl, (h0.trans (hb.mono (by simp))).trans (below_setRow (Nat.le_refl _) _)⟩
    have hr : rankF l r = fun _ => false := by funext j; simp [rankF, hv.out, hl]
    rw [hr, hv.out]
    simp [results, Try.results70, asAddr, s2.load]
end Go.Proofs.Ytoloiingodigpaa
