import Derived.Test.YtoloiingodigpaaV
namespace Go.Proofs.Ytoloiingodigpaa
open Go.RowKit Go.Shelf
attribute [local go_sem] Oper.semAt_some litE
set_option maxRecDepth 100000
set_option maxHeartbeats 1000000

/-- 0, 1, .. n-1 -/
def iotaL (n : Nat) : List Int := (List.range n).map fun (i : Nat) => (i : Int)
def fillL (n k : Nat) : List Int := iotaL k ++ List.replicate (n - k) 0
@[simp] theorem iotaL_len (n : Nat) : (iotaL n).length = n := by simp [iotaL]
theorem fillL_len (n k : Nat) (h : k ≤ n) : (fillL n k).length = n := by simp [fillL]; omega
theorem fillL_zero (n : Nat) : fillL n 0 = List.replicate n 0 := by simp [fillL, iotaL]
theorem fillL_all (n : Nat) : fillL n n = iotaL n := by simp [fillL]
theorem fillL_set (n k : Nat) (h : k < n) : (fillL n k).set k (k : Int) = fillL n (k + 1) := by
  have e : n - k = (n - (k + 1)) + 1 := by omega
  unfold fillL
  rw [e, List.replicate_succ, List.set_append_right _ _ (by simp)]
  simp [iotaL, List.range_succ]

theorem New_ok (n : Nat) (h1 : 1 ≤ n) (hn : n ≤ 64) (w : World) :
    Calls Try.prog 57 #[.int .i64 n] w fun e w' => ∃ sp m, e = .returned (.tuple #[.pointer (some ⟨sp, 0, none⟩), .int .i64 0]) ∧ SpaceAt NoB w' sp m [iotaL n] ∧ Below w.heap.size w w' ∧ w.heap.size ≤ m := by
  have hmm := @run_makeMap Try.prog
  have hmk := make_ints n (by omega) w
  have R0 : RowAt (w.alloc (.cells (rowA (List.replicate n 0)) 3)) w.heap.size (fillL n 0) := by rw [fillL_zero]; exact heap_alloc_new w _
  have b0 : Below w.heap.size w (w.alloc (.cells (rowA (List.replicate n 0)) 3)) := (Below.refl _ _).alloc (Nat.le_refl _) _
  go_enter Try.func57, Try.ntmps57
  go_wp2_with fail
  generalize w.alloc (.cells (rowA (List.replicate n 0)) 3) = w0 at *
  clear hmk
  go_loopw [16] (fun i wr => ∃ k : Nat, k ≤ n ∧ i = .int .i64 k ∧ RowAt wr w.heap.size (fillL n k) ∧ Below w.heap.size w wr) (fun i _ => n - (intOf i).toNat)
  case atStart => exact ⟨0, Nat.zero_le _, rfl, R0, b0⟩
  case round =>
    obtain ⟨k, hk, rfl, hR, hb⟩ := hrel
    have hlt := hR.lt
    by_cases hkn : k < n
    · have hc := hR.cell k (by rw [fillL_len n k hk]; omega)
      have hfz := hR.open_ k
      have hR2 := hR.set k (k : Int)
      rw [fillL_set n k hkn] at hR2
      have hb2 : Below w.heap.size w (wr.setCell ⟨w.heap.size, k, none⟩ (.int .i64 k)) := hb.setCell (Nat.le_refl _) _
      generalize (fillL n k)[k]'_ = x at *
      clear R0 b0 hR
      go_wp2_with fail
      go_roundw
      case rel => exact ⟨k + 1, by omega, by go_num, hR2, hb2⟩
      case measure => simp [intOf]; omega
    · have hk' : k = n := by omega
      subst hk'
      rw [fillL_all] at hR
      have hints := hR.ints (by simp; omega)
      have HR := Lib.hid hints
      clear hR hints R0 b0
      have hm0 : MapAt (wr.alloc (.map #[] 0)) wr.heap.size [] := heap_alloc_new wr _
      have hbm : Below wr.heap.size wr (wr.alloc (.map #[] 0)) := (Below.refl _ _).alloc (Nat.le_refl _) _
      have hins := map_insert hm0 (.slice (some ⟨w.heap.size, 0, none⟩) k k)
      obtain ⟨hp1, hp2, hp3⟩ := hm0.put (vs' := [] ++ [.slice (some ⟨w.heap.size, 0, none⟩) k k])
      have hp4 := hp2.trans (Below.refl _ _)
      have hz0 : (wr.alloc (.map #[] 0)).heap.size = wr.heap.size + 1 := by simp
      rw [hz0] at hp3
      have hin : (Instr.mapUpdate 58 (.map (some wr.heap.size)) (.int .i64 0) (.slice (some ⟨w.heap.size, 0, none⟩) k k)).run Try.prog (wr.alloc (.map #[] 0)) = .ok () ((wr.alloc (.map #[] 0)).putObj wr.heap.size (.map (mapEs ([] ++ [.slice (some ⟨w.heap.size, 0, none⟩) k k])) ([] ++ [Value.slice (some ⟨w.heap.size, 0, none⟩) k k]).length)) := hins
      generalize hW : (wr.alloc (.map #[] 0)).putObj wr.heap.size (.map (mapEs ([] ++ [.slice (some ⟨w.heap.size, 0, none⟩) k k])) ([] ++ [Value.slice (some ⟨w.heap.size, 0, none⟩) k k]).length) = W at *
      clear hins hW hm0
      have HIN := Lib.hid hin
      have HP1 := Lib.hid hp1
      have hb3 : Below wr.heap.size wr W := hbm.trans hp2
      have hb4 : Below w.heap.size w W := hb.trans (hb3.mono (by omega))
      clear hin hp1 hp2 hp4 hbm
      go_wp2_with fail
      refine upon_run HIN.out ?_
      go_wp2_with fail
      go_ret2
      have hb5 : Below W.heap.size W (W.alloc (.cells #[.map (some wr.heap.size)] 60)) := (Below.refl _ _).alloc (Nat.le_refl _) _
      refine ⟨wr.heap.size + 1, wr.heap.size, rfl, ⟨by rw [← hp3]; exact heap_alloc_new W _, _, (MapAt.keep HP1.out hb5 (by omega)), rfl, fun i g hg => ?_⟩, hb4.alloc (by omega) _, by omega⟩
      match i, hg with
      | 0, hg =>
        simp at hg
        subst hg
        refine ⟨_, rfl, ⟨w.heap.size, 0, none⟩, k, by simp, ?_, fun _ h => h⟩
        exact (HR.out.keep hb3).keep hb5

theorem Group_ok {w : World} {sp m : Nat} {gs : List (List Int)} (h : SpaceAt NoB w sp m gs) (c : Nat) (g : List Int) (hg : gs[c]? = some g) :
    Calls Try.prog 48 #[.pointer (some ⟨sp, 0, none⟩), .int .i64 c] w fun e w' => ∃ v, e = .returned (.tuple #[v, .int .i64 0]) ∧ NewInts w.heap.size w' v g ∧ Below w.heap.size w w' := by
  have hf := find_ok h c g hg
  clear h
  go_enter Try.func48, Try.ntmps48
  go_wp2_with (first
    | (refine hf.mono ?_; rintro e w' ⟨v, rfl, ⟨a, cap, rfl, hI, _⟩, rfl⟩)
    | (refine (clone_any (by assumption) _).mono ?_; rintro e w' ⟨u, rfl, hu, hb⟩))
  go_ret2
  exact ⟨u, rfl, hu, hb⟩

theorem Dup_ok {w : World} {sp m : Nat} {gs : List (List Int)} (h : SpaceAt NoB w sp m gs) (h1 : 1 ≤ gs.length) (hN : gs.length + 1 ≤ 64) (c : Nat) (g : List Int) (hg : gs[c]? = some g) (hn : g ≠ []) :
    Calls Try.prog 49 #[.pointer (some ⟨sp, 0, none⟩), .int .i64 c] w fun e w' => e = .returned (.tuple #[.int .i64 gs.length, .int .i64 0]) ∧ SpaceAt NoB w' sp m (gs ++ [g]) ∧ KP w w' ∧ BelowU m w.heap.size w w' := by
  have hf := find_ok h c g hg
  have hfl := full_any h (by omega) 1 (by omega)
  have hdec : decide (64 < gs.length + 1) = false := by simp; omega
  rw [hdec] at hfl
  have H := Lib.hid h
  clear h
  go_enter Try.func49, Try.ntmps49
  go_wp2_with (first
    | (refine hf.mono ?_; rintro e w' ⟨v, rfl, ⟨a, cap, rfl, hI, _⟩, rfl⟩)
    | (refine hfl.mono ?_; rintro e w' ⟨rfl, rfl⟩)
    | (refine (clone_any (by assumption) _).mono ?_; rintro e w2 ⟨u, rfl, hu, hb⟩; have hs2 := H.out.keep hb; have hu2 := GrpVal.of_new (ex := NoB) hu hn (fun _ _ h => h))
    | (refine (add_any (by assumption) h1 (by omega) (by assumption)).mono ?_; rintro e w3 ⟨rfl, hs3, hk3, hz3, hbm3⟩))
  go_ret2
  exact ⟨rfl, hs3, (KeepP.of_below hb).trans hk3, (BelowU.of hb (Nat.le_refl _)).trans (BelowU.ofM hbm3)⟩

theorem Free_zero {w : World} {sp m : Nat} {gs : List (List Int)} (h : SpaceAt NoB w sp m gs) (g : List Int) (hg : gs[0]? = some g) :
    Calls Try.prog 52 #[.pointer (some ⟨sp, 0, none⟩), .int .i64 0] w fun e w' => e = .returned (.int .i64 6) ∧ w = w' := by
  have hf := find_ok h 0 g hg
  clear h
  rw [show (((0 : Nat) : Int)) = 0 from rfl] at hf
  go_enter Try.func52, Try.ntmps52
  go_wp2_with (first
    | (refine hf.mono ?_; rintro e w' ⟨v, rfl, hv, rfl⟩))
  go_ret
  exact ⟨rfl, rfl⟩
end Go.Proofs.Ytoloiingodigpaa
