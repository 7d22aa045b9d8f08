import Derived.Test.YtbhkenphcahifaaGreatSA
import Derived.Test.YtbhkenphcahifaaGreatPH
namespace Go.Proofs.YtbhkenphcahifaaGreat
open Go.RowKit Go.Shelf
attribute [local go_sem] Oper.semAt_some
set_option maxRecDepth 100000
set_option maxHeartbeats 4000000

def ascI (n k : Nat) : List Int := (List.range n).map fun j => if j < k then (j : Int) else 0
theorem asc_zero (n : Nat) : ascI n 0 = List.replicate n 0 := by
  unfold ascI
  refine List.ext_getElem (by simp) fun i h1 h2 => by simp
theorem asc_len (n k : Nat) : (ascI n k).length = n := by simp [ascI]
theorem asc_set (n k : Nat) : (ascI n k).set k (k : Int) = ascI n (k + 1) := by
  unfold ascI
  refine List.ext_getElem (by simp) fun i h1 h2 => ?_
  simp only [List.getElem_set, List.getElem_map, List.getElem_range]
  by_cases h : k = i
  · subst h; simp
  · rw [if_neg h]
    by_cases h3 : i < k
    · rw [if_pos h3, if_pos (by omega)]
    · rw [if_neg h3, if_neg (by omega)]
theorem ascending_any (n : Nat) (hn : n ≤ 1000000) (w : World) : Calls Tryz.prog 194 #[.int .i64 (n : Int)] w fun e w' => ∃ v, e = .returned v ∧ NewInts w.heap.size w' v (ascI n n) ∧ Below w.heap.size w w' := by
  have hmk := make_ints n (by omega)
  have hba : RowAt (w.alloc (.cells (rowA (List.replicate n 0)) 3)) w.heap.size (List.replicate n 0) := heap_alloc_new w _
  rw [← asc_zero] at hba hmk
  have H0 : Hid (RowAt (w.alloc (.cells (rowA (ascI n 0)) 3)) w.heap.size (ascI n 0) ∧ Below w.heap.size w (w.alloc (.cells (rowA (ascI n 0)) 3))) := ⟨hba, (Below.refl _ _).alloc (Nat.le_refl _) _⟩
  obtain ⟨g, hg⟩ : ∃ g, g = w.heap.size := ⟨_, rfl⟩
  have HG := Lib.hid hg
  clear hba
  go_enter Tryz.func194, Tryz.ntmps194
  go_wp2_with fail
  rw [← hg] at H0 ⊢
  clear hmk hg
  generalize w.alloc (.cells (rowA (ascI n 0)) 3) = X at *
  go_loopw [9] (fun iv wr => ∃ (k : Nat), k ≤ n ∧ iv = .int .i64 (k : Int) ∧ Hid (RowAt wr g (ascI n k) ∧ Below g w wr)) (fun iv _ => n - (intOf iv).toNat)
  case atStart => exact ⟨0, Nat.zero_le _, rfl, H0⟩
  case round =>
    clear H0
    obtain ⟨k, hk, rfl, HI⟩ := hrel
    by_cases hlt : k < n
    · have e0 := HI.out.1.cell k (by rw [asc_len]; exact hlt)
      have o0 := HI.out.1.open_ k
      have l0 := HI.out.1.lt
      have HN : Hid (RowAt (wr.setCell ⟨g, k, none⟩ (.int .i64 (k : Int))) g (ascI n (k + 1)) ∧ Below g w (wr.setCell ⟨g, k, none⟩ (.int .i64 (k : Int)))) := ⟨by rw [← asc_set]; exact HI.out.1.set k _, HI.out.2.setCell (p := ⟨g, k, none⟩) (Nat.le_refl _) _⟩
      generalize (ascI n k)[k]'(by rw [asc_len]; exact hlt) = old at *
      have hji : (k : Int) < (n : Int) := by omega
      clear HI
      go_wp2_with fail
      go_roundw
      case rel => exact ⟨k + 1, by omega, by go_num, HN⟩
      case measure => simp [intOf]; omega
    · have hkn : k = n := by omega
      have HR : Hid (NewInts w.heap.size wr (.slice (some ⟨g, 0, none⟩) n n) (ascI n n) ∧ Below w.heap.size w wr) := by
        have h1 := HI.out.1
        rw [hkn] at h1
        have h2 := h1.own (B := w.heap.size) (by rw [HG.out]; exact Nat.le_refl _) (by rw [asc_len]; omega)
        rw [asc_len] at h2
        exact ⟨h2, HG.out ▸ HI.out.2⟩
      clear HI hkn
      go_wp2_with fail
      go_ret
      exact ⟨_, rfl, HR.out.1, HR.out.2⟩
end Go.Proofs.YtbhkenphcahifaaGreat
