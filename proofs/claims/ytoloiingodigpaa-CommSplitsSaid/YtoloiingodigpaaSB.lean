import Derived.Test.YtoloiingodigpaaSA
import Derived.Shelf.RegionOpenPlain
import Derived.RegionIn
namespace Go.Proofs.Ytoloiingodigpaa
open Go.RowKit Go.Shelf Go.Lib
attribute [local go_sem] Oper.semAt_some litE
set_option maxRecDepth 100000
set_option maxHeartbeats 1000000

/-- the row of ranks is this list, and what was there before it is unchanged -/
def St (w0 : World) (L : List Int) (W : World) : Prop := RowAt W w0.heap.size L ∧ Below w0.heap.size w0 W
theorem St.cell {w0 W : World} {L : List Int} (h : St w0 L W) (i : Nat) (hi : i < L.length) : W.cell? ⟨w0.heap.size, i, none⟩ = some (.int .i64 (L.getD i 0)) := by
  rw [h.1.cell i hi]; simp [List.getD, hi]
theorem St.open_ {w0 W : World} {L : List Int} (h : St w0 L W) (i : Nat) : W.frozen? ⟨w0.heap.size, i, none⟩ = false := h.1.open_ i
theorem St.drewN {w0 W : World} {L : List Int} (h : St w0 L W) (q : Nat) : St w0 L (W.drewN q) := ⟨h.1, ⟨h.2.os, h.2.tape, h.2.output, h.2.size, h.2.block⟩⟩
theorem St.drew {w0 W : World} {L : List Int} (h : St w0 L W) : St w0 L W.drew := ⟨h.1, ⟨h.2.os, h.2.tape, h.2.output, h.2.size, h.2.block⟩⟩
theorem St.swap {w0 W : World} {L : List Int} (h : St w0 L W) (i j : Nat) : St w0 (swapL L i j) ((W.setCell ⟨w0.heap.size, i, none⟩ (.int .i64 (L.getD j 0))).setCell ⟨w0.heap.size, j, none⟩ (.int .i64 (L.getD i 0))) :=
  ⟨(h.1.set i _).set j _, (h.2.setCell (Nat.le_refl _) _).setCell (Nat.le_refl _) _⟩

/-- swapRange: two ranges of the same length change places -/
theorem swapRange_any (w0 : World) (fv : Value) (P X M Y Q : List Int) (a b k N : Nat) (hP : Hid (P.length = a)) (hX : Hid (X.length = k)) (hY : Hid (Y.length = k)) (hM : Hid (P.length + X.length + M.length = b)) (hL : Hid ((P ++ X ++ M ++ Y ++ Q).length = N)) (hN : N ≤ 64) (W : World) (h : St w0 (P ++ X ++ M ++ Y ++ Q) W) :
    Calls Try.prog 149 #[.slice (some ⟨w0.heap.size, 0, none⟩) N N, .int .i64 a, .int .i64 b, .int .i64 k, fv] W fun e w' => e = .returned (.tuple #[]) ∧ St w0 (P ++ Y ++ M ++ X ++ Q) w' := by
  have hab : a + k ≤ b ∧ b + k ≤ N := by
    have h1 := hP.out; have h2 := hX.out; have h3 := hY.out; have h4 := hM.out; have h5 := hL.out
    simp at h5
    omega
  obtain ⟨hab1, hab2⟩ := hab
  have H := Lib.hid h
  clear h
  have mixed : Try.prog.follows Departure.mixedOrders = true := by kernel_rfl
  have t0 := Try.underlying0; have a0 := Try.isAgg0; have z0 := Try.sizeOf0; have v0 := Try.zeroValue0
  have t3 := Try.underlying3; have a3 := Try.isAgg3; have z3 := Try.sizeOf3; have v3 := Try.zeroValue3
  have t22 := Try.underlying22; have u22 := run_underlying Try.underlying22
  go_enter Try.func149, Try.ntmps149
  go_wp2_with fail
  go_loopw [10] (fun i wr => ∃ (t : Nat) (X1 X2 Y1 Y2 : List Int), t ≤ k ∧ i = .int .i64 t ∧ Hid (X = X1 ++ X2) ∧ Hid (Y = Y1 ++ Y2) ∧ Hid (X1.length = t) ∧ Hid (Y1.length = t) ∧ Hid (St w0 (P ++ Y1 ++ X2 ++ M ++ X1 ++ Y2 ++ Q) wr)) (fun i _ => k - (intOf i).toNat)
  case atStart => exact ⟨0, [], X, [], Y, Nat.zero_le _, rfl, rfl, rfl, rfl, rfl, by show St _ _ _; simpa using H.out⟩
  case round =>
    obtain ⟨t, X1, X2, Y1, Y2, ht, rfl, hX12, hY12, hX1, hY1, hS⟩ := hrel
    by_cases htk : t < k
    · obtain ⟨x, X3, e1⟩ : ∃ x X3, X2 = x :: X3 := by
        cases X2 with
        | nil => have h1 := hX.out; rw [hX12.out] at h1; have h2 := hX1.out; simp at h1; omega
        | cons x X3 => exact ⟨x, X3, rfl⟩
      obtain ⟨y, Y3, e2⟩ : ∃ y Y3, Y2 = y :: Y3 := by
        cases Y2 with
        | nil => have h1 := hY.out; rw [hY12.out] at h1; have h2 := hY1.out; simp at h1; omega
        | cons y Y3 => exact ⟨y, Y3, rfl⟩
      subst e1 e2
      have hS1 : St w0 ((P ++ Y1) ++ x :: ((X3 ++ M ++ X1) ++ y :: (Y3 ++ Q))) wr := by have := hS.out; simpa using this
      have l1 : (P ++ Y1).length = a + t := by have h1 := hP.out; have h2 := hY1.out; simp; omega
      have l2 : (P ++ Y1).length + 1 + (X3 ++ M ++ X1).length = b + t := by
        have h1 := hP.out; have h2 := hY1.out; have h3 := hM.out; have h4 := hX1.out; have h5 := congrArg List.length hX12.out
        simp at h5 ⊢; omega
      have hS2 := (hS1.swap (a + t) (b + t)).drew
      rw [swapL_split _ _ _ _ _ _ _ l1.symm l2.symm] at hS2
      have v1 : ((P ++ Y1) ++ x :: ((X3 ++ M ++ X1) ++ y :: (Y3 ++ Q))).getD (a + t) 0 = x := getD_mid _ _ _ _ l1.symm
      have v2 : ((P ++ Y1) ++ x :: ((X3 ++ M ++ X1) ++ y :: (Y3 ++ Q))).getD (b + t) 0 = y := by
        rw [← List.cons_append, ← List.append_assoc]; exact getD_mid _ _ _ _ (by rw [← l2]; simp; omega)
      have lL : ((P ++ Y1) ++ x :: ((X3 ++ M ++ X1) ++ y :: (Y3 ++ Q))).length = N := by
        have h1 := hL.out; have h5 := congrArg List.length hX12.out; have h6 := congrArg List.length hY12.out; have h7 := hX1.out; have h8 := hY1.out; have h9 := hX.out; have h10 := hY.out
        simp at h1 h5 h6 ⊢; omega
      have c1 := hS1.cell (a + t) (by omega)
      have c2 := hS1.cell (b + t) (by omega)
      have f1 := hS1.open_ (a + t)
      have f2 := hS1.open_ (b + t)
      rw [v1, v2] at hS2
      rw [v1] at c1
      rw [v2] at c2
      have c3 : (wr.setCell ⟨w0.heap.size, a + t, none⟩ (.int .i64 y)).cell? ⟨w0.heap.size, b + t, none⟩ = some (.int .i64 y) := by
        have hne : (⟨w0.heap.size, a + t, none⟩ : Addr) ≠ ⟨w0.heap.size, b + t, none⟩ := fun e => by have := congrArg Addr.off e; simp at this; omega
        rw [World.cell?_setCell_other (h := hne)]; exact c2
      have HS2 : Hid (St w0 (P ++ (Y1 ++ [y]) ++ X3 ++ M ++ (X1 ++ [x]) ++ Y3 ++ Q) ((wr.setCell ⟨w0.heap.size, a + t, none⟩ (.int .i64 y)).setCell ⟨w0.heap.size, b + t, none⟩ (.int .i64 x)).drew) := by
        show St _ _ _; simpa using hS2
      have HX12 : Hid (X = (X1 ++ [x]) ++ X3) := by show _ = _; rw [hX12.out]; simp
      have HY12 : Hid (Y = (Y1 ++ [y]) ++ Y3) := by show _ = _; rw [hY12.out]; simp
      have HX1 : Hid ((X1 ++ [x]).length = t + 1) := by show _ = _; have := hX1.out; simp; omega
      have HY1 : Hid ((Y1 ++ [y]).length = t + 1) := by show _ = _; have := hY1.out; simp; omega
      clear hS1 hS2 hS v1 v2 l1 l2 lL hX12 hY12 hX1 hY1
      obtain ⟨iN, hiN⟩ : ∃ q, q = a + t := ⟨_, rfl⟩
      obtain ⟨jN, hjN⟩ : ∃ q, q = b + t := ⟨_, rfl⟩
      have ea : ((a : Int) + (t : Int)).toNat = iN := by omega
      have pa : (0 : Int) ≤ (a : Int) + (t : Int) := by omega
      have ba : (a : Int) + (t : Int) < (N : Int) := by omega
      have ra : IntKind.i64.wrap ((a : Int) + (t : Int)) = (a : Int) + (t : Int) := by rw [IntKind.wrap_i64]; omega
      have ec : ((b : Int) + (t : Int)).toNat = jN := by omega
      have pc : (0 : Int) ≤ (b : Int) + (t : Int) := by omega
      have bc : (b : Int) + (t : Int) < (N : Int) := by omega
      have rc : IntKind.i64.wrap ((b : Int) + (t : Int)) = (b : Int) + (t : Int) := by rw [IntKind.wrap_i64]; omega
      rw [← hiN] at c1 f1 c3 HS2
      rw [← hjN] at c2 f2 c3 HS2
      clear hiN hjN
      go_wp2_with fail
      go_big_region_o
      clear c1 c2 c3 f1 f2
      generalize ((wr.setCell ⟨w0.heap.size, iN, none⟩ (.int .i64 y)).setCell ⟨w0.heap.size, jN, none⟩ (.int .i64 x)).drew = w2 at HS2 ⊢
      clear ea ec
      go_wp2_with fail
      go_roundw
      case rel => exact ⟨t + 1, _, _, _, _, by omega, by go_num, HX12, HY12, HX1, HY1, HS2⟩
      case measure => simp [intOf]; omega
    · have HE : Hid (St w0 (P ++ Y ++ M ++ X ++ Q) wr) := by
        show St _ _ _
        have hx : X2 = [] := by
          have h1 := hX.out; rw [hX12.out] at h1; have h2 := hX1.out; simp at h1; exact List.length_eq_zero_iff.1 (by omega)
        have hy : Y2 = [] := by
          have h1 := hY.out; rw [hY12.out] at h1; have h2 := hY1.out; simp at h1; exact List.length_eq_zero_iff.1 (by omega)
        have := hS.out
        rw [hX12.out, hY12.out]
        subst hx hy
        simpa using this
      clear hS
      go_wp2_with fail
      first | (refine bodyPost_end (results_none rfl _ _ _) rfl ?_) | (refine bodyPost_ret (results_none rfl _ _ _) rfl ?_)
      exact ⟨rfl, HE.out⟩
end Go.Proofs.Ytoloiingodigpaa
