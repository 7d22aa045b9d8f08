import Derived.Test.YtoloiingodigpaaSB
namespace Go.Proofs.Ytoloiingodigpaa
open Go.RowKit Go.Shelf Go.Lib
attribute [local go_sem] Oper.semAt_some litE
set_option maxRecDepth 100000
set_option maxHeartbeats 1000000

/-- rotate: two ranges that lie side by side change places -/
theorem rotate_any (w0 : World) (fv : Value) (P A B Q : List Int) (a m b N : Nat) (hP : Hid (P.length = a)) (hA : Hid (P.length + A.length = m)) (hB : Hid (P.length + A.length + B.length = b)) (hL : Hid ((P ++ A ++ B ++ Q).length = N)) (hN : N ≤ 64)
    (hA0 : a < m) (hB0 : m < b) (W : World) (h : St w0 (P ++ A ++ B ++ Q) W) :
    Calls Try.prog 148 #[.slice (some ⟨w0.heap.size, 0, none⟩) N N, .int .i64 a, .int .i64 m, .int .i64 b, fv] W fun e w' => e = .returned (.tuple #[]) ∧ St w0 (P ++ B ++ A ++ Q) w' := by
  have hb : b ≤ N := by
    have h3 := hB.out; have h5 := hL.out
    simp at h5
    omega
  obtain ⟨i0, hi0⟩ : ∃ i0 : Nat, i0 = m - a := ⟨_, rfl⟩
  obtain ⟨j0, hj0⟩ : ∃ j0 : Nat, j0 = b - m := ⟨_, rfl⟩
  have ei : (m : Int) - a = i0 := by omega
  have ej : (b : Int) - m = j0 := by omega
  have HA : Hid (A.length = i0) := by show _ = _; have := hA.out; have := hP.out; omega
  have HB : Hid (B.length = j0) := by show _ = _; have := hB.out; have := hA.out; omega
  have H := Lib.hid h
  clear h
  go_enter Try.func148, Try.ntmps148
  go_wp2_with fail
  go_loopw [10, 11] (fun i j wr => ∃ (x y : Nat) (U X Y V : List Int), i = .int .i64 x ∧ j = .int .i64 y ∧ 0 < x ∧ 0 < y ∧ x ≤ m ∧ m + y ≤ N ∧ Hid (U.length = m - x) ∧ Hid (X.length = x) ∧ Hid (Y.length = y) ∧ Hid (U ++ Y ++ X ++ V = P ++ B ++ A ++ Q) ∧ Hid (St w0 (U ++ X ++ Y ++ V) wr)) (fun i j _ => (intOf i).toNat + (intOf j).toNat)
  case atStart => exact ⟨i0, j0, P, A, B, Q, by go_num, by go_num, by omega, by omega, by omega, by omega, by show _ = _; have := hP.out; omega, HA, HB, rfl, H⟩
  case round =>
    obtain ⟨x, y, U, X, Y, V, rfl, rfl, hx, hy, hu, hyN, hU, hX, hY, hT, hS⟩ := hrel
    have HLN : Hid ((U ++ X ++ Y ++ V).length = N) := by
      show _ = _
      have h1 := congrArg List.length hT.out; have h2 := hL.out
      simp at h1 h2 ⊢; omega
    by_cases hxy : x = y
    · subst hxy
      have hc := swapRange_any w0 fv U X [] Y V (m - x) m x N hU hX hY (by show _ = _; have := hU.out; have := hX.out; simp; omega) (by show _ = _; have := HLN.out; simpa using this) hN wr (by have := hS.out; simpa using this)
      rw [show ((m - x : Nat) : Int) = (m : Int) - x by omega] at hc
      have HC := Lib.hid hc
      clear hc
      go_wp2_with (refine HC.out.mono ?_; rintro e w1 ⟨rfl, hS1⟩)
      first | (refine bodyPost_end (results_none rfl _ _ _) rfl ?_) | (refine bodyPost_ret (results_none rfl _ _ _) rfl ?_)
      refine ⟨rfl, ?_⟩
      rw [← hT.out]
      simpa using hS1
    · by_cases hlt : y < x
      · obtain ⟨X1, X2, e1, e2⟩ := split_at' X y (by have := hX.out; omega)
        have HX1 := Lib.hid e2
        have HX2 : Hid (X2.length = x - y) := by show _ = _; have := hX.out; rw [e1] at this; simp at this; omega
        have hc := swapRange_any w0 fv U X1 X2 Y V (m - x) m y N hU HX1 hY (by show _ = _; have := hU.out; have := HX1.out; have := HX2.out; omega) (by show _ = _; have := HLN.out; rw [e1] at this; simpa using this) hN wr (by have := hS.out; rw [e1] at this; simpa using this)
        rw [show ((m - x : Nat) : Int) = (m : Int) - x by omega] at hc
        have HC := Lib.hid hc
        have HT : Hid ((U ++ Y) ++ X1 ++ X2 ++ V = P ++ B ++ A ++ Q) := by show _ = _; rw [← hT.out, e1]; simp
        have HU2 : Hid ((U ++ Y).length = m - (x - y)) := by show _ = _; have := hU.out; have := hY.out; simp; omega
        clear hc e1 e2
        go_wp2_with (refine HC.out.mono ?_; rintro e w1 ⟨rfl, hS1⟩)
        have HS1 := Lib.hid hS1
        clear hS1
        go_wp2_with fail
        go_roundw
        case rel => exact ⟨x - y, y, U ++ Y, X2, X1, V, by go_num, by go_num, by omega, by omega, by omega, by omega, HU2, HX2, HX1, HT, by show St _ _ _; simpa using HS1.out⟩
        case measure => simp [intOf]; omega
      · obtain ⟨Y1, Y2, e1, e2⟩ := split_at' Y (y - x) (by have := hY.out; omega)
        have HY1 := Lib.hid e2
        have HY2 : Hid (Y2.length = x) := by show _ = _; have := hY.out; rw [e1] at this; simp at this; omega
        have hc := swapRange_any w0 fv U X Y1 Y2 V (m - x) (m + y - x) x N hU hX HY2 (by show _ = _; have := hU.out; have := hX.out; have := HY1.out; omega) (by show _ = _; have := HLN.out; rw [e1] at this; simpa using this) hN wr (by have := hS.out; rw [e1] at this; simpa using this)
        rw [show ((m - x : Nat) : Int) = (m : Int) - x by omega, show ((m + y - x : Nat) : Int) = (m : Int) + y - x by omega] at hc
        have HC := Lib.hid hc
        have HT : Hid (U ++ Y1 ++ Y2 ++ (X ++ V) = P ++ B ++ A ++ Q) := by show _ = _; rw [← hT.out, e1]; simp
        clear hc e1 e2
        go_wp2_with (refine HC.out.mono ?_; rintro e w1 ⟨rfl, hS1⟩)
        have HS1 := Lib.hid hS1
        clear hS1
        go_wp2_with fail
        go_roundw
        case rel => exact ⟨x, y - x, U, Y2, Y1, X ++ V, by go_num, by go_num, by omega, by omega, by omega, by omega, hU, HY2, HY1, HT, by show St _ _ _; simpa using HS1.out⟩
        case measure => simp [intOf]; omega
end Go.Proofs.Ytoloiingodigpaa
