import Derived.Test.YtbhkenphcahifaaGreatNY
namespace Go.Proofs.YtbhkenphcahifaaGreat
open Go.RowKit Go.Shelf
set_option maxRecDepth 100000
set_option maxHeartbeats 4000000

theorem inB_two {n x y : Int} (h : inB n [x, y] = true) : (0 ≤ x ∧ x ≤ n - 1) ∧ (0 ≤ y ∧ y ≤ n - 1) := by simpa [inB] using h
theorem dragSteps_make {l : List Int} {hosts x y : Int} (hv : vOk 3 l hosts) (hin : inB (swI 3 l) [x, y] = true) (lo : Nat) (W : World) :
    RMake lo 197 (.agg #[.int .i64 (l.getD 0 0), .int .i64 (l.getD 1 0), .int .i64 (l.getD 0 0 * l.getD 1 0 + 1)]) x y (dragSteps l x y) W := by
  obtain ⟨⟨hx0, hx1⟩, hy0, hy1⟩ := inB_two hin
  have hd : dOk l hosts := by
    rcases hv with ⟨h0, h1⟩ | ⟨h0, h1⟩ | ⟨h0, h1⟩
    · cases h0
    · cases h0
    · exact h1
  have hs : swI 3 l = l.getD 0 0 * (l.getD 0 0 * l.getD 1 0 + 1) := rfl
  rw [hs] at hx1 hy1
  exact dragMake lo _ _ x y hd.2.2.1.1 hd.2.2.1.2 hd.2.2.2.1.1 hd.2.2.2.1.2 hx0 (by omega) hy0 (by omega) W
theorem Route_drag {w : World} {sa : Option Addr} {l : List Int} (h : Ints w sa l) (sc : Nat) (hosts x y : Int) (hv : vOk 3 l hosts) (hin : inB (swI 3 l) [x, y] = true) (hy : y < hoI 3 l) :
    Calls Tryz.prog 87 #[.agg #[.int .i64 3, .slice sa l.length sc, .int .i64 hosts], .int .i64 x, .int .i64 y] w fun e w' => ∃ v, e = .returned (.tuple #[v, .int .i64 0]) ∧ NewInts w.heap.size w' v (x :: (dragSteps l x y).map (·.1)) ∧ Below w.heap.size w w' :=
  Route3_any h sc hosts x y hv hin hy _ (Nat.le_trans (dragL_len _ _ _ _) (by decide)) (fun W _ => dragSteps_make hv hin _ W)
theorem Classes_drag {w : World} {sa : Option Addr} {l : List Int} (h : Ints w sa l) (sc : Nat) (hosts x y : Int) (hv : vOk 3 l hosts) (hin : inB (swI 3 l) [x, y] = true) (hy : y < hoI 3 l) :
    Calls Tryz.prog 88 #[.agg #[.int .i64 3, .slice sa l.length sc, .int .i64 hosts], .int .i64 x, .int .i64 y] w fun e w' => ∃ v, e = .returned (.tuple #[v, .int .i64 0]) ∧ NewInts w.heap.size w' v ((dragSteps l x y).map (·.2)) ∧ Below w.heap.size w w' :=
  Classes3_any h sc hosts x y hv hin hy _ (Nat.le_trans (dragL_len _ _ _ _) (by decide)) (fun W _ => dragSteps_make hv hin _ W)
theorem drag_example : (dragSteps [2, 1] 1 2) = [(0, 0), (3, 0), (2, 1)] := by decide
end Go.Proofs.YtbhkenphcahifaaGreat
