import Derived.Test.YtoloiingodigpaaAE
namespace Go.Proofs.Ytoloiingodigpaa
open Go.RowKit Go.Shelf Go.Lib
set_option maxRecDepth 100000
theorem sortL_101 : sortL [1, 0, 1] = [0, 1, 1] := by
  simp [sortL, List.mergeSort, List.MergeSort.Internal.splitInTwo]
theorem colorsOf_w : colorsOf [1, 0, 1, -2] = [0, 1] := by
  unfold colorsOf
  rw [show ([1, 0, 1, -2] : List Int).filter (fun x => x != -2) = [1, 0, 1] by decide, sortL_101]
  kernel_rfl
theorem splitF_w : splitF [1, 0, 1, -2] [5, 0, 2, 0] (iotaL 4) ([iotaL 4] ++ [iotaL 4]) = ([[0, 1, 2, 3], [0, 1, 2, 3], [1], [2, 0]], [3, 2, 3, -2]) := by
  unfold splitF
  rw [colorsOf_w, show orderL [5, 0, 2, 0] = [1, 3, 2, 0] by kernel_rfl]
  decide
end Go.Proofs.Ytoloiingodigpaa
