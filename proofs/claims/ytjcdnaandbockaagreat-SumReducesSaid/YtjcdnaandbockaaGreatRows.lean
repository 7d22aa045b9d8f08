/-
  No cell of these rows narrows 'for every input' (looked for: loops, veiled, ifaces, maps, wideKeys, modest, calm, conditions, laid).
  DERIVED. THE GIVEN ROWS OF THIS SEAT. 3 by the template 'for every input the law returns true; each argument reads behind the call as it read before'; 0 by the template 'total and deterministic' (their statements: YtjcdnaandbockaaGreatTotals.lean).
  GIVEN WITH THE SEED: the statements are not yours to turn. If you find one false, say at which input.
  Laid BY PROGRAM, IN A SANDBOX (cutbox-rows.mjs): the forced cells as the released guide's own fill.sh prints them over the translation 42917b98e285ca67… (all of the seat's roots in one cut). By AI agents, Wed Nov 11 2026. No macro, syntax, notation, axiom, sorry.
-/
import Derived.Test.YtjcdnaandbockaaGreatChecked
import GoSem.Claim
import GoSem.ClaimJoined
import GoSem.ClaimMapViews
import Derived.JoinedTies
import Derived.KernelRfl
namespace Go.Proofs.YtjcdnaandbockaaGreat
/- THE CELL 'sum', in the pinned program and in every row, IS THE sha256 OF THE DUMP (.gsa) THAT YtjcdnaandbockaaGreatProg.lean LOADS. Nothing in Lean hashes anything: it is a label: what it is worth is what the hold of that sum in a sandbox is worth. -/
noncomputable def Tryz.pinned : Pinned := { name := "ytjcdnaandbockaagreat", sum := "42917b98e285ca678a951de187085ddd6b4cd3d9507e8aeecba748e87ea8dfbf", checked := Tryz.checked }
namespace Rows
def none {H : Type} : Left H := { results := [], args := [] }

/-- 'armadalaw03.SumOps': WHATEVER THE INPUT: true; the input reads as it did. -/
def sumOpsSpec : ChangeSpec := { name := "sumOps", fn := fun _ => fun
  | [d1, d2, d3, d4] => { results := [.lit (.bool true)], args := [d1, d2, d3, d4] }
  | _ => none }
def sumOpsRow : OpenClaim := { program := "ytjcdnaandbockaagreat", sum := "42917b98e285ca678a951de187085ddd6b4cd3d9507e8aeecba748e87ea8dfbf", func := "armada/armadalaw03.SumOps", spec := "sumOps", inPlace := ["math/bits.Sub64", "math/bits.Add64"], unfollowed := true, recurses := true, apart := false }
def SumOpsSaid : Prop := sumOpsRow.holds Tryz.pinned (OpenSpec.ofChange sumOpsSpec)

/-- ITS FALSE NEIGHBOUR: 'it returns false'. Refute it at one input. -/
def sumOpsWrong : ChangeSpec := { name := "sumOps", fn := fun _ => fun
  | [d1, d2, d3, d4] => { results := [.lit (.bool false)], args := [d1, d2, d3, d4] }
  | _ => none }
def SumOpsWrongFalsely : Prop := sumOpsRow.holds Tryz.pinned (OpenSpec.ofChange sumOpsWrong)

/-- 'armadalaw03.SumReduces': WHATEVER THE INPUT: true; the input reads as it did. -/
def sumReducesSpec : ChangeSpec := { name := "sumReduces", fn := fun _ => fun
  | [d1, d2, d3] => { results := [.lit (.bool true)], args := [d1, d2, d3] }
  | _ => none }
def sumReducesRow : OpenClaim := { program := "ytjcdnaandbockaagreat", sum := "42917b98e285ca678a951de187085ddd6b4cd3d9507e8aeecba748e87ea8dfbf", func := "armada/armadalaw03.SumReduces", spec := "sumReduces", inPlace := ["math/bits.Sub64", "math/bits.Add64"], unfollowed := true, recurses := true, apart := false }
def SumReducesSaid : Prop := sumReducesRow.holds Tryz.pinned (OpenSpec.ofChange sumReducesSpec)

/-- ITS FALSE NEIGHBOUR: 'it returns false'. Refute it at one input. -/
def sumReducesWrong : ChangeSpec := { name := "sumReduces", fn := fun _ => fun
  | [d1, d2, d3] => { results := [.lit (.bool false)], args := [d1, d2, d3] }
  | _ => none }
def SumReducesWrongFalsely : Prop := sumReducesRow.holds Tryz.pinned (OpenSpec.ofChange sumReducesWrong)

/-- 'armadalaw03.SumAccs': WHATEVER THE INPUT: true; the input reads as it did. -/
def sumAccsSpec : ChangeSpec := { name := "sumAccs", fn := fun _ => fun
  | [d] => { results := [.lit (.bool true)], args := [d] }
  | _ => none }
def sumAccsRow : OpenClaim := { program := "ytjcdnaandbockaagreat", sum := "42917b98e285ca678a951de187085ddd6b4cd3d9507e8aeecba748e87ea8dfbf", func := "armada/armadalaw03.SumAccs", spec := "sumAccs", inPlace := ["math/bits.Sub64", "math/bits.Add64"], unfollowed := true, recurses := true, apart := false }
def SumAccsSaid : Prop := sumAccsRow.holds Tryz.pinned (OpenSpec.ofChange sumAccsSpec)

/-- ITS FALSE NEIGHBOUR: 'it returns false'. Refute it at one input. -/
def sumAccsWrong : ChangeSpec := { name := "sumAccs", fn := fun _ => fun
  | [d] => { results := [.lit (.bool false)], args := [d] }
  | _ => none }
def SumAccsWrongFalsely : Prop := sumAccsRow.holds Tryz.pinned (OpenSpec.ofChange sumAccsWrong)

/- THE SECOND FORM. 'bulk': how many values and letters a reading holds, each counted each time it is reached (what is shared counts as often as it is met; a slice's spare places count too). A statement '..UptoSaid' is the law's where the arguments, and the package variables that the reading takes, are together of bulk at most 1048576: NARROWER than '..Said'. Prove '..Said' where nothing that the law and all that it calls make is longer than what came in: it says more and counts as full. Else prove '..UptoSaid'. A law counts once. -/
mutual
def uptoBulk {H : Type} : DataW H → Nat
  | .lit (.string bytes) => bytes.length + 1
  | .lit _ => 1
  | .nil => 1
  | .ptr d => uptoBulk d + 1
  | .slice elems spare => uptoBulkAll elems + uptoBulkAll spare + 1
  | .agg parts => uptoBulkAll parts + 1
  | .iface _ d => uptoBulk d + 1
  | .map entries => uptoBulkEntries entries + 1
  | .held _ => 1
def uptoBulkAll {H : Type} : List (DataW H) → Nat
  | [] => 0
  | d :: r => uptoBulk d + uptoBulkAll r
def uptoBulkEntries {H : Type} : List (Lit × DataW H) → Nat
  | [] => 0
  | x :: r => uptoBulkEntry x + uptoBulkEntries r
def uptoBulkEntry {H : Type} : Lit × DataW H → Nat
  | (.string bytes, d) => bytes.length + uptoBulk d + 1
  | (_, d) => uptoBulk d + 1
 end
def uptoSmall : (H : Type) → List (DataW H) → Bool := fun _ ds => decide (uptoBulkAll ds ≤ 1048576)
def OpenSpec.upto (s : _root_.Go.ChangeSpec) : _root_.Go.OpenSpec := { _root_.Go.OpenSpec.ofChange s with cond := some uptoSmall }

/-- 'armadalaw03.SumOps', WHERE WHAT IT READS IS OF BULK AT MOST 1048576: true; the input reads as it did. -/
def sumOpsUptoRow : OpenClaim := { program := "ytjcdnaandbockaagreat", sum := "42917b98e285ca678a951de187085ddd6b4cd3d9507e8aeecba748e87ea8dfbf", func := "armada/armadalaw03.SumOps", spec := "sumOps", inPlace := ["math/bits.Sub64", "math/bits.Add64"], unfollowed := true, recurses := true, apart := false, narrowed := true }
def SumOpsUptoSaid : Prop := sumOpsUptoRow.holds Tryz.pinned (OpenSpec.upto sumOpsSpec)

/-- 'armadalaw03.SumReduces', WHERE WHAT IT READS IS OF BULK AT MOST 1048576: true; the input reads as it did. -/
def sumReducesUptoRow : OpenClaim := { program := "ytjcdnaandbockaagreat", sum := "42917b98e285ca678a951de187085ddd6b4cd3d9507e8aeecba748e87ea8dfbf", func := "armada/armadalaw03.SumReduces", spec := "sumReduces", inPlace := ["math/bits.Sub64", "math/bits.Add64"], unfollowed := true, recurses := true, apart := false, narrowed := true }
def SumReducesUptoSaid : Prop := sumReducesUptoRow.holds Tryz.pinned (OpenSpec.upto sumReducesSpec)

/-- 'armadalaw03.SumAccs', WHERE WHAT IT READS IS OF BULK AT MOST 1048576: true; the input reads as it did. -/
def sumAccsUptoRow : OpenClaim := { program := "ytjcdnaandbockaagreat", sum := "42917b98e285ca678a951de187085ddd6b4cd3d9507e8aeecba748e87ea8dfbf", func := "armada/armadalaw03.SumAccs", spec := "sumAccs", inPlace := ["math/bits.Sub64", "math/bits.Add64"], unfollowed := true, recurses := true, apart := false, narrowed := true }
def SumAccsUptoSaid : Prop := sumAccsUptoRow.holds Tryz.pinned (OpenSpec.upto sumAccsSpec)

end Rows
end Go.Proofs.YtjcdnaandbockaaGreat
