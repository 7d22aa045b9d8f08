import Derived.Test.YtbhkenphcahifaaGreatNT
namespace Go.Proofs.YtbhkenphcahifaaGreat
open Go.RowKit Go.Shelf
attribute [local go_sem] Oper.semAt_some
set_option maxRecDepth 100000
set_option maxHeartbeats 4000000
section
variable {n : Nat} {P : Program} {ops : Array Oper} {Q : Exit → Act → World → Prop}
theorem wpOpIn_rowg {i j : Nat} {want : Bool} {o : Oper} {K : Act → World → Prop} {a : Act} {w : World} (ho : ops[i]? = some o) (hgd : o.guard = some (j, want)) (hy : yielded ops a.tmps j = some want) (ty : TypeId) (x : Operand) (hop : o.op = .load ty x)
    (g : Nat) (hx : a.eval x = .pointer (some ⟨g, 0, none⟩)) (t : TypeId) (cs : Array Value) (fr : Nat × Nat) (d : TypeDesc) (hg : w.heap[g]? = some (.cells cs t fr))
    (hu : P.underlying ty = some d) (hd : (match d with | .struct _ | .array _ _ => true | _ => false) = true) (hi : (P.info? ty).map (·.size) = some cs.size)
    (h : K (a.put o.dst (.agg cs)) w) : wpOpIn Fence.wide n P ops Q i K a w := by
  refine wpOpIn_guard (v := .agg cs) ho hgd hy ?_ h
  simp only [Oper.semAt, hop, execOp, hx, Instr.loadAt, Instr.sureAddr, Sem.run_bind, Sem.run_pure, Result.andThen_ok, run_loadVar_row w g t ty cs fr d hg hu hd hi]
end
theorem info24 : (Tryz.prog.info? 24).map (·.size) = some 3 := by kernel_rfl
theorem placeL_len (kind : Int) (l : List Int) (x : Int) (h : l.length ≤ 17592186044416) : (placeL kind l x).length ≤ 17592186044416 := by
  unfold placeL
  split
  · rw [show (coordsL l x).length = l.length from cfold_len _ _ _]; exact h
  · split <;> simp
/-- what Place says of a list -/
def PlaceIs (B : Nat) (kind : Int) (l : List Int) (hosts x : Int) (e : Ending) (w' : World) : Prop := ∃ a c, e = .returned (.tuple #[.slice a (if plaE kind l hosts x = 0 then placeL kind l x else []).length c, .int .i64 (plaE kind l hosts x)]) ∧ Ints w' a (if plaE kind l hosts x = 0 then placeL kind l x else [])
theorem ints_nil (w : World) : Ints w none [] := ⟨by simp, fun h => absurd rfl h⟩
theorem place_is {B : Nat} {kind : Int} {l : List Int} {hosts x : Int} {e : Ending} {w' : World} (hl : l.length ≤ 17592186044416)
    (h : (plaE kind l hosts x ≠ 0 ∧ e = .returned (.tuple #[.slice none 0 0, .int .i64 (plaE kind l hosts x)])) ∨ (plaE kind l hosts x = 0 ∧ ∃ g, e = .returned (.tuple #[.slice (some ⟨g, 0, none⟩) (placeL kind l x).length (placeL kind l x).length, .int .i64 0]) ∧ B ≤ g ∧ RowAt w' g (placeL kind l x))) : PlaceIs B kind l hosts x e w' := by
  rcases h with ⟨h1, rfl⟩ | ⟨h1, g, rfl, h2, h3⟩
  · refine ⟨none, 0, ?_, ?_⟩
    · rw [if_neg h1]; rfl
    · rw [if_neg h1]; exact ints_nil _
  · refine ⟨some ⟨g, 0, none⟩, (placeL kind l x).length, ?_, ?_⟩
    · rw [if_pos h1, h1]
    · rw [if_pos h1]; exact h3.ints (placeL_len _ _ _ hl)
end Go.Proofs.YtbhkenphcahifaaGreat
