import Derived.Test.YtoloiingodigpaaAF
namespace Go.Proofs.Ytoloiingodigpaa
open Go.RowKit Go.Shelf Go.Lib
attribute [local go_sem] Oper.semAt_some
set_option maxRecDepth 100000
set_option maxHeartbeats 1000000

theorem Group_bad {w : World} {p : Option Addr} (h : BadSp w p) (c : Int) :
    Calls Try.prog 48 #[.pointer p, .int .i64 c] w fun e w' => e = .returned (.tuple #[.slice none 0 0, .int .i64 1]) ∧ w = w' := by
  have hf := find_bad h c
  have hcn := clone_nil w
  clear h
  go_enter Try.func48, Try.ntmps48
  go_wp2_with (first | (with_reducible refine hf.mono ?_; rintro e w' ⟨rfl, rfl⟩) | (with_reducible refine hcn.mono ?_; rintro e w' ⟨rfl, rfl⟩))
  go_ret2
  exact ⟨rfl, rfl⟩
theorem Dup_bad {w : World} {p : Option Addr} (h : BadSp w p) (c : Int) :
    Calls Try.prog 49 #[.pointer p, .int .i64 c] w fun e w' => e = .returned (.tuple #[.int .i64 0, .int .i64 1]) ∧ w = w' := by
  have hf := find_bad h c
  clear h
  go_enter Try.func49, Try.ntmps49
  go_wp2_with (first | (with_reducible refine hf.mono ?_; rintro e w' ⟨rfl, rfl⟩))
  go_ret2
  exact ⟨rfl, rfl⟩
theorem Make_bad {w : World} {p : Option Addr} (h : BadSp w p) (c : Int) (a : Option Addr) (n cap : Nat) :
    Calls Try.prog 50 #[.pointer p, .int .i64 c, .slice a n cap] w fun e w' => e = .returned (.tuple #[.int .i64 0, .int .i64 1]) ∧ w = w' := by
  have hf := find_bad h c
  clear h
  go_enter Try.func50, Try.ntmps50
  go_wp2_with (first | (with_reducible refine hf.mono ?_; rintro e w' ⟨rfl, rfl⟩))
  go_ret2
  exact ⟨rfl, rfl⟩
theorem Split_bad {w : World} {p : Option Addr} (h : BadSp w p) (c : Int) (a b : Option Addr) (n cap n' cap' : Nat) :
    Calls Try.prog 51 #[.pointer p, .int .i64 c, .slice a n cap, .slice b n' cap'] w fun e w' => e = .returned (.tuple #[.slice none 0 0, .int .i64 1]) ∧ Below w.heap.size w w' := by
  have hb0 : Below w.heap.size w (w.alloc (.cells #[.slice a n cap] 22)) := (Below.refl _ _).alloc (Nat.le_refl _) _
  have hf := find_bad (h.keep hb0) c
  clear h
  go_enter Try.func51, Try.ntmps51
  go_wp2_with (first | (with_reducible refine hf.mono ?_; rintro e w' ⟨rfl, rfl⟩))
  go_ret2
  exact ⟨rfl, hb0⟩
theorem Free_bad {w : World} {p : Option Addr} (h : BadSp w p) (c : Int) :
    Calls Try.prog 52 #[.pointer p, .int .i64 c] w fun e w' => e = .returned (.int .i64 1) ∧ w = w' := by
  have hf := find_bad h c
  clear h
  go_enter Try.func52, Try.ntmps52
  go_wp2_with (first | (with_reducible refine hf.mono ?_; rintro e w' ⟨rfl, rfl⟩))
  go_ret
  exact ⟨rfl, rfl⟩
theorem Contexts_bad {w : World} {p : Option Addr} (h : BadSp w p) :
    Calls Try.prog 53 #[.pointer p] w fun e w' => e = .returned (.slice none 0 0) ∧ w = w' := by
  have hf := valid_bad h
  clear h
  go_enter Try.func53, Try.ntmps53
  go_wp2_with (first | (with_reducible refine hf.mono ?_; rintro e w' ⟨rfl, rfl⟩))
  go_ret
  exact ⟨rfl, rfl⟩
theorem Copy_bad {w : World} {p : Option Addr} (h : BadSp w p) :
    Calls Try.prog 54 #[.pointer p] w fun e w' => e = .returned (.pointer none) ∧ w = w' := by
  have hf := valid_bad h
  clear h
  go_enter Try.func54, Try.ntmps54
  go_wp2_with (first | (with_reducible refine hf.mono ?_; rintro e w' ⟨rfl, rfl⟩))
  go_ret
  exact ⟨rfl, rfl⟩
end Go.Proofs.Ytoloiingodigpaa
