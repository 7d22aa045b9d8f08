import Derived.Test.YtoloiingodigpaaAF
import Derived.Test.YtoloiingodigpaaRF
import Derived.Test.YtoloiingodigpaaW
namespace Go.Proofs.Ytoloiingodigpaa
open Go.RowKit Go.Shelf
attribute [local go_sem] Oper.semAt_some
set_option maxRecDepth 100000
set_option maxHeartbeats 1000000

theorem CommFactors_walk (n : Int) (hn : (Lit.int .i64 n).wf = true) (d : Int) (hd : (Lit.int .i64 d).wf = true) {w : World} :
    Calls Try.prog 6 #[.int .i64 n, .int .i64 d] w fun e w' => e = .returned (.bool true) ∧ Below w.heap.size w w' := by
  clear hn hd
  go_enter Try.func6, Try.ntmps6
  go_wp2_with fail
  refine (Factor_any n d w).mono ?_
  rintro e w1 ⟨v1, rfl, n1, b1⟩
  obtain ⟨a1, c1, rfl, i1⟩ := n1.ints
  have H1 := Lib.hid i1
  clear n1 i1
  go_wp2_with fail
  refine (Factor_ref n d w1).mono ?_
  rintro e w2 ⟨v2, rfl, n2, b2⟩
  obtain ⟨a2, c2, rfl, i2⟩ := n2.ints
  have HB : Hid (Below w.heap.size w w2) := b1.trans (b2.mono b1.size)
  have hs := is_any (H1.out.keep b2) i2 c1 c2 (factorE n d) (factorE n d)
  have e1 : (decide (factorE n d = factorE n d) && decide (factorR n d = factorR n d)) = true := by simp
  rw [e1] at hs
  clear n2 i2 b1 b2 e1 H1
  generalize factorE n d = fe at *
  go_wp2_with fail
  refine hs.mono ?_
  rintro e w3 ⟨rfl, b3⟩
  have HB3 : Hid (Below w.heap.size w w3) := HB.out.trans (b3.mono HB.out.size)
  go_wp2_with fail
  refine (works_true w3).mono ?_
  rintro e w4 ⟨rfl, b4⟩
  go_wp2_with fail
  go_ret
  exact ⟨rfl, HB3.out.trans (b4.mono HB3.out.size)⟩
end Go.Proofs.Ytoloiingodigpaa
