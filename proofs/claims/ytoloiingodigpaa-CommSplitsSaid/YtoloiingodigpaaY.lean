import Derived.Test.YtoloiingodigpaaX
import Derived.Test.YtoloiingodigpaaL0
import Derived.Lib.OwnBridge
import Derived.Sort.OwnSortedInts
namespace Go.Proofs.Ytoloiingodigpaa
open Go.RowKit Go.Shelf Go.Lib Go.Sort
attribute [local go_sem] Oper.semAt_some litE
set_option maxRecDepth 100000
set_option maxHeartbeats 1000000

def sortL (l : List Int) : List Int := l.mergeSort fun x y => decide (x ≤ y)

/-- slices.Sort in memory of the call's own -/
theorem sort_new {B : Nat} {w : World} {v : Value} {l : List Int} (h : NewInts B w v l) (hB : B ≤ w.heap.size) :
    Calls Try.prog 99 #[v] w fun e w' => e = .returned (.tuple #[]) ∧ NewInts B w' v (sortL l) ∧ Below B w w' := by
  by_cases hv : v = .slice none 0 0
  · subst hv
    have hl : l = [] := by
      rcases h.own.2 with ⟨_, h0⟩ | ⟨g, cap, cur, e, _⟩
      · exact List.length_eq_zero_iff.1 h0
      · cases e
    subst hl
    refine (AnyG.slices_Sort_int_none Try.sortL none 0 w).mono ?_
    rintro e w' ⟨rfl, rfl⟩
    exact ⟨rfl, by simpa [sortL] using h, Below.refl _ _⟩
  · obtain ⟨g, cap, rfl, hg, hlt, hn, hm, hl, hH⟩ := holds_of_ownsRow (enc := Value.int .i64) h.own hv
    obtain ⟨_, hown⟩ := h.own
    rcases hown with ⟨e0, _⟩ | ⟨g', cap', cur, e0, hb', hgc, hn', hm', hs', ht'⟩
    · cases e0
    cases e0
    refine (AnyG.slices_Sort_int Try.sortL g 0 cap l w hH hlt (by have := h.len; omega)).mono ?_
    rintro e w' ⟨rfl, n, os, rfl⟩
    have hle : (sortL l).length = l.length := by unfold sortL; simp
    refine ⟨rfl, ⟨?_, by rw [hle]; exact h.len⟩, ?_⟩
    · have := ownsRow_sortedI (ss := l) (ts := sortL l) (n := n) (os := os) hle hg hgc hn hm hs'
      rw [hle]
      exact this
    · have := grownBy_sortedI (w := w) (g := g) (n := n) (os := os) (sortL l).toArray
      exact (Below.refl B w).grown this hB (fun k hk => by injection hk with hk; omega)

/-- slices.Compact in memory of the call's own -/
theorem compact_new {B : Nat} {w : World} {v : Value} {l : List Int} (h : NewInts B w v l) (hB : B ≤ w.heap.size) :
    Calls Try.prog 100 #[v] w fun e w' => ∃ u, e = .returned u ∧ NewInts B w' u (Lib.compact l) ∧ Below B w w' := by
  have hcl := Lib.compact_length_le l
  by_cases hv : v = .slice none 0 0
  · subst hv
    have hl : l = [] := by
      rcases h.own.2 with ⟨_, h0⟩ | ⟨g, cap, cur, e, _⟩
      · exact List.length_eq_zero_iff.1 h0
      · cases e
    subst hl
    refine (Any.slices_Compact_int_empty Try.compactL none 0 w).mono ?_
    rintro e w' ⟨rfl, rfl⟩
    exact ⟨_, rfl, by simpa [show Lib.compact [] = [] from rfl] using h, Below.refl _ _⟩
  · obtain ⟨g, cap, rfl, hg, hlt, hn, hm, hl, hH⟩ := holds_of_ownsRow (enc := Value.int .i64) h.own hv
    have hlen := h.len
    refine (Any.slices_Compact_int Try.compactL g 0 cap l w hH (by omega) hn).mono ?_
    rintro e w' ⟨rfl, q, rfl⟩
    refine ⟨_, rfl, ⟨?_, by omega⟩, ?_⟩
    · have := ownsRow_putRow (enc := Value.int .i64) (q := q) (k := (Lib.compact l).length) (ys := Lib.compact l ++ List.replicate (l.length - (Lib.compact l).length) 0) h.own (by simp; omega) hcl
      rw [List.take_append_of_le_length (Nat.le_refl _), List.take_length] at this
      exact this
    · exact below_putRow (Below.refl _ _) hg
end Go.Proofs.Ytoloiingodigpaa
