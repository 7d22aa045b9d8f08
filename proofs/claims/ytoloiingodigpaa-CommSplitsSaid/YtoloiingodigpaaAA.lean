import Derived.Test.YtoloiingodigpaaZ
namespace Go.Proofs.Ytoloiingodigpaa
open Go.RowKit Go.Shelf Go.Lib
attribute [local go_sem] Oper.semAt_some litE
set_option maxRecDepth 100000
set_option maxHeartbeats 1000000

/-- the color of a rank is not 'none' -/
theorem split1 {w : World} {a : Option Addr} {l : List Int} (h : Ints w a l) (cap : Nat) (bb : Nat) (hc : w.cell? ⟨bb, 0, none⟩ = some (.slice a l.length cap)) (i : Nat) (hi : i < l.length) (W : World) (hb : Below w.heap.size w W) :
    Calls Try.prog 98 (#[.int .i64 i] ++ #[.pointer (some ⟨bb, 0, none⟩)]) W fun e w' => e = .returned (.bool (l.getD i 0 != -2)) ∧ W = w' := by
  have hc' := pred_cells hb hc
  obtain ⟨g, off, rfl, hcs⟩ := (h.keep hb).at_ (ne_nil_of_lt hi)
  have c0 := hcs i hi
  have hlen := h.len
  have e1 : l.getD i 0 = l[i] := by simp [List.getD, hi]
  rw [e1]
  clear hcs hc h hb e1
  show Calls Try.prog 98 #[.int .i64 i, .pointer (some ⟨bb, 0, none⟩)] W _
  go_enter Try.func98, Try.ntmps98
  go_wp2
  go_ret
  exact ⟨rfl, rfl⟩

theorem pickF_filter (p : Nat → Bool) (q : Int → Bool) : ∀ (l : List Int) (k : Nat), (∀ i, i < l.length → p (k + i) = q (l.getD i 0)) → pickF p k l = l.filter q
  | [], _, _ => rfl
  | x :: l, k, h => by
    have h0 := h 0 (by simp)
    have ih := pickF_filter p q l (k + 1) fun i hi => by
      have := h (i + 1) (by simp; omega)
      rw [show k + 1 + i = k + (i + 1) by omega, this]; simp
    simp at h0
    unfold pickF
    rw [ih, h0, List.filter_cons]

/-- the color of the rank at an index of order is this one -/
theorem split2 {w : World} {a b : Option Addr} {l o : List Int} (h : Ints w a l) (ho : Ints w b o) (hr : ∀ x ∈ o, 0 ≤ x ∧ x < l.length) (cap cap' : Nat) (bb bo bc : Nat) (color : Int)
    (hc : w.cell? ⟨bb, 0, none⟩ = some (.slice a l.length cap)) (hco : w.cell? ⟨bo, 0, none⟩ = some (.slice b o.length cap')) (hcc : w.cell? ⟨bc, 0, none⟩ = some (.int .i64 color)) (i : Nat) (hi : i < o.length) (W : World) (hb : Below w.heap.size w W) :
    Calls Try.prog 103 (#[.int .i64 i] ++ #[.pointer (some ⟨bb, 0, none⟩), .pointer (some ⟨bo, 0, none⟩), .pointer (some ⟨bc, 0, none⟩)]) W fun e w' => e = .returned (.bool (l.getD (o.getD i 0).toNat 0 == color)) ∧ ∃ q, w' = W.drewN q := by
  have hc' := pred_cells hb hc
  have hco' := pred_cells hb hco
  have hcc' := pred_cells hb hcc
  obtain ⟨g2, off2, rfl, hcs2⟩ := (ho.keep hb).at_ (ne_nil_of_lt hi)
  have c1 := hcs2 i hi
  have hlen := h.len
  have hlen2 := ho.len
  obtain ⟨hx0, hx1⟩ := hr o[i] (List.getElem_mem hi)
  have e1 : o.getD i 0 = o[i] := by simp [List.getD, hi]
  rw [e1]
  generalize o[i] = x at *
  obtain ⟨r, rfl⟩ := Int.eq_ofNat_of_zero_le hx0
  have hrl : r < l.length := by omega
  obtain ⟨g, off, rfl, hcs⟩ := (h.keep hb).at_ (ne_nil_of_lt hrl)
  have c0 := hcs r hrl
  have e2 : l.getD r 0 = l[r] := by simp [List.getD, hrl]
  simp only [Int.toNat_natCast]
  rw [e2]
  clear hcs hcs2 hc hco hcc h ho hr hb e1 e2
  show Calls Try.prog 103 #[.int .i64 i, .pointer (some ⟨bb, 0, none⟩), .pointer (some ⟨bo, 0, none⟩), .pointer (some ⟨bc, 0, none⟩)] W _
  go_enter Try.func103, Try.ntmps103
  go_wp2_with fail
  go_quiet (fail)
  go_wp2_with fail
  go_ret
  exact ⟨rfl, _, rfl⟩

theorem notnan {w : World} (x : Int) : Calls Try.prog 138 #[.int .i64 x] w fun e w' => e = .returned (.bool false) ∧ w' = w := by
  go_enter Try.func138, Try.ntmps138
  go_wp2
  go_ret
  exact ⟨rfl, rfl⟩

def cmpZ (x y : Int) : Int := if x < y then -1 else if y < x then 1 else 0

theorem compare_any {w : World} (x y : Int) : Calls Try.prog 120 #[.int .i64 x, .int .i64 y] w fun e w' => e = .returned (.int .i64 (cmpZ x y)) ∧ w' = w := by
  have n1 := @notnan w x
  have n2 := @notnan w y
  unfold cmpZ
  by_cases h1 : x < y
  · rw [if_pos h1]
    go_enter Try.func120, Try.ntmps120
    go_wp2_with (first | (refine n1.mono ?_; rintro e w' ⟨rfl, rfl⟩) | (refine n2.mono ?_; rintro e w' ⟨rfl, rfl⟩))
    go_ret
    exact ⟨rfl, rfl⟩
  · rw [if_neg h1]
    by_cases h2 : y < x
    · rw [if_pos h2]
      go_enter Try.func120, Try.ntmps120
      go_wp2_with (first | (refine n1.mono ?_; rintro e w' ⟨rfl, rfl⟩) | (refine n2.mono ?_; rintro e w' ⟨rfl, rfl⟩))
      go_ret
      exact ⟨rfl, rfl⟩
    · rw [if_neg h2]
      go_enter Try.func120, Try.ntmps120
      go_wp2_with (first | (refine n1.mono ?_; rintro e w' ⟨rfl, rfl⟩) | (refine n2.mono ?_; rintro e w' ⟨rfl, rfl⟩))
      go_ret
      exact ⟨rfl, rfl⟩
end Go.Proofs.Ytoloiingodigpaa
