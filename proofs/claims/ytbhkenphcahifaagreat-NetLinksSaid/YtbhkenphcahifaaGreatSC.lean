import Derived.Test.YtbhkenphcahifaaGreatSL
import Derived.Test.YtbhkenphcahifaaGreatQC
import Derived.Lib.OwnBridge
import Derived.Sort.OwnSortedInts
import Derived.BigRegion
namespace Go.Proofs.YtbhkenphcahifaaGreat
open Go.RowKit Go.Shelf Go.Lib Go.Sort
attribute [local go_sem] Oper.semAt_some
set_option maxRecDepth 100000
set_option maxHeartbeats 4000000

def sortL (l : List Int) : List Int := l.mergeSort fun x y => decide (x ≤ y)

/-- slices.Sort in memory of the call's own -/
theorem sort_new {B : Nat} {w : World} {v : Value} {l : List Int} (h : NewInts B w v l) (hB : B ≤ w.heap.size) :
    Calls Tryz.prog 147 #[v] w fun e w' => e = .returned (.tuple #[]) ∧ NewInts B w' v (sortL l) ∧ Below B w w' := by
  by_cases hv : v = .slice none 0 0
  · subst hv
    have hl : l = [] := by
      rcases h.own.2 with ⟨_, h0⟩ | ⟨g, cap, cur, e, _⟩
      · exact List.length_eq_zero_iff.1 h0
      · cases e
    subst hl
    refine (Tryz.slices_Sort_int_none none 0 w).mono ?_
    rintro e w' ⟨rfl, rfl⟩
    exact ⟨rfl, by simpa [sortL] using h, Below.refl _ _⟩
  · obtain ⟨g, cap, rfl, hg, hlt, hn, hm, hl, hH⟩ := holds_of_ownsRow (enc := Value.int .i64) h.own hv
    obtain ⟨_, hown⟩ := h.own
    rcases hown with ⟨e0, _⟩ | ⟨g', cap', cur, e0, hb', hgc, hn', hm', hs', ht'⟩
    · cases e0
    cases e0
    refine (Tryz.slices_Sort_int g 0 cap l w hH hlt (by have := h.len; omega)).mono ?_
    rintro e w' ⟨rfl, n, os, rfl⟩
    have hle : (sortL l).length = l.length := by unfold sortL; simp
    refine ⟨rfl, ⟨?_, by rw [hle]; exact h.len⟩, ?_⟩
    · have := ownsRow_sortedI (ss := l) (ts := sortL l) (n := n) (os := os) hle hg hgc hn hm hs'
      rw [hle]
      exact this
    · have := grownBy_sortedI (w := w) (g := g) (n := n) (os := os) (sortL l).toArray
      exact (Below.refl B w).grown this hB (fun k hk => by injection hk with hk; omega)

/-- slices.Compact in memory of the call's own -/
theorem compact_new {B : Nat} {w : World} {v : Value} {l : List Int} (h : NewInts B w v l) (hB : B ≤ w.heap.size) :
    Calls Tryz.prog 149 #[v] w fun e w' => ∃ u, e = .returned u ∧ NewInts B w' u (Lib.compact l) ∧ Below B w w' := by
  have hcl := Lib.compact_length_le l
  by_cases hv : v = .slice none 0 0
  · subst hv
    have hl : l = [] := by
      rcases h.own.2 with ⟨_, h0⟩ | ⟨g, cap, cur, e, _⟩
      · exact List.length_eq_zero_iff.1 h0
      · cases e
    subst hl
    refine (Tryz.slices_Compact_int_empty none 0 w).mono ?_
    rintro e w' ⟨rfl, rfl⟩
    exact ⟨_, rfl, by simpa [show Lib.compact [] = [] from rfl] using h, Below.refl _ _⟩
  · obtain ⟨g, cap, rfl, hg, hlt, hn, hm, hl, hH⟩ := holds_of_ownsRow (enc := Value.int .i64) h.own hv
    have hlen := h.len
    refine (Tryz.slices_Compact_int g 0 cap l w hH (by omega) hn).mono ?_
    rintro e w' ⟨rfl, q, rfl⟩
    refine ⟨_, rfl, ⟨?_, by omega⟩, ?_⟩
    · have := ownsRow_putRow (enc := Value.int .i64) (q := q) (k := (Lib.compact l).length) (ys := Lib.compact l ++ List.replicate (l.length - (Lib.compact l).length) 0) h.own (by simp; omega) hcl
      rw [List.take_append_of_le_length (Nat.le_refl _), List.take_length] at this
      exact this
    · exact below_putRow (Below.refl _ _) hg
theorem mul_one {w : World} (n : Nat) (hn : n ≤ 64) : Calls Tryz.prog 160 #[.int .u64 1, .int .u64 n] w fun e w' => e = .returned (.tuple #[.int .u64 0, .int .u64 n]) ∧ w' = w := by
  have h := Tryz.bits_Mul 1 n (by omega) (by omega) w
  rw [show 1 * n / 18446744073709551616 = 0 by omega, show 1 * n % 18446744073709551616 = n by omega] at h
  exact h

theorem setRow_below (w : World) (g : Nat) (c : Array Value) : Below g w (w.setRow g c) :=
  ⟨rfl, rfl, rfl, by simp [World.setRow], fun k hk => Go.setRow_other w g k c (by omega)⟩

/-- copy into a row -/
theorem copy_ints {w : World} {g : Nat} {L : List Int} (hR : RowAt w g L) (o dLen dCap : Nat) (a : Addr) (sLen sCap : Nat) (ys : List Int) (hn : ys.length = min sLen dLen)
    (hsrc : ∀ j v, (ys.map (Value.int .i64))[j]? = some v → w.cell? (a.add j) = some v) (hfit : o + ys.length ≤ L.length) :
    ∃ w', (Builtin.copy_ #[22, 22] 3 #[.slice (some ⟨g, o, none⟩) dLen dCap, .slice (some a) sLen sCap]).run Tryz.prog w = .ok (goInt ys.length) w' ∧ RowAt w' g (L.take o ++ ys ++ L.drop (o + ys.length)) ∧ Below g w w' := by
  have h := run_copy_row (P := Tryz.prog) w 22 22 3 3 g o dLen dCap a sLen sCap (rowA L) 3 (ys.map (Value.int .i64)) Tryz.underlying22 (by kernel_rfl) hR (by simpa using hn) hsrc (by simpa using hfit)
    (by intro u hu; obtain ⟨y, _, rfl⟩ := List.mem_map.1 hu; rfl)
  rw [List.length_map] at h
  refine ⟨_, h, ?_, setRow_below _ _ _⟩
  unfold RowAt
  rw [setRow_heap w g _ _ 3 _ hR]
  congr 2
  unfold rowA
  simp [List.map_take, List.map_drop]

theorem repeat_one {w : World} (b : Nat) (x : Int) (hc : w.cell? ⟨b, 0, none⟩ = some (.int .i64 x)) (n : Nat) (h1 : 1 ≤ n) (hn : n ≤ 64) :
    Calls Tryz.prog 155 #[.slice (some ⟨b, 0, none⟩) 1 1, .int .i64 n] w fun e w' => ∃ g, e = .returned (.slice (some ⟨g, 0, none⟩) n n) ∧ w.heap.size ≤ g ∧ RowAt w' g (List.replicate n x) ∧ Below w.heap.size w w' := by
  have hm := mul_one (w := w) n hn
  have hmk := make_ints n (by omega) w
  have R0 : RowAt (w.alloc (.cells (rowA (List.replicate n 0)) 3)) w.heap.size (List.replicate n 0) := heap_alloc_new w _
  have b0 : Below w.heap.size w (w.alloc (.cells (rowA (List.replicate n 0)) 3)) := (Below.refl _ _).alloc (Nat.le_refl _) _
  have hc' := (b0.cell (p := ⟨b, 0, none⟩) (block_lt_of_cell hc)).trans hc
  obtain ⟨w1, hr1, hR1, hb1⟩ := copy_ints R0 0 n n ⟨b, 0, none⟩ 1 1 [x] (by simp; omega) (fun j v hj => by match j, hj with | 0, hj => simp at hj; subst hj; simpa [Addr.add] using hc') (by simp; omega)
  have R1 : RowAt w1 w.heap.size (List.replicate 1 x ++ List.replicate (n - 1) 0) := by simpa using hR1
  have b1 : Below w.heap.size w w1 := b0.trans hb1
  have HR := Lib.hid R1
  have HB := Lib.hid b1
  clear R1 b1 hR1 hb1 R0 b0
  go_enter Tryz.func155, Tryz.ntmps155
  go_wp2_with (refine hm.mono ?_; rintro e w' ⟨rfl, rfl⟩)
  have HC := Lib.hid hc
  clear hr1 hmk hm hc hc'
  go_loopw [8] (fun i wr => ∃ k : Nat, 1 ≤ k ∧ k ≤ n ∧ i = .int .i64 k ∧ RowAt wr w'.heap.size (List.replicate k x ++ List.replicate (n - k) 0) ∧ Below w'.heap.size w' wr) (fun i _ => n - (intOf i).toNat)
  case atStart => exact ⟨1, by omega, h1, rfl, HR.out, HB.out⟩
  case round =>
    obtain ⟨k, hk1, hk, rfl, hR, hb⟩ := hrel
    by_cases hkn : k < n
    · obtain ⟨m, hme⟩ : ∃ m, m = min k (n - k) := ⟨_, rfl⟩
      have hm1 : 1 ≤ m := by omega
      have hm2 : m ≤ k := by omega
      have hm3 : m ≤ n - k := by omega
      have hRd : RowAt wr.drew w'.heap.size (List.replicate k x ++ List.replicate (n - k) 0) := hR
      have hI := (hRd.ints (by simp; omega)).news
      obtain ⟨w2, hr2, hR2, hb2⟩ := copy_ints hRd k (n - k) (n - k) ⟨w'.heap.size, 0, none⟩ k n (List.replicate m x) (by simp [hme])
        (fun j v hj => hI j v (by
          have hjm : j < m := by have := (List.getElem?_eq_some_iff.1 hj).1; simpa using this
          rw [List.map_append, List.getElem?_append_left (by simp; omega)]
          rw [← hj]
          simp [hjm, show j < k by omega])) (by simp; omega)
      rw [List.length_replicate] at hr2
      have e1 : (List.replicate k x ++ List.replicate (n - k) 0).take k ++ List.replicate m x ++ (List.replicate k x ++ List.replicate (n - k) 0).drop (k + (List.replicate m x).length) = List.replicate (k + m) x ++ List.replicate (n - (k + m)) 0 := by
        rw [List.take_append_of_le_length (by simp), List.take_of_length_le (by simp), List.length_replicate, List.drop_append, List.drop_of_length_le (by simp)]
        simp only [List.length_replicate, List.drop_replicate, List.nil_append, List.replicate_append_replicate]
        congr 2
        omega
      rw [e1] at hR2
      have HR2 := Lib.hid hR2
      have HB2 : Hid (Below w'.heap.size w' w2) := hb.drew.trans hb2
      have HM := Lib.hid hme
      clear hI hR hRd hR2 hb2 e1 hme
      go_wp2_with fail
      go_region
      go_roundw
      case rel =>
        refine ⟨_, _, _, _, _, _, _, _, _, _, _, _, _, _, ?_, rfl⟩
        exact ⟨k + m, by omega, by omega, by go_num, HR2.out, HB2.out⟩
      case measure => simp [intOf]; omega
    · have hk' : k = n := by omega
      subst hk'
      have HRR : Hid (RowAt wr w'.heap.size (List.replicate k x)) := by show RowAt _ _ _; simpa using hR
      clear hR
      go_wp2_with fail
      go_ret
      exact ⟨w'.heap.size, rfl, Nat.le_refl _, HRR.out, hb⟩
end Go.Proofs.YtbhkenphcahifaaGreat
