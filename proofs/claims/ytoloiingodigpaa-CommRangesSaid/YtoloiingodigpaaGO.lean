import Derived.Test.YtoloiingodigpaaGN
import Derived.Test.YtoloiingodigpaaAF
import Derived.Test.YtoloiingodigpaaAJ
import Derived.Laws.IdiomArrays
import Derived.Deep.Slices
namespace Go.Proofs.Ytoloiingodigpaa
open Go.ChangeShapes Go.WideShapes Go.ChangeAt Go.RowKit

theorem Try.bytes81 : Try.prog.bytesOf 81 = 24 := by kernel_rfl
theorem Try.cells81 : Try.prog.cellsOf 81 = 3 := by kernel_rfl

theorem Trips.keep {w w' : World} {a : Option Addr} {l : List (Int × Int × Int)} (h : Trips w a l) (hb : Below w.heap.size w w') : Trips w' a l :=
  ⟨h.len, fun hl => by
    obtain ⟨b, off, ha, hc⟩ := h.at_ hl
    refine ⟨b, off, ha, fun j hj => ?_⟩
    obtain ⟨h0, h1, h2⟩ := hc j hj
    exact ⟨(hb.cell (block_lt_of_cell h0)).trans h0, (hb.cell (block_lt_of_cell h1)).trans h1, (hb.cell (block_lt_of_cell h2)).trans h2⟩, h.wf⟩

theorem i64_of_wf {n : Int} (h : (Lit.int .i64 n).wf = true) : I64 n := by
  simp only [Lit.wf, Bool.and_eq_true, decide_eq_true_eq] at h
  exact h

open Go.Deep in
/-- an argument that is a slice of triples -/
theorem trips_of_trod {H : Type} {enc : TypeId × Value → H} {W : World} {x : Option Addr} {len cap : Nat} {d : DataW H} {ps : List MemPlace} (h : DataW.Trod enc Try.prog W 0 (fun _ => true) true 35 (.slice x len cap) d ps)
    (hs : ∀ es sp, d = .slice es sp → (es.length + sp.length) * Try.prog.bytesOf 81 ≤ reachBytes) :
    ∃ l : List (Int × Int × Int), l.length = len ∧ len ≤ cap ∧ (x = none → cap = 0) ∧ Trips W x l ∧ True := by
  obtain ⟨fuel, hf⟩ := h
  rcases open_slice Try.underlying35 hf with ⟨hcs, hx⟩ | ⟨a, len', cap', m, n, D, Pl, hcs, _, hl, hm, hmm, hx, hel⟩
  · have e : (Value.slice x len cap) = .slice none 0 0 := by simpa [Value.cells] using hcs
    cases e
    exact ⟨[], rfl, Nat.le_refl _, fun _ => rfl, ⟨by simp, fun hl => absurd rfl hl, fun x hx => by cases hx⟩, trivial⟩
  · have e : (Value.slice x len cap) = .slice (some a) len' cap' := by simpa [Value.cells] using hcs
    cases e
    simp only [if_true] at hmm
    have hd := hs _ _ (by have := congrArg Prod.fst hx; exact this)
    rw [Try.bytes81] at hd
    simp only [List.length_map, List.length_range, reachBytes] at hd
    have each : ∀ i, i < m → ∃ t : Int × Int × Int, W.cell? ((a.add (i * 3)).add 0) = some (.int .i64 t.1) ∧ W.cell? ((a.add (i * 3)).add 1) = some (.int .i64 t.2.1) ∧ W.cell? ((a.add (i * 3)).add 2) = some (.int .i64 t.2.2) ∧ I64 t.1 ∧ I64 t.2.1 ∧ I64 t.2.2 := fun i hi => by
      obtain ⟨cs', h1, h2⟩ := hel i hi
      rw [Try.cells81] at h1
      obtain ⟨_, hlen, hc⟩ := World.cells?_some h1
      match cs', hlen with
      | [c0, c1, c2], _ =>
        obtain ⟨y0, y1, y2, k, _, t0, t1, t2⟩ := trod_array3 Try.underlying81 Try.cells3 h2
        obtain ⟨n0, e0, _, w0⟩ := DataW.trod_int Try.underlying3 t0
        obtain ⟨n1, e1, _, w1⟩ := DataW.trod_int Try.underlying3 t1
        obtain ⟨n2, e2, _, w2⟩ := DataW.trod_int Try.underlying3 t2
        cases e0; cases e1; cases e2
        exact ⟨(n0, n1, n2), hc 0 (by decide), hc 1 (by decide), hc 2 (by decide), i64_of_wf w0, i64_of_wf w1, i64_of_wf w2⟩
    obtain ⟨V, hV⟩ := choose_lt each
    refine ⟨(List.range len).map V, by simp, hl, (fun e => by cases e), ⟨by simp; omega, fun hne => ?_, fun t ht => ?_⟩, trivial⟩
    · have hp : 0 < len := by
        cases len with
        | zero => simp at hne
        | succ _ => omega
      obtain ⟨b, off, spot⟩ := a
      have hspot : spot = none := by
        have := World.cell?_spot (hV 0 (by omega)).1
        simpa [Addr.add] using this
      subst hspot
      refine ⟨b, off, rfl, fun j hj => ?_⟩
      simp at hj
      obtain ⟨g0, g1, g2, _⟩ := hV j (by omega)
      simp only [Addr.add_lit, Nat.add_zero] at g0 g1 g2
      simp only [List.getElem_map, List.getElem_range]
      exact ⟨g0, g1, g2⟩
    · obtain ⟨i, hi, rfl⟩ := List.mem_map.1 ht
      obtain ⟨_, _, _, g⟩ := hV i (by have := List.mem_range.1 hi; omega)
      exact g

open Go.Shelf in
attribute [local go_sem] Oper.semAt_some in
set_option maxRecDepth 100000 in
set_option maxHeartbeats 1000000 in
theorem CommRanges_walk (n : Int) (_ : (Lit.int .i64 n).wf = true) {w : World} {a : Option Addr} {L : List (Int × Int × Int)} (h : Trips w a L) (cap : Nat) (_ : L.length ≤ cap) (_ : a = none → cap = 0) (_ : True) :
    Calls Try.prog 5 #[.int .i64 n, .slice a L.length cap] w fun e w' => e = .returned (.bool true) ∧ Below w.heap.size w w' := by
  have hlen := h.len
  by_cases hl : 30 < L.length
  · have hl' : (30 : Int) < L.length := by omega
    go_enter Try.func5, Try.ntmps5
    go_wp2_with fail
    refine (works_true w).mono ?_
    rintro e w1 ⟨rfl, b1⟩
    go_wp2_with fail
    go_ret
    exact ⟨rfl, b1⟩
  · have hl' : ¬ (30 : Int) < L.length := by omega
    have HT := Lib.hid h
    clear h
    go_enter Try.func5, Try.ntmps5
    go_wp2_with fail
    refine (Ranges_any HT.out cap n).mono ?_
    rintro e w1 ⟨v1, rfl, n1, b1⟩
    obtain ⟨a1, c1, rfl, i1⟩ := n1.ints
    have H1 := Lib.hid i1
    have HT1 := Lib.hid (HT.out.keep b1)
    clear n1 i1
    go_wp2_with fail
    refine (Ranges_ref HT1.out cap n).mono ?_
    rintro e w2 ⟨v2, rfl, n2, b2⟩
    obtain ⟨a2, c2, rfl, i2⟩ := n2.ints
    have HB : Hid (Below w.heap.size w w2) := b1.trans (b2.mono b1.size)
    have hs := is_any (H1.out.keep b2) i2 c1 c2 (rangesL n L).2 (rangesL n L).2
    have e1 : (decide ((rangesL n L).2 = (rangesL n L).2) && decide ((rangesL n L).1 = (rangesL n L).1)) = true := by simp
    rw [e1] at hs
    clear n2 i2 b1 b2 e1 H1
    generalize (rangesL n L).2 = fe at *
    go_wp2_with fail
    refine hs.mono ?_
    rintro e w3 ⟨rfl, b3⟩
    have HB3 : Hid (Below w.heap.size w w3) := HB.out.trans (b3.mono HB.out.size)
    go_wp2_with fail
    refine (works_true w3).mono ?_
    rintro e w4 ⟨rfl, b4⟩
    go_wp2_with fail
    go_ret
    exact ⟨rfl, HB3.out.trans (b4.mono HB3.out.size)⟩
end Go.Proofs.Ytoloiingodigpaa
