import Derived.Test.YtoloiingodigpaaE
namespace Go.Proofs.Ytoloiingodigpaa
open Go.RowKit Go.Shelf
attribute [local go_sem] Oper.semAt_some litE

/-- all elements are processes -/
def Procs (l : List Int) : Prop := ∀ x ∈ l, 0 ≤ x ∧ x < 64

theorem setErr_procs {n : Int} : ∀ (l seen : List Int), setErr seen l n = 0 → ∀ x ∈ l, 0 ≤ x ∧ x < n
  | [], _, _, x, hx => by cases hx
  | y :: l, seen, h, x, hx => by
    unfold setErr at h
    split at h
    · cases h
    · rename_i hy
      split at h
      · cases h
      · rcases List.mem_cons.1 hx with rfl | hx
        · omega
        · exact setErr_procs l _ h x hx
theorem chkErr_procs {l : List Int} (h : chkErr l = 0) : Procs l := by
  unfold chkErr at h
  split at h
  · cases h
  · exact setErr_procs l [] h

def inL (l : List Int) (b : List Int) (i : Nat) : Bool := inS b (l.getD i 0).toNat

theorem pred_cells {w W : World} {bb : Nat} {v : Value} (hb : Below w.heap.size w W) (h : w.cell? ⟨bb, 0, none⟩ = some v) : W.cell? ⟨bb, 0, none⟩ = some v :=
  (hb.cell (p := ⟨bb, 0, none⟩) (block_lt_of_cell h)).trans h

set_option maxHeartbeats 400000 in
/-- the element at an index is not in the set -/
theorem union1 {w : World} {a : Option Addr} {l : List Int} (h : Ints w a l) (hl : Procs l) (cap : Nat) (bs bb : Nat) (s : Nat → Bool) (hs : SetAt w bs s) (hc : w.cell? ⟨bb, 0, none⟩ = some (.slice a l.length cap)) (i : Nat) (hi : i < l.length) (W : World) (hb : Below w.heap.size w W) :
    Calls Try.prog 61 (#[.int .i64 i] ++ #[.pointer (some ⟨bs, 0, none⟩), .pointer (some ⟨bb, 0, none⟩)]) W fun e w' => e = .returned (.bool (!s (l.getD i 0).toNat)) ∧ W = w' := by
  have hc' := pred_cells hb hc
  obtain ⟨g, off, rfl, hcs⟩ := (h.keep hb).at_ (ne_nil_of_lt hi)
  have c0 := hcs i hi
  obtain ⟨h0, h1⟩ := hl l[i] (List.getElem_mem hi)
  obtain ⟨x, hx⟩ := Int.eq_ofNat_of_zero_le h0
  have hlen := h.len
  have e1 : l.getD i 0 = (x : Int) := by simp [List.getD, hi, hx]
  rw [e1]
  rw [hx] at c0 h1
  have hx64 : x < 64 := by omega
  have hs' := (hs.keep hb).cell x hx64
  have hlt := (hs.keep hb).lt
  simp only [Int.toNat_natCast]
  clear hcs hc hs h hl hb hx h0 e1
  show Calls Try.prog 61 #[.int .i64 i, .pointer (some ⟨bs, 0, none⟩), .pointer (some ⟨bb, 0, none⟩)] W _
  go_enter Try.func61, Try.ntmps61
  go_wp2
  go_ret
  exact ⟨rfl, rfl⟩
set_option maxHeartbeats 400000 in
theorem diff1 {w : World} {a : Option Addr} {l : List Int} (h : Ints w a l) (hl : Procs l) (cap : Nat) (bs bb : Nat) (s : Nat → Bool) (hs : SetAt w bs s) (hc : w.cell? ⟨bb, 0, none⟩ = some (.slice a l.length cap)) (i : Nat) (hi : i < l.length) (W : World) (hb : Below w.heap.size w W) :
    Calls Try.prog 68 (#[.int .i64 i] ++ #[.pointer (some ⟨bs, 0, none⟩), .pointer (some ⟨bb, 0, none⟩)]) W fun e w' => e = .returned (.bool (!s (l.getD i 0).toNat)) ∧ W = w' := by
  have hc' := pred_cells hb hc
  obtain ⟨g, off, rfl, hcs⟩ := (h.keep hb).at_ (ne_nil_of_lt hi)
  have c0 := hcs i hi
  obtain ⟨h0, h1⟩ := hl l[i] (List.getElem_mem hi)
  obtain ⟨x, hx⟩ := Int.eq_ofNat_of_zero_le h0
  have hlen := h.len
  have e1 : l.getD i 0 = (x : Int) := by simp [List.getD, hi, hx]
  rw [e1]
  rw [hx] at c0 h1
  have hx64 : x < 64 := by omega
  have hs' := (hs.keep hb).cell x hx64
  have hlt := (hs.keep hb).lt
  simp only [Int.toNat_natCast]
  clear hcs hc hs h hl hb hx h0 e1
  show Calls Try.prog 68 #[.int .i64 i, .pointer (some ⟨bs, 0, none⟩), .pointer (some ⟨bb, 0, none⟩)] W _
  go_enter Try.func68, Try.ntmps68
  go_wp2
  go_ret
  exact ⟨rfl, rfl⟩
set_option maxHeartbeats 400000 in
theorem inter1 {w : World} {a : Option Addr} {l : List Int} (h : Ints w a l) (hl : Procs l) (cap : Nat) (bs bb : Nat) (s : Nat → Bool) (hs : SetAt w bs s) (hc : w.cell? ⟨bb, 0, none⟩ = some (.slice a l.length cap)) (i : Nat) (hi : i < l.length) (W : World) (hb : Below w.heap.size w W) :
    Calls Try.prog 67 (#[.int .i64 i] ++ #[.pointer (some ⟨bs, 0, none⟩), .pointer (some ⟨bb, 0, none⟩)]) W fun e w' => e = .returned (.bool (s (l.getD i 0).toNat)) ∧ W = w' := by
  have hc' := pred_cells hb hc
  obtain ⟨g, off, rfl, hcs⟩ := (h.keep hb).at_ (ne_nil_of_lt hi)
  have c0 := hcs i hi
  obtain ⟨h0, h1⟩ := hl l[i] (List.getElem_mem hi)
  obtain ⟨x, hx⟩ := Int.eq_ofNat_of_zero_le h0
  have hlen := h.len
  have e1 : l.getD i 0 = (x : Int) := by simp [List.getD, hi, hx]
  rw [e1]
  rw [hx] at c0 h1
  have hx64 : x < 64 := by omega
  have hs' := (hs.keep hb).cell x hx64
  have hlt := (hs.keep hb).lt
  simp only [Int.toNat_natCast]
  clear hcs hc hs h hl hb hx h0 e1
  show Calls Try.prog 67 #[.int .i64 i, .pointer (some ⟨bs, 0, none⟩), .pointer (some ⟨bb, 0, none⟩)] W _
  go_enter Try.func67, Try.ntmps67
  go_wp2
  go_ret
  exact ⟨rfl, rfl⟩
set_option maxHeartbeats 400000 in
theorem excl1 {w : World} (bs : Nat) (s : Nat → Bool) (hs : SetAt w bs s) (i : Nat) (hi : i < 64) (W : World) (hb : Below w.heap.size w W) :
    Calls Try.prog 73 (#[.int .i64 i] ++ #[.pointer (some ⟨bs, 0, none⟩)]) W fun e w' => e = .returned (.bool (!s i)) ∧ W = w' := by
  have hs' := (hs.keep hb).cell i hi
  have hlt := (hs.keep hb).lt
  clear hs hb
  show Calls Try.prog 73 #[.int .i64 i, .pointer (some ⟨bs, 0, none⟩)] W _
  go_enter Try.func73, Try.ntmps73
  go_wp2
  go_ret
  exact ⟨rfl, rfl⟩
end Go.Proofs.Ytoloiingodigpaa
