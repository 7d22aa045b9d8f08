import Derived.Test.YtoloiingodigpaaA
import Derived.Laws.Tables
import Derived.Laws.Rows
namespace Go.Proofs.Ytoloiingodigpaa
open Go.RowKit
attribute [local go_sem] Oper.semAt_some

/-- the row of a set -/
@[irreducible] def setA (s : Nat → Bool) : Array Value := Array.ofFn (n := 64) fun j => .bool (s j)
@[irreducible] def setE : Array Value := setA fun _ => false

theorem litE : #[Value.bool false, Value.bool false, Value.bool false, Value.bool false, Value.bool false, Value.bool false, Value.bool false, Value.bool false, Value.bool false, Value.bool false, Value.bool false, Value.bool false, Value.bool false, Value.bool false, Value.bool false, Value.bool false, Value.bool false, Value.bool false, Value.bool false, Value.bool false, Value.bool false, Value.bool false, Value.bool false, Value.bool false, Value.bool false, Value.bool false, Value.bool false, Value.bool false, Value.bool false, Value.bool false, Value.bool false, Value.bool false, Value.bool false, Value.bool false, Value.bool false, Value.bool false, Value.bool false, Value.bool false, Value.bool false, Value.bool false, Value.bool false, Value.bool false, Value.bool false, Value.bool false, Value.bool false, Value.bool false, Value.bool false, Value.bool false, Value.bool false, Value.bool false, Value.bool false, Value.bool false, Value.bool false, Value.bool false, Value.bool false, Value.bool false, Value.bool false, Value.bool false, Value.bool false, Value.bool false, Value.bool false, Value.bool false, Value.bool false, Value.bool false] = setE := by unfold setE setA; rfl
theorem setE_eq : setE = setA fun _ => false := by unfold setE; rfl
@[simp] theorem setA_size (s : Nat → Bool) : (setA s).size = 64 := by unfold setA; simp
@[simp] theorem setE_size : setE.size = 64 := by rw [setE_eq]; simp
theorem setA_at (s : Nat → Bool) (j : Nat) (h : j < 64) : (setA s)[j]? = some (.bool (s j)) := by unfold setA; simp [h]
theorem setA_one (s : Nat → Bool) : (setA s).all (·.oneCell') = true := by unfold setA; rw [Array.all_eq_true]; intro i hi; simp [Value.oneCell']
theorem setE_one : setE.all (·.oneCell') = true := by rw [setE_eq]; exact setA_one _
theorem setA_congr {s t : Nat → Bool} (h : ∀ j, j < 64 → s j = t j) : setA s = setA t := by
  unfold setA
  congr 1
  funext j
  rw [h j j.2]

/-- block b is the set s -/
def SetAt (w : World) (b : Nat) (s : Nat → Bool) : Prop := w.heap[b]? = some (.cells (setA s) 83 (0, 0))

theorem SetAt.lt {w : World} {b : Nat} {s : Nat → Bool} (h : SetAt w b s) : b < w.heap.size := (Array.getElem?_eq_some_iff.1 h).1
theorem SetAt.cell {w : World} {b : Nat} {s : Nat → Bool} (h : SetAt w b s) (j : Nat) (hj : j < 64) : w.cell? ⟨b, j, none⟩ = some (.bool (s j)) := by
  rw [cell_of_row w b j _ _ _ h]; exact setA_at s j hj
theorem SetAt.open_ {w : World} {b : Nat} {s : Nat → Bool} (h : SetAt w b s) (j : Nat) : w.frozen? ⟨b, j, none⟩ = false := frozen_of_row w b j _ _ h
theorem SetAt.set {w : World} {b : Nat} {s : Nat → Bool} (h : SetAt w b s) (x : Nat) (v : Bool) : SetAt (w.setCell ⟨b, x, none⟩ (.bool v)) b (fun j => if j = x then v else s j) := by
  unfold SetAt
  rw [heap_setCell_same w b x _ 83 _ h]
  congr 2
  apply Array.ext_getElem?
  intro i
  rw [Array.getElem?_setIfInBounds]
  by_cases hi : i < 64
  · rw [setA_at _ i hi, setA_at _ i hi]
    by_cases hx : x = i
    · subst hx; simp [hi]
    · simp [hx, show ¬ i = x from fun e => hx e.symm]
  · have e1 : ∀ s, (setA s)[i]? = none := fun s => by simp; omega
    rw [e1, e1]
    split
    · rename_i h; subst h; simp [hi]
    · rfl

set_option maxHeartbeats 400000 in
theorem add_low (w : World) (b : Nat) (x n : Int) (hx : x < 0 ∨ n ≤ x) :
    Calls Try.prog 77 #[.pointer (some ⟨b, 0, none⟩), .int .i64 x, .int .i64 n] w fun e w' => e = .returned (.int .i64 11) ∧ w = w' := by
  by_cases h0 : x < 0
  · go_enter Try.func77, Try.ntmps77
    go_wp2
    go_ret
    exact ⟨rfl, rfl⟩
  · have h1 : n ≤ x := by omega
    go_enter Try.func77, Try.ntmps77
    go_wp2
    go_ret
    exact ⟨rfl, rfl⟩

set_option maxHeartbeats 400000 in
theorem add_has (w : World) (b : Nat) (s : Nat → Bool) (hs : SetAt w b s) (x : Nat) (n : Int) (hx : (x : Int) < n) (hn : n ≤ 64) (h : s x = true) :
    Calls Try.prog 77 #[.pointer (some ⟨b, 0, none⟩), .int .i64 x, .int .i64 n] w fun e w' => e = .returned (.int .i64 5) ∧ w = w' := by
  have hc := hs.cell x (by omega)
  rw [h] at hc
  have hlt := hs.lt
  clear hs
  go_enter Try.func77, Try.ntmps77
  go_wp2
  go_ret
  exact ⟨rfl, rfl⟩

set_option maxHeartbeats 400000 in
theorem add_new (w : World) (b : Nat) (s : Nat → Bool) (hs : SetAt w b s) (x : Nat) (n : Int) (hx : (x : Int) < n) (hn : n ≤ 64) (h : s x = false) :
    Calls Try.prog 77 #[.pointer (some ⟨b, 0, none⟩), .int .i64 x, .int .i64 n] w fun e w' => e = .returned (.int .i64 0) ∧ w' = w.setCell ⟨b, x, none⟩ (.bool true) := by
  have hc := hs.cell x (by omega)
  rw [h] at hc
  have hlt := hs.lt
  have hfz := hs.open_ x
  clear hs
  go_enter Try.func77, Try.ntmps77
  go_wp2
  go_ret
  exact ⟨rfl, rfl⟩

theorem below_setRow {B b : Nat} {w : World} (h : B ≤ b) (c : Array Value) : Below B w (w.setRow b c) :=
  ⟨rfl, rfl, rfl, by simp, fun k hk => Go.setRow_other w b k c (by omega)⟩

/-- a slice of integers -/
structure Ints (w : World) (a : Option Addr) (l : List Int) : Prop where
  len : l.length ≤ 17592186044416
  at_ : l ≠ [] → ∃ b off, a = some ⟨b, off, none⟩ ∧ ∀ j (h : j < l.length), w.cell? ⟨b, off + j, none⟩ = some (.int .i64 l[j])

theorem Ints.keep {w w' : World} {a : Option Addr} {l : List Int} (h : Ints w a l) (hb : Below w.heap.size w w') : Ints w' a l :=
  ⟨h.len, fun hl => by
    obtain ⟨b, off, ha, hc⟩ := h.at_ hl
    exact ⟨b, off, ha, fun j hj => (hb.cell (p := ⟨b, off + j, none⟩) (block_lt_of_cell (hc j hj))).trans (hc j hj)⟩⟩

theorem ne_nil_of_lt {α} {l : List α} {k : Nat} (h : k < l.length) : l ≠ [] := fun e => by simp [e] at h
theorem drop_end {α} {l : List α} {k : Nat} (h : ¬ k < l.length) : l.drop k = [] := List.drop_eq_nil_of_le (by omega)

def setErr (seen : List Int) : List Int → Int → Int
  | [], _ => 0
  | x :: l, n => if x < 0 ∨ n ≤ x then 11 else if x ∈ seen then 5 else setErr (seen ++ [x]) l n

def inS (l : List Int) : Nat → Bool := fun j => decide ((j : Int) ∈ l)

/-- the set of a list, or the empty one -/
def setR (l : List Int) (n : Int) : Nat → Bool := fun j => decide (setErr [] l n = 0) && inS l j
theorem setR_ok {l : List Int} {n : Int} (h : setErr [] l n = 0) : setR l n = inS l := by funext j; simp [setR, h]
theorem setR_bad {l : List Int} {n : Int} (h : setErr [] l n ≠ 0) : setR l n = fun _ => false := by funext j; simp [setR, h]

attribute [local go_sem] litE

theorem Try.info83 : (Try.prog.info? 83).map (·.size) = some 64 := by kernel_rfl
theorem Try.und83 : Try.prog.underlying 83 = some (.array 64 4) := by kernel_rfl
theorem SetAt.load {w : World} {b : Nat} {s : Nat → Bool} (h : SetAt w b s) : (loadVar 83 ⟨b, 0, none⟩).run Try.prog w = .ok (.agg (setA s)) w :=
  run_loadVar_row w b 83 83 _ _ _ h Try.und83 rfl (by rw [setA_size]; exact Try.info83)
theorem SetAt.loadAt {w : World} {b : Nat} {s : Nat → Bool} (h : SetAt w b s) : (Instr.loadAt 83 (.pointer (some ⟨b, 0, none⟩))).run Try.prog w = .ok (.agg (setA s)) w := by
  simp only [Instr.loadAt, Instr.sureAddr, Sem.run_bind, Sem.run_pure, Result.andThen_ok, h.load]
theorem storeAt83 {w : World} {b : Nat} {s : Nat → Bool} (h : SetAt w b s) (t : Nat → Bool) : (Instr.storeAt 83 (.pointer (some ⟨b, 0, none⟩)) (.agg (setA t))).run Try.prog w = .ok () (w.setRow b (setA t)) := by
  simp only [Instr.storeAt, Instr.sureAddr, Sem.run_bind, Sem.run_pure, Result.andThen_ok, run_storeVar_row w b 83 83 _ _ h (by rw [setA_size]; exact Try.info83) (by simp) (setA_one t)]
theorem SetAt.new (w : World) : SetAt (w.alloc (.cells setE 83)) w.heap.size (fun _ => false) := by
  unfold SetAt; rw [← setE_eq]; exact heap_alloc_new w _
theorem SetAt.alloc {w : World} {b : Nat} {s : Nat → Bool} (h : SetAt w b s) (o : Obj) : SetAt (w.alloc o) b s := by
  unfold SetAt; exact (Below.heap_alloc _ _ _ h.lt).trans h
theorem SetAt.keep {w w' : World} {b : Nat} {s : Nat → Bool} (h : SetAt w b s) (hb : Below w.heap.size w w') : SetAt w' b s := by
  unfold SetAt; rw [hb.block b h.lt]; exact h
theorem SetAt.setRow {w : World} {b : Nat} {s : Nat → Bool} (h : SetAt w b s) (t : Nat → Bool) : SetAt (w.setRow b (setA t)) b t := by
  unfold SetAt; exact setRow_heap w b _ _ 83 _ h
theorem SetAt.setRow_other {w : World} {b b' : Nat} {s : Nat → Bool} (h : SetAt w b s) (c : Array Value) (hb : b ≠ b') : SetAt (w.setRow b' c) b s := by
  unfold SetAt; rw [Go.setRow_other w b' b c hb]; exact h

set_option maxHeartbeats 1000000 in
set_option maxRecDepth 100000 in
theorem setOf_any {w : World} {a : Option Addr} {l : List Int} (h : Ints w a l) (cap : Nat) (n : Int) (hn : n ≤ 64) :
    Calls Try.prog 108 #[.slice a l.length cap, .int .i64 n] w fun e w' => e = .returned (.tuple #[.agg (setA (setR l n)), .int .i64 (setErr [] l n)]) ∧ Below w.heap.size w w' := by
  have hlen := h.len
  go_enter Try.func108, Try.ntmps108
  go_wp2_with fail
  go_loopw [8, 9, 12] (fun _ _ i wr => ∃ (k : Nat), k ≤ l.length ∧ i = .int .i64 k ∧ Hid (setErr (l.take k) (l.drop k) n = setErr [] l n) ∧ Hid (SetAt wr (w.heap.size + 1) (inS (l.take k))) ∧ Hid (SetAt wr w.heap.size (fun _ => false)) ∧ wr.heap.size = w.heap.size + 2 ∧ Below w.heap.size w wr)
    (fun _ _ i _ => l.length - (intOf i).toNat)
  case atStart =>
    have s1 : SetAt ((w.alloc (.cells setE 83)).alloc (.cells setE 83)) (w.heap.size + 1) (fun _ => false) := by
      unfold SetAt; rw [← setE_eq]; exact heap_alloc2_new w _ _
    have s0 : SetAt ((w.alloc (.cells setE 83)).alloc (.cells setE 83)) w.heap.size (fun _ => false) := by
      unfold SetAt; rw [← setE_eq]; exact heap_alloc2_old w _ _
    exact ⟨0, Nat.zero_le _, rfl, rfl, s1, s0, by simp, ((Below.refl _ _).alloc (Nat.le_refl _) _).alloc (by simp) _⟩
  case round =>
    obtain ⟨k, hk, rfl, HE, HS, HZ, hz, hb⟩ := hrel
    by_cases hlt : k < l.length
    · obtain ⟨g, off, rfl, hc⟩ := h.at_ (ne_nil_of_lt hlt)
      have c0 := hc k hlt
      have d0 := (hb.cell (p := ⟨g, off + k, none⟩) (block_lt_of_cell c0)).trans c0
      have HF : Hid (setErr (l.take k) (l.drop k) n = if l[k] < 0 ∨ n ≤ l[k] then 11 else if l[k] ∈ l.take k then 5 else setErr (l.take k ++ [l[k]]) (l.drop (k+1)) n) := by
        show _ = _; rw [List.drop_eq_getElem_cons hlt]; rfl
      have htk : Hid (l.take (k+1) = l.take k ++ [l[k]]) := List.take_succ_eq_append_getElem hlt
      clear hc c0
      by_cases hx : l[k] < 0 ∨ n ≤ l[k]
      · have hv : Hid (setErr [] l n = 11) := by show _ = _; rw [← HE.out, HF.out, if_pos hx]
        go_wp2_with fail
        refine (add_low _ _ _ _ hx).mono ?_
        rintro e w' ⟨rfl, rfl⟩
        go_wp2_with (first
          | (refine wpList_store_row rfl 83 _ _ rfl w.heap.size setE rfl rfl 83 _ HZ.out (by rw [setE_size]; exact Try.info83) (by simp) setE_one ?_))
        have s2 : SetAt (wr.setRow w.heap.size setE) w.heap.size (fun _ => false) := by rw [setE_eq]; exact HZ.out.setRow _
        have hb2 : Below w.heap.size w (wr.setRow w.heap.size setE) := hb.trans (below_setRow (Nat.le_refl _) _)
        refine bodyPost_ret (v := .tuple #[.agg (setA (setR l n)), .int .i64 (setErr [] l n)]) ?_ rfl ⟨rfl, hb2⟩
        have hr : setR l n = fun _ => false := setR_bad (by rw [hv.out]; decide)
        rw [hr, hv.out]
        simp [results, Try.results108, asAddr, s2.load]
      · obtain ⟨x, hxx⟩ := Int.eq_ofNat_of_zero_le (show 0 ≤ l[k] by omega)
        have hxn : (x : Int) < n := by omega
        by_cases hm : l[k] ∈ l.take k
        · have hv : Hid (setErr [] l n = 5) := by show _ = _; rw [← HE.out, HF.out, if_neg hx, if_pos hm]
          have hsx : Hid (inS (l.take k) x = true) := by show _ = _; simp [inS, ← hxx, hm]
          rw [hxx] at d0
          clear hxx hx hm
          go_wp2_with fail
          refine (add_has _ _ _ HS.out _ _ hxn hn hsx.out).mono ?_
          rintro e w' ⟨rfl, rfl⟩
          go_wp2_with (first
            | (refine wpList_store_row rfl 83 _ _ rfl w.heap.size setE rfl rfl 83 _ HZ.out (by rw [setE_size]; exact Try.info83) (by simp) setE_one ?_))
          have s2 : SetAt (wr.setRow w.heap.size setE) w.heap.size (fun _ => false) := by rw [setE_eq]; exact HZ.out.setRow _
          have hb2 : Below w.heap.size w (wr.setRow w.heap.size setE) := hb.trans (below_setRow (Nat.le_refl _) _)
          refine bodyPost_ret (v := .tuple #[.agg (setA (setR l n)), .int .i64 (setErr [] l n)]) ?_ rfl ⟨rfl, hb2⟩
          have hr : setR l n = fun _ => false := setR_bad (by rw [hv.out]; decide)
          rw [hr, hv.out]
          simp [results, Try.results108, asAddr, s2.load]
        · have hv : Hid (setErr (l.take (k+1)) (l.drop (k+1)) n = setErr [] l n) := by show _ = _; rw [← HE.out, HF.out, if_neg hx, if_neg hm, htk.out]
          have hsx : Hid (inS (l.take k) x = false) := by show _ = _; simp [inS, ← hxx, hm]
          have hS2 : Hid (SetAt (wr.setCell ⟨w.heap.size + 1, x, none⟩ (.bool true)) (w.heap.size + 1) (inS (l.take (k+1)))) := by
            have := HS.out.set x true
            unfold Hid
            rw [show inS (l.take (k+1)) = fun j => if j = x then true else inS (l.take k) j from ?_]
            · exact this
            · funext j
              rw [htk.out, hxx]
              simp only [inS, List.mem_append, List.mem_singleton]
              by_cases hj : j = x
              · subst hj; simp
              · simp [hj, show ¬ (j : Int) = (x : Int) by omega]
          rw [hxx] at d0
          clear hxx hx hm
          go_wp2_with fail
          refine (add_new _ _ _ HS.out _ _ hxn hn hsx.out).mono ?_
          rintro e w' ⟨rfl, hw'⟩
          have HW := Lib.hid hw'
          clear hw'
          go_wp2_with fail
          go_roundw
          case rel => exact ⟨k + 1, by omega, by go_num, hv, by rw [HW.out]; exact hS2, by unfold Hid; rw [HW.out]; unfold SetAt; rw [heap_setCell_other _ _ _ _ (by simp)]; exact HZ.out, by rw [HW.out]; simp [hz], by rw [HW.out]; exact hb.setCell (by simp) _⟩
          case measure => simp [intOf]; omega
    · have hkl : l.take k = l := List.take_of_length_le (by omega)
      have hv : Hid (setErr [] l n = 0) := by show _ = _; rw [← HE.out, drop_end hlt]; rfl
      rw [hkl] at HS
      go_wp2_with (first
        | (refine wpList_load_row rfl 83 _ rfl (w.heap.size + 1) rfl 83 _ _ _ HS.out Try.und83 rfl (by rw [setA_size]; exact Try.info83) ?_)
        | (refine wpList_store_row rfl 83 _ _ rfl w.heap.size (setA (inS l)) rfl rfl 83 _ HZ.out (by rw [setA_size]; exact Try.info83) (by simp) (setA_one _) ?_))
      have s2 := HZ.out.setRow (inS l)
      have hb2 : Below w.heap.size w (wr.setRow w.heap.size (setA (inS l))) := hb.trans (below_setRow (Nat.le_refl _) _)
      refine bodyPost_ret (v := .tuple #[.agg (setA (setR l n)), .int .i64 (setErr [] l n)]) ?_ rfl ⟨rfl, hb2⟩
      have hr : setR l n = inS l := setR_ok hv.out
      rw [hr, hv.out]
      simp [results, Try.results108, asAddr, s2.load]
end Go.Proofs.Ytoloiingodigpaa
