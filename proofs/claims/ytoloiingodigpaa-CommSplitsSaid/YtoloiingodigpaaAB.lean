import Derived.Test.YtoloiingodigpaaAA
namespace Go.Proofs.Ytoloiingodigpaa
open Go.RowKit Go.Shelf Go.Lib
attribute [local go_sem] Oper.semAt_some litE
set_option maxRecDepth 100000
set_option maxHeartbeats 1000000

theorem insInner_size {α : Type} [Inhabited α] (lt : α → α → Bool) (a : Nat) : ∀ (j : Nat) (d : Array α), (Sort.insInner lt a j d).size = d.size
  | 0, d => rfl
  | j + 1, d => by
    unfold Sort.insInner
    split
    · rw [insInner_size lt a j]; simp [Sort.swp]
    · rfl
theorem insOuter_size {α : Type} [Inhabited α] (lt : α → α → Bool) (a b : Nat) : ∀ (k i : Nat) (d : Array α), b - i = k → (Sort.insOuter lt a b i d).size = d.size
  | 0, i, d, h => by unfold Sort.insOuter; rw [if_neg (by omega)]
  | k + 1, i, d, h => by unfold Sort.insOuter; rw [if_pos (by omega), insOuter_size lt a b k _ _ (by omega), insInner_size]

/-- the ranks, sorted by their keys, as the sort sorts them -/
def orderF (keys : List Int) (m : Nat) : Array (Fin (m + 1)) := Sort.insertionSort (ltOf fun i j => cmpZ (keys.getD i.1 0) (keys.getD j.1 0)) (Array.ofFn fun i => i) 0 (m + 1)
theorem orderF_size (keys : List Int) (m : Nat) : (orderF keys m).size = m + 1 := by
  unfold orderF Sort.insertionSort
  rw [insOuter_size _ _ _ _ _ _ rfl]; simp
def orderL (keys : List Int) : List Int := (orderF keys (keys.length - 1)).toList.map fun i => (i.1 : Int)
theorem orderL_len (keys : List Int) (h : 1 ≤ keys.length) : (orderL keys).length = keys.length := by
  unfold orderL
  rw [List.length_map, Array.length_toList, orderF_size]; omega
theorem orderL_lt (keys : List Int) (h : 1 ≤ keys.length) : ∀ x ∈ orderL keys, 0 ≤ x ∧ x < keys.length := by
  intro x hx
  unfold orderL at hx
  obtain ⟨i, _, rfl⟩ := List.mem_map.1 hx
  have := i.2
  omega

theorem cmp_keys {W : World} {a : Option Addr} {l : List Int} (h : Ints W a l) (cap : Nat) (bb : Nat) (hc : W.cell? ⟨bb, 0, none⟩ = some (.slice a l.length cap)) (x y : Nat) (hx : x < l.length) (hy : y < l.length) :
    Calls Try.prog 119 (#[.int .i64 x, .int .i64 y] ++ #[.pointer (some ⟨bb, 0, none⟩)]) W fun e w' => e = .returned (.int .i64 (cmpZ (l.getD x 0) (l.getD y 0))) ∧ ∃ q, w' = W.drewN q := by
  obtain ⟨g, off, rfl, hcs⟩ := h.at_ (ne_nil_of_lt hx)
  have c0 := hcs x hx
  have c1 := hcs y hy
  have hlen := h.len
  have e1 : l.getD x 0 = l[x] := by simp [List.getD, hx]
  have e2 : l.getD y 0 = l[y] := by simp [List.getD, hy]
  rw [e1, e2]
  clear hcs h e1 e2
  generalize l[x] = p at *
  generalize l[y] = q at *
  show Calls Try.prog 119 #[.int .i64 x, .int .i64 y, .pointer (some ⟨bb, 0, none⟩)] W _
  go_enter Try.func119, Try.ntmps119
  go_wp2_with fail
  go_quiet (first | (go_at_call 120; refine Calls.quiet_of_same (compare_any _ _)))
  go_wp2_with fail
  go_ret
  exact ⟨rfl, _, rfl⟩

theorem sortWorld_heap {α : Type} [Inhabited α] (enc : α → Value) (w : World) (blk off m : Nat) (dk : Array α) (os : Array Obj) (k : Nat) (hk : k < w.heap.size) (hne : blk ≠ k) : (sortWorld enc w blk off m dk os).heap[k]? = w.heap[k]? := by
  unfold sortWorld
  rw [Sort.heap_grow_old _ _ (by simpa [Sort.putRow, Sort.mapBlock, Sort.ahead] using hk)]
  simp [Sort.putRow, Sort.mapBlock, Sort.ahead, Array.getElem?_modify, hne]

theorem ints_block {w w' : World} {a : Option Addr} {l : List Int} (h : Ints w a l) (hb : ∀ k, k < w.heap.size → (a.map (·.block)) ≠ some k ∨ w'.heap[k]? = w.heap[k]?) : Ints w' a l :=
  ⟨h.len, fun hl => by
    obtain ⟨b, off, ha, hc⟩ := h.at_ hl
    refine ⟨b, off, ha, fun j hj => ?_⟩
    have h0 := hc j hj
    rcases hb b (block_lt_of_cell h0) with h1 | h1
    · subst ha; exact absurd rfl h1
    · rw [← h0]; exact World.cell?_of_block (w := w) h1⟩

theorem put_rowA {α : Type} [Inhabited α] {w : World} {g q : Nat} {l : List Int} (enc : α → Value) (d : Array α) (ys : List Int) (hR : RowAt w g l) (hl : l.length = d.size) (hy : d.toList.map enc = ys.map (Value.int .i64)) :
    RowAt ((Sort.putRow enc w g 0 d).drewN q) g ys := by
  have hyl : ys.length = d.size := by
    have := congrArg List.length hy
    simpa using this.symm
  show (Sort.putRow enc w g 0 d).heap[g]? = _
  unfold RowAt at hR
  simp only [Sort.putRow, Sort.mapBlock, Array.getElem?_modify, hR, if_true, Option.map_some, Sort.onCells]
  congr 2
  apply Array.ext_getElem?
  intro j
  simp only [Sort.putCells, Array.getElem?_mapIdx]
  by_cases hj : j < d.size
  · have e1 : (d.toList.map enc)[j]? = (ys.map (Value.int .i64))[j]? := by rw [hy]
    rw [rowA_at l j (by omega), rowA_at ys j (by omega)]
    simp [hj] at e1 ⊢
    simpa [show j < ys.length by omega] using e1
  · rw [Array.getElem?_eq_none (by simp; omega), Array.getElem?_eq_none (by simp; omega)]
    rfl

set_option maxHeartbeats 4000000 in
/-- slices.SortStableFunc of the ranks by their keys, fewer than 20 -/
theorem stable_small {w : World} {a : Option Addr} {keys : List Int} (h : Ints w a keys) (cap : Nat) (bb : Nat) (hc : w.cell? ⟨bb, 0, none⟩ = some (.slice a keys.length cap)) (h1 : 1 ≤ keys.length) (hn : keys.length < 20)
    {g : Nat} (hR : RowAt w g (iotaL keys.length)) (hg1 : g ≠ bb) (hg2 : a.map (·.block) ≠ some g) :
    Calls Try.prog 118 #[.slice (some ⟨g, 0, none⟩) keys.length keys.length, .func (.func 119) #[] #[.pointer (some ⟨bb, 0, none⟩)]] w fun e w' => e = .returned (.tuple #[]) ∧ RowAt w' g (orderL keys) ∧ Below g w w' := by
  have hm : keys.length - 1 + 1 = keys.length := by omega
  have hH : Sort.Holds (fun (i : Fin (keys.length - 1 + 1)) => Value.int .i64 (i.1 : Int)) w g 0 (Array.ofFn fun i => i) := by
    intro j hj
    have hj' : j < keys.length := by simp at hj; omega
    refine ⟨?_, ?_⟩
    · rw [Nat.zero_add, hR.cell j (by simp; omega), getElem!_pos _ j hj]
      simp [iotaL]
    · rw [Nat.zero_add]; exact hR.open_ j
  have hins := Any.insertionSortCmpFunc_one Try.insL (fun (i : Fin (keys.length - 1 + 1)) => Value.int .i64 (i.1 : Int)) (fun _ => rfl) (fun i j => cmpZ (keys.getD i.1 0) (keys.getD j.1 0)) 119 #[.pointer (some ⟨bb, 0, none⟩)] g 0 keys.length 0 (keys.length - 1 + 1) (Array.ofFn fun i => i) w
    (enters_of Try.func119 (by kernel_rfl) rfl) (fun q os dk hdk x y => by
      have hI : Ints (sortWorld (fun (i : Fin (keys.length - 1 + 1)) => Value.int .i64 (i.1 : Int)) w g 0 q dk os) a keys := ints_block h fun k hk => by
        by_cases e : k = g
        · subst e; exact .inl hg2
        · exact .inr (sortWorld_heap _ _ _ _ _ _ _ k hk (fun e' => e e'.symm))
      have hC : (sortWorld (fun (i : Fin (keys.length - 1 + 1)) => Value.int .i64 (i.1 : Int)) w g 0 q dk os).cell? ⟨bb, 0, none⟩ = some (.slice a keys.length cap) := by
        rw [← hc]
        exact World.cell?_of_block (w := w) (sortWorld_heap _ _ _ _ _ _ _ bb (block_lt_of_cell hc) hg1)
      exact cmp_keys hI cap bb hC x.1 y.1 (by have := x.2; omega) (by have := y.2; omega)) hH (Nat.zero_le _) (by simp) (by simp; omega)
  have hsz : (Array.ofFn fun (i : Fin (keys.length - 1 + 1)) => i).size = keys.length := by simp [hm]
  rw [hsz, show (((keys.length - 1 + 1 : Nat)) : Int) = (keys.length : Int) by omega] at hins
  have HI : Hid (Calls Try.prog 145 #[.slice (some ⟨g, 0, none⟩) keys.length keys.length, .int .i64 0, .int .i64 keys.length, .func (.func 119) #[] #[.pointer (some ⟨bb, 0, none⟩)]] w fun e w' => e = .returned (.tuple #[]) ∧ RowAt w' g (orderL keys) ∧ Below g w w') := by
    show Calls _ _ _ _ _
    refine hins.mono ?_
    rintro e w' ⟨rfl, n, rfl⟩
    refine ⟨rfl, put_rowA (fun (i : Fin (keys.length - 1 + 1)) => Value.int .i64 (i.1 : Int)) (orderF keys (keys.length - 1)) _ hR ?_ ?_, ?_⟩
    · rw [orderF_size]; simp [hm]
    · unfold orderL; simp [Function.comp_def]
    · refine ⟨rfl, rfl, rfl, by simp [World.drewN], fun k hk => ?_⟩
      show (Sort.putRow _ w g 0 _).heap[k]? = _
      simp [Sort.putRow, Sort.mapBlock, Array.getElem?_modify, show g ≠ k by omega]
  clear hins hH hR hsz
  have H137 : Hid (Calls Try.prog 137 #[.slice (some ⟨g, 0, none⟩) keys.length keys.length, .int .i64 keys.length, .func (.func 119) #[] #[.pointer (some ⟨bb, 0, none⟩)]] w fun e w' => e = .returned (.tuple #[]) ∧ RowAt w' g (orderL keys) ∧ Below g w w') := by
    show Calls _ _ _ _ _
    generalize keys.length = n at *
    clear h hc
    go_enter Try.func137, Try.ntmps137
    go_wp2_with fail
    go_loop [7, 8] (fun i j => i = .int .i64 0 ∧ j = .int .i64 20) (fun _ _ => 0)
    case atStart => exact ⟨rfl, rfl⟩
    case round =>
      obtain ⟨rfl, rfl⟩ := hrel
      have hn' : ¬ (20 : Int) ≤ n := by omega
      go_wp2_with (refine HI.out.mono ?_; rintro e w1 ⟨rfl, hR1, hb1⟩)
      have HR1 := Lib.hid hR1
      clear hR1
      go_loop [6, 7, 8, 9] (fun i _ _ _ => i = .int .i64 20) (fun _ _ _ _ => 0)
      case atStart => rfl
      case round =>
        subst hrel
        have hn2 : ¬ (20 : Int) < n := by omega
        go_wp2_with fail
        first | (refine bodyPost_end (results_none rfl _ _ _) rfl ?_) | (refine bodyPost_ret (results_none rfl _ _ _) rfl ?_)
        exact ⟨rfl, HR1.out, hb1⟩
  have H2 := H137.out
  clear H137 HI
  go_enter Try.func118, Try.ntmps118
  go_wp2_with (refine H2.mono ?_; rintro e w1 ⟨rfl, hR1, hb1⟩)
  first | (refine bodyPost_end (results_none rfl _ _ _) rfl ?_) | (refine bodyPost_ret (results_none rfl _ _ _) rfl ?_)
  exact ⟨rfl, hR1, hb1⟩
end Go.Proofs.Ytoloiingodigpaa
