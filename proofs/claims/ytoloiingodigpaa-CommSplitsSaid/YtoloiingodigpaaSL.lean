import Derived.Test.YtoloiingodigpaaLC
import Derived.Test.YtoloiingodigpaaSK
import Derived.Shelf.SlIterI.Keys
namespace Go.Proofs.Ytoloiingodigpaa
open Go.RowKit Go.Shelf Go.Lib Go.Maps Go.Sort
attribute [local go_sem] Oper.semAt_some
set_option maxRecDepth 100000
set_option maxHeartbeats 1000000

/-- a reading that looks at no value -/
def anyV (_ : Value) : Option (DataW Unit × List MemPlace) := some (.lit (.bool true), [])

theorem mapEs_rg (vs : List Value) (hv : vs.length ≤ 64) : ∀ x ∈ (mapEs vs).toList, ∃ i : Nat, i < vs.length ∧ x.key = .int .i64 i ∧ x.born = i ∧ Go.WideElems.rd Try.prog 3 anyV x = some (.int .i64 i, .lit (.bool true)) := by
  intro x hx
  unfold mapEs at hx
  simp only at hx
  obtain ⟨p, hp, rfl⟩ := List.mem_map.1 hx
  have hlt : p.2 < vs.length := by
    have := List.snd_lt_of_mem_zipIdx hp
    omega
  refine ⟨p.2, hlt, rfl, rfl, ?_⟩
  unfold Go.WideElems.rd
  rw [keyOf_int_mk (Try.underlying3) (by simp only [Lit.wf, Bool.and_eq_true, decide_eq_true_eq]; have h1 : IntKind.i64.min = -9223372036854775808 := rfl; have h2 : IntKind.i64.max = 9223372036854775807 := rfl; omega)]
  rfl

theorem mapEs_keys (vs : List Value) (hv : vs.length ≤ 64) : (mapEs vs).toList.map (fun x => Go.intOf (Go.WideElems.rg Try.prog 3 anyV x).1) = iotaL vs.length := by
  have e : (mapEs vs).toList.map (fun x => Go.intOf (Go.WideElems.rg Try.prog 3 anyV x).1) = (mapEs vs).toList.map (fun x => (x.born : Int)) := by
    refine List.map_congr_left fun x hx => ?_
    obtain ⟨i, hi, hk, hb, hr⟩ := mapEs_rg vs hv x hx
    unfold Go.WideElems.rg
    rw [hr, hb]
    rfl
  rw [e]
  unfold mapEs iotaL
  simp only [List.map_map]
  show List.map (fun p : Value × Nat => (p.2 : Int)) vs.zipIdx = _
  rw [show (fun p : Value × Nat => (p.2 : Int)) = (fun i : Nat => (i : Int)) ∘ Prod.snd from rfl, ← List.map_map]
  congr 1
  rw [List.zipIdx_map_snd]
  simp [List.range_eq_range']

theorem MapAt.owns {w : World} {m : Nat} {vs : List Value} (h : MapAt w m vs) (hv : vs.length ≤ 64) :
    w.ownsMap Try.prog 3 anyV m vs.length (.map (((mapEs vs).toList.map (Go.WideElems.rg Try.prog 3 anyV)).foldr DataW.insert [])) := by
  have hz : (mapEs vs).size = vs.length := by simp [mapEs]
  refine ⟨mapEs vs, vs.length, h, ⟨by rw [hz]; unfold maxLen; omega, ⟨?_, ?_, ?_⟩, ?_⟩, by omega, rfl⟩
  · intro x hx
    obtain ⟨i, hi, hk, hb, hr⟩ := mapEs_rg vs hv x hx
    omega
  · have e : (mapEs vs).toList.map (·.born) = List.range vs.length := by
      unfold mapEs
      simp only [List.map_map]
      show List.map (fun p : Value × Nat => p.2) vs.zipIdx = _
      rw [show (fun p : Value × Nat => p.2) = Prod.snd from rfl, List.zipIdx_map_snd, List.range_eq_range']
    rw [e]; exact List.nodup_range
  · have e : (mapEs vs).toList.map (·.key) = (List.range vs.length).map (fun i : Nat => Value.int .i64 (i : Int)) := by
      unfold mapEs
      simp only [List.map_map]
      show List.map (fun p : Value × Nat => Value.int .i64 (p.2 : Int)) vs.zipIdx = _
      rw [show (fun p : Value × Nat => Value.int .i64 (p.2 : Int)) = (fun i : Nat => Value.int .i64 (i : Int)) ∘ Prod.snd from rfl, ← List.map_map, List.zipIdx_map_snd, List.range_eq_range']
    rw [e]
    exact List.pairwise_map.2 (List.nodup_range.imp (fun hne h => hne (by injection h with _ h; omega)))
  · intro x hx
    obtain ⟨i, hi, hk, hb, hr⟩ := mapEs_rg vs hv x hx
    exact ⟨_, hr⟩

theorem sorts_in (m : Nat) : AnyZI.SortsIn Try.prog Try.sortedL_ren Fence.wide m :=
  ⟨fun blk off cap ss W hH hblk hsz => callsIn_wide.2 (AnyG.slices_Sort_int Try.sortL blk off cap ss W hH hblk hsz),
   fun p cap W => callsIn_wide.2 (AnyG.slices_Sort_int_none Try.sortL p cap W)⟩

theorem keys_calls (m : Nat) (W : World) : Calls Try.prog 106 #[.map (some m)] W fun e w' => e = .returned (.func (.func 122) #[] #[.pointer (some ⟨W.heap.size, 0, none⟩)]) ∧ w' = W.alloc (.cells #[.map (some m)] 58) :=
  (callsIn_wide (n := 5)).1 (AnyZI.keys_in Try.keysL Fence.wide 5 trivial rfl (some m) W)

theorem sorted_calls {w : World} {m : Nat} {vs : List Value} (h : MapAt w m vs) (hv : vs.length ≤ 64) :
    Calls Try.prog 105 #[.func (.func 122) #[] #[.pointer (some ⟨w.heap.size, 0, none⟩)]] (w.alloc (.cells #[.map (some m)] 58)) fun e w' => ∃ v, e = .returned v ∧ NewInts w.heap.size w' v (iotaL vs.length) ∧ Below w.heap.size w w' := by
  have hown := h.owns hv
  have hbl := h.lt
  obtain ⟨D0, hD⟩ : ∃ D0, D0 = (DataW.map (((mapEs vs).toList.map (Go.WideElems.rg Try.prog 3 anyV)).foldr DataW.insert []) : DataW Unit) := ⟨_, rfl⟩
  rw [← hD] at hown
  have hperm : (Go.intKeys D0).Perm (iotaL vs.length) := by
    rw [hD, ← mapEs_keys vs hv]
    show (List.map (fun p : Lit × DataW Unit => Go.intOf p.1) _).Perm _
    have := (Go.WideShapes.sorted_perm ((mapEs vs).toList.map (Go.WideElems.rg Try.prog 3 anyV))).map (fun p : Lit × DataW Unit => Go.intOf p.1)
    rw [List.map_map] at this
    exact this
  have hsize : Maps.size D0 = vs.length := by
    rw [hD]
    show List.length _ = _
    rw [length_sorted]
    simp [mapEs]
  have hseq : SeqGives Fence.wide 2 Try.prog 122 #[.pointer (some ⟨w.heap.size, 0, none⟩)] Go.encZ (fun ss => ss.Perm (Go.intKeys D0)) (Maps.size D0) (w.alloc (.cells #[.map (some m)] 58)) :=
    AnyZI.keys_gives (ρ := Try.keysL_ren) { Try.keysL with } Fence.wide _ trivial rfl (by omega) w.heap.size m vs.length D0 _ (by simp) (by simp) (by
      obtain ⟨es, clock, hb, Ft, hs, hD'⟩ := hown
      exact ⟨es, clock, (Below.heap_alloc _ _ m hbl).trans hb, Ft, hs, hD'⟩)
  have cS := AnyZI.sorted_in Try.sortedL Fence.wide 5 trivial trivial trivial trivial rfl (by omega) (sorts_in _) (enters_of Try.func99 (by kernel_rfl) rfl) 122 #[.pointer (some ⟨w.heap.size, 0, none⟩)] trivial (enters_of Try.func122 (by kernel_rfl) rfl) _ _ (by rw [hsize]; unfold maxLen; omega) (by rw [hsize]; omega) _ hseq
  change CallsIn _ _ Try.prog 105 _ _ _ at cS
  refine ((callsIn_wide (n := 5)).1 cS).mono ?_
  rintro e w' ⟨v, ss, rfl, hS, hrow, hnil, hb⟩
  have hp2 := hS.trans hperm
  have e1 : (ss.mergeSort fun x y => decide (x ≤ y)) = iotaL vs.length := by
    have h1 : (iotaL vs.length).Pairwise (· ≤ ·) := (iotaL_pw _).imp (fun h => by omega)
    refine List.Perm.eq_of_pairwise (le := fun a b => a ≤ b) (fun a b _ _ h1 h2 => Int.le_antisymm h1 h2) (sortL_pw ss) h1 ((List.mergeSort_perm ss _).trans hp2)
  rw [e1] at hrow
  have hlen : ss.length = (iotaL vs.length).length := hp2.length_eq
  rw [hlen] at hrow
  refine ⟨v, rfl, ⟨ownsRow_base_a hrow (by simp), by simp; omega⟩, ((Below.refl _ w).alloc (Nat.le_refl _) _).trans (hb.mono (by simp))⟩

/-- Contexts -/
theorem Contexts_ok {w : World} {sp m : Nat} {gs : List (List Int)} (h : SpaceAt NoB w sp m gs) (hl : gs.length ≤ 64) :
    Calls Try.prog 53 #[.pointer (some ⟨sp, 0, none⟩)] w fun e w' => ∃ v, e = .returned v ∧ NewInts w.heap.size w' v (iotaL gs.length) ∧ Below w.heap.size w w' := by
  have hv := valid_ok h
  have hc := h.cell
  obtain ⟨vs, hm, hvl, _⟩ := h.vals
  have H1 := Lib.hid (keys_calls m w)
  have H2 := Lib.hid (sorted_calls hm (by omega))
  rw [hvl] at H2
  clear h hm
  go_enter Try.func53, Try.ntmps53
  go_wp2_with (refine hv.mono ?_; clear hv; rintro e w1 ⟨rfl, rfl⟩)
  go_wp2_with (refine H1.out.mono ?_; clear H1; rintro e w1 ⟨rfl, rfl⟩)
  go_wp2_with (refine H2.out.mono ?_; clear H2; rintro e w2 ⟨v, rfl, h1, h2⟩)
  go_ret
  exact ⟨v, rfl, h1, h2⟩
end Go.Proofs.Ytoloiingodigpaa
