import Derived.Test.YtoloiingodigpaaH
import Derived.Test.YtoloiingodigpaaI
import Derived.Maps.Own
import Derived.RangeFuncRecord
import Derived.Laws.EntriesVeiled
import Derived.WalkLawsBesides
namespace Go.Proofs.Ytoloiingodigpaa
open Go.RowKit Go.Shelf

/-- the entries of a map from contexts 0.. to values -/
def mapEs (vs : List Value) : Array MapEntry := (vs.zipIdx.map fun x => ({ key := .int .i64 (x.2 : Int), val := x.1, born := x.2 } : MapEntry)).toArray

theorem mapEs_push (vs : List Value) (v : Value) : (mapEs vs).push { key := .int .i64 (vs.length : Int), val := v, born := vs.length } = mapEs (vs ++ [v]) := by
  simp [mapEs, List.zipIdx_append]

def mapGet (vs : List Value) (c : Int) : Option Value := if c < 0 then none else vs[c.toNat]?

theorem findNow_at : ∀ (vs : List Value) (s i : Nat) (c : Nat), s ≤ c →
    Instr.findNow (.int .i64) (.int .i64 (c : Int)) ((vs.zipIdx s).map fun x => ({ key := .int .i64 (x.2 : Int), val := x.1, born := x.2 } : MapEntry)) i = some (match vs[c - s]? with | some v => some (i + (c - s), v) | none => none)
  | [], s, i, c, h => by simp [Instr.findNow]
  | v :: vs, s, i, c, h => by
    unfold Instr.findNow
    by_cases e : c = s
    · subst e
      simp [Instr.sameNow]
    · have hb : ((c : Int) == (s : Int)) = false := by
        rw [beq_eq_false_iff_ne]; omega
      have ih := findNow_at vs (s + 1) (i + 1) c (by omega)
      simp only [List.zipIdx_cons, List.map_cons, Instr.sameNow, hb]
      have e1 : c - s = (c - (s + 1)) + 1 := by omega
      simp [ih, e1]
      have e2 : i + 1 + (c - (s + 1)) = i + (c - (s + 1) + 1) := by omega
      rw [e2]

theorem findNow_neg : ∀ (vs : List Value) (s i : Nat) (c : Int), c < 0 →
    Instr.findNow (.int .i64) (.int .i64 c) ((vs.zipIdx s).map fun x => ({ key := .int .i64 (x.2 : Int), val := x.1, born := x.2 } : MapEntry)) i = some none
  | [], s, i, c, h => by simp [Instr.findNow]
  | v :: vs, s, i, c, h => by
    unfold Instr.findNow
    have hb : (c == (s : Int)) = false := by rw [beq_eq_false_iff_ne]; omega
    have ih := findNow_neg vs (s + 1) (i + 1) c h
    simp [Instr.sameNow, hb, ih]

theorem find_get (vs : List Value) (c : Int) : Instr.findNow (.int .i64) (.int .i64 c) (mapEs vs).toList 0 = some ((mapGet vs c).map fun v => (c.toNat, v)) := by
  unfold mapGet mapEs
  by_cases h : c < 0
  · simp [h, findNow_neg vs 0 0 c h]
  · obtain ⟨n, rfl⟩ : ∃ n : Nat, c = n := ⟨c.toNat, by omega⟩
    have := findNow_at vs 0 0 n (by omega)
    simp at this
    simp [h, this]
    cases vs[n]? <;> rfl

/-- block m holds the map with these values at 0.. -/
def MapAt (w : World) (m : Nat) (vs : List Value) : Prop := w.heap[m]? = some (.map (mapEs vs) vs.length)

theorem MapAt.lt {w : World} {m : Nat} {vs : List Value} (h : MapAt w m vs) : m < w.heap.size := (Array.getElem?_eq_some_iff.1 h).1
theorem MapAt.keep {w w' : World} {m B : Nat} {vs : List Value} (h : MapAt w m vs) (hb : Below B w w') (hB : m < B) : MapAt w' m vs := (hb.block m hB).trans h

theorem map_lookup {w : World} {m : Nat} {vs : List Value} (h : MapAt w m vs) (c : Int) (ok : Bool) :
    (Instr.lookup 58 (.map (some m)) (.int .i64 c) ok).run Try.prog w = .ok (if ok then .tuple #[(mapGet vs c).getD (.slice none 0 0), .bool (mapGet vs c).isSome] else (mapGet vs c).getD (.slice none 0 0)) w := by
  have h3 : Try.prog.underlying 3 = some (.int .i64) := Try.underlying3
  have hkk : MapKept.IsKey (.int .i64) (.int .i64 c) := rfl
  have hc := fun e => MapKept.run_checkKey (w := w) h3 hkk e 9999
  have hf := MapKept.run_findKey (w := w) h3 (find_get vs c)
  have hg := MapKept.run_getObj_map (P := Try.prog) h
  unfold Instr.lookup
  cases e : mapGet vs c with
  | none =>
    rw [e] at hf
    simp [Sem.run_bind, run_underlying Try.underlying58, hg, hc, hf, Result.andThen, go_sem]
  | some v =>
    rw [e] at hf
    simp [Sem.run_bind, run_underlying Try.underlying58, hg, hc, hf, Result.andThen, go_sem]

theorem mapGet_len (vs : List Value) : mapGet vs (vs.length : Int) = none := by
  unfold mapGet
  simp

theorem map_insert {w : World} {m : Nat} {vs : List Value} (h : MapAt w m vs) (v : Value) :
    (Instr.mapUpdate 58 (.map (some m)) (.int .i64 (vs.length : Int)) v).run Try.prog w = .ok () (w.putObj m (.map (mapEs (vs ++ [v])) (vs ++ [v]).length)) := by
  have h3 : Try.prog.underlying 3 = some (.int .i64) := Try.underlying3
  have hk : MapKept.IsKey (.int .i64) (.int .i64 (vs.length : Int)) := rfl
  have hc := MapKept.run_checkKey (w := w) h3 hk false 9999
  have hf := MapKept.run_findKey (w := w) h3 (find_get vs (vs.length : Int))
  rw [mapGet_len] at hf
  have hs := MapKept.run_setObj_map (P := Try.prog) (.map (mapEs (vs ++ [v])) (vs ++ [v]).length) h
  have hg := MapKept.run_getObj_map (P := Try.prog) h
  rw [← mapEs_push, List.length_append] at hs ⊢
  unfold Instr.mapUpdate
  simp only [Sem.run_bind, run_underlying Try.underlying58, hg, hc, hf, Result.andThen]
  exact hs

theorem MapAt.put {w : World} {m : Nat} {vs vs' : List Value} (h : MapAt w m vs) : MapAt (w.putObj m (.map (mapEs vs') vs'.length)) m vs' ∧ Below m w (w.putObj m (.map (mapEs vs') vs'.length)) ∧ (w.putObj m (.map (mapEs vs') vs'.length)).heap.size = w.heap.size :=
  ⟨World.putObj_heap_same h.lt, ⟨rfl, rfl, rfl, by simp [World.putObj], fun k hk => World.putObj_heap_other (by omega)⟩, by simp [World.putObj]⟩

theorem upon_run {α : Type} {P : Program} {o : Oper} {a : Act} {next : Act → World → Prop} {Q : Exit → Act → World → Prop} {x y : Result α} {f : α → World → Result Next} (h : x = y) (hk : o.upon P a next Q (y.andThen f)) : o.upon P a next Q (x.andThen f) := h ▸ hk

/-- a slice with these numbers, of any capacity, not in the blocks ex -/
def GrpVal (ex : Nat → Prop) (w : World) (v : Value) (g : List Int) : Prop := ∃ a cap, v = .slice (some a) g.length cap ∧ Ints w (some a) g ∧ (g ≠ [] → ¬ ex a.block)

/-- a space: the box with its map, the map's values are groups -/
structure SpaceAt (ex : Nat → Prop) (w : World) (sp m : Nat) (gs : List (List Int)) : Prop where
  box : w.heap[sp]? = some (.cells #[.map (some m)] 60 (0, 0))
  vals : ∃ vs, MapAt w m vs ∧ vs.length = gs.length ∧ ∀ (i : Nat) (g : List Int), gs[i]? = some g → ∃ v, vs[i]? = some v ∧ GrpVal ex w v g

/-- no block -/
abbrev NoB : Nat → Prop := fun _ => False

theorem GrpVal.mono {ex ex' : Nat → Prop} {w : World} {v : Value} {g : List Int} (h : GrpVal ex w v g) (he : ∀ b, ex' b → ex b) : GrpVal ex' w v g := by
  obtain ⟨a, cap, e, hi, hx⟩ := h
  exact ⟨a, cap, e, hi, fun hg hb => hx hg (he _ hb)⟩
theorem SpaceAt.mono {ex ex' : Nat → Prop} {w : World} {sp m : Nat} {gs : List (List Int)} (h : SpaceAt ex w sp m gs) (he : ∀ b, ex' b → ex b) : SpaceAt ex' w sp m gs := by
  obtain ⟨hbox, vs, hm, hl, hv⟩ := h
  refine ⟨hbox, vs, hm, hl, fun i g hg => ?_⟩
  obtain ⟨v, h1, h2⟩ := hv i g hg
  exact ⟨v, h1, h2.mono he⟩
/-- no group lies in a block that isn't there yet -/
theorem SpaceAt.fresh {ex : Nat → Prop} {w : World} {sp m : Nat} {gs : List (List Int)} (h : SpaceAt ex w sp m gs) : SpaceAt (fun b => w.heap.size ≤ b) w sp m gs := by
  obtain ⟨hbox, vs, hm, hl, hv⟩ := h
  refine ⟨hbox, vs, hm, hl, fun i g hg => ?_⟩
  obtain ⟨v, h1, a, cap, e, hi, _⟩ := hv i g hg
  refine ⟨v, h1, a, cap, e, hi, fun hn hb => ?_⟩
  obtain ⟨b, off, ha, hc⟩ := hi.at_ hn
  cases ha
  have := block_lt_of_cell (hc 0 (by cases g with | nil => exact absurd rfl hn | cons _ _ => simp))
  simp at hb this
  omega
end Go.Proofs.Ytoloiingodigpaa
