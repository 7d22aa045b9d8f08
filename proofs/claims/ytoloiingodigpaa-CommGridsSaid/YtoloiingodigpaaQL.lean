import Derived.Test.YtoloiingodigpaaAJ
import Derived.Test.YtoloiingodigpaaK
import Derived.Deep.Grids
namespace Go.Proofs.Ytoloiingodigpaa
open Go.ChangeShapes Go.WideShapes Go.ChangeAt Go.RowKit Go.Deep

theorem Try.cells4 : Try.prog.cellsOf 4 = 1 := by kernel_rfl
theorem Try.bytes4 : Try.prog.bytesOf 4 = 1 := by kernel_rfl
theorem Try.und4 : Try.prog.underlying 4 = some .bool := by kernel_rfl

/-- a slice of truth values of any length -/
structure BoolsR (w : World) (a : Option Addr) (l : List Bool) : Prop where
  len : l.length ≤ 140737488355328
  at_ : l ≠ [] → ∃ b off, a = some ⟨b, off, none⟩ ∧ ∀ j (h : j < l.length), w.cell? ⟨b, off + j, none⟩ = some (.bool l[j])
theorem BoolsR.short {w : World} {a : Option Addr} {l : List Bool} (h : BoolsR w a l) (hl : l.length ≤ 17592186044416) : Bools w a l := ⟨hl, h.at_⟩

theorem bools_at {w : World} {a : Addr} {n : Nat} {B : Nat → Bool} (h : ∀ i, i < n → w.cell? (a.add i) = some (.bool (B i))) (hp : 0 < n) :
    ∃ b off, a = ⟨b, off, none⟩ ∧ ∀ j, j < n → w.cell? ⟨b, off + j, none⟩ = some (.bool (B j)) := by
  obtain ⟨b, off, spot⟩ := a
  have hspot : spot = none := by simpa [Addr.add] using World.cell?_spot (h 0 hp)
  subst hspot
  refine ⟨b, off, rfl, fun j hj => ?_⟩
  have := h j hj
  have e : (⟨b, off, none⟩ : Addr).add j = ⟨b, off + j, none⟩ := by unfold Addr.add; split <;> simp_all
  rwa [e] at this

/-- an argument that is a slice of truth values -/
theorem bools_of_trod {H : Type} {enc : TypeId × Value → H} {W : World} {x : Option Addr} {len cap : Nat} {d : DataW H} {ps : List MemPlace} (h : DataW.Trod enc Try.prog W 0 (fun _ => true) true 40 (.slice x len cap) d ps)
    (hs : ∀ es sp, d = .slice es sp → (es.length + sp.length) * Try.prog.bytesOf 4 ≤ reachBytes) :
    ∃ l : List Bool, l.length = len ∧ len ≤ cap ∧ (x = none → cap = 0) ∧ BoolsR W x l ∧ True := by
  obtain ⟨fuel, hf⟩ := h
  rcases open_bools Try.underlying40 Try.und4 Try.cells4 hf with ⟨hcs, hx⟩ | ⟨a, len', cap', B, hcs, _, hl, hm, hx, hcell⟩
  · have e : (Value.slice x len cap) = .slice none 0 0 := by simpa [Value.cells] using hcs
    cases e
    exact ⟨[], rfl, Nat.le_refl _, fun _ => rfl, ⟨by simp, fun hl => absurd rfl hl⟩, trivial⟩
  · have e : (Value.slice x len cap) = .slice (some a) len' cap' := by simpa [Value.cells] using hcs
    cases e
    have hd1 : d = boolRow (some a) len cap B := congrArg Prod.fst hx
    have hlb : len ≤ 140737488355328 := by
      have := hs _ _ (by rw [hd1]; rfl)
      rw [Try.bytes4] at this
      simp [reachBytes] at this
      omega
    refine ⟨(List.range len).map B, by simp, hl, (fun e => by cases e), ⟨by simpa using hlb, fun hne => ?_⟩, trivial⟩
    have hp : 0 < len := by
      cases len with
      | zero => simp at hne
      | succ _ => simp
    obtain ⟨b, off, rfl, hc⟩ := bools_at hcell (by omega : 0 < cap)
    refine ⟨b, off, rfl, fun j hj => ?_⟩
    simp at hj
    rw [hc j (by omega)]
    simp
end Go.Proofs.Ytoloiingodigpaa
