import Derived.Test.YtoloiingodigpaaAI
import Derived.Test.YtoloiingodigpaaF
import Derived.SizedLaws
namespace Go.Proofs.Ytoloiingodigpaa
open Go.ChangeShapes Go.WideShapes Go.ChangeAt Go.RowKit

theorem Try.cells3 : Try.prog.cellsOf 3 = 1 := by kernel_rfl
theorem Try.bytes3 : Try.prog.bytesOf 3 = 8 := by kernel_rfl

/-- an argument that is a slice of integers -/
theorem ints_of_trod {H : Type} {enc : TypeId × Value → H} {W : World} {x : Option Addr} {len cap : Nat} {d : DataW H} {ps : List MemPlace} (h : DataW.Trod enc Try.prog W 0 (fun _ => true) true 22 (.slice x len cap) d ps)
    (hs : ∀ es sp, d = .slice es sp → (es.length + sp.length) * Try.prog.bytesOf 3 ≤ reachBytes) :
    ∃ l : List Int, l.length = len ∧ len ≤ cap ∧ (x = none → cap = 0) ∧ Ints W x l ∧ ∀ n ∈ l, (Lit.int .i64 n).wf = true := by
  obtain ⟨fuel, hf⟩ := h
  rcases open_ints Try.underlying22 Try.underlying3 Try.cells3 hf with ⟨hcs, hx⟩ | ⟨a, len', cap', zs, hcs, _, hl, hm, hz, hx, hcell, hwz⟩
  · have e : (Value.slice x len cap) = .slice none 0 0 := by simpa [Value.cells] using hcs
    cases e
    exact ⟨[], rfl, Nat.le_refl _, fun _ => rfl, ⟨by simp, fun hl => absurd rfl hl⟩, fun n hn => by cases hn⟩
  · have e : (Value.slice x len cap) = .slice (some a) len' cap' := by simpa [Value.cells] using hcs
    cases e
    simp only [if_true] at hz
    have hd := hs (lits .i64 (zs.take len)) (lits .i64 (zs.drop len)) (by simpa using congrArg Prod.fst hx)
    rw [Try.bytes3] at hd
    simp only [lits, List.length_map, List.length_take, List.length_drop, reachBytes] at hd
    refine ⟨zs.take len, by simp; omega, hl, (fun e => by cases e), ⟨by simp; omega, fun hne => ?_⟩, fun n hn => hwz n (List.mem_of_mem_take hn)⟩
    have hp : 0 < zs.length := by
      cases zs with
      | nil => simp at hne
      | cons _ _ => simp
    obtain ⟨b, off, rfl, hc⟩ := ints_at hcell hp
    refine ⟨b, off, rfl, fun j hj => ?_⟩
    simp at hj
    rw [hc j (by omega)]
    simp [List.getD, show j < zs.length by omega]
end Go.Proofs.Ytoloiingodigpaa
