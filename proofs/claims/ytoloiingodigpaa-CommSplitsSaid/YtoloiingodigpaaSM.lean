import Derived.Test.YtoloiingodigpaaSL
import Derived.Test.YtoloiingodigpaaAJ
import Derived.Test.YtoloiingodigpaaAF
namespace Go.Proofs.Ytoloiingodigpaa
open Go.ChangeShapes Go.WideShapes Go.ChangeAt Go.RowKit Go.Shelf
attribute [local go_sem] Oper.semAt_some litE
set_option maxRecDepth 100000
set_option maxHeartbeats 1000000

theorem Try.cells5 : Try.prog.cellsOf 5 = 1 := by kernel_rfl
theorem Try.bytes5 : Try.prog.bytesOf 5 = 1 := by kernel_rfl

/-- a slice of bytes -/
structure U8s (w : World) (a : Option Addr) (l : List Int) : Prop where
  len : l.length ≤ 140737488355328
  byte : ∀ x ∈ l, 0 ≤ x ∧ x < 256
  at_ : l ≠ [] → ∃ b off, a = some ⟨b, off, none⟩ ∧ ∀ j (h : j < l.length), w.cell? ⟨b, off + j, none⟩ = some (.int .u8 l[j])
theorem U8s.keep {w w' : World} {a : Option Addr} {l : List Int} (h : U8s w a l) (hb : Below w.heap.size w w') : U8s w' a l :=
  ⟨h.len, h.byte, fun hl => by
    obtain ⟨b, off, ha, hc⟩ := h.at_ hl
    exact ⟨b, off, ha, fun j hj => (hb.cell (p := ⟨b, off + j, none⟩) (block_lt_of_cell (hc j hj))).trans (hc j hj)⟩⟩

/-- an argument that is a slice of bytes -/
theorem bytes_of_trod {H : Type} {enc : TypeId × Value → H} {W : World} {x : Option Addr} {len cap : Nat} {d : DataW H} {ps : List MemPlace} (h : DataW.Trod enc Try.prog W 0 (fun _ => true) true 71 (.slice x len cap) d ps)
    (hs : ∀ es sp, d = .slice es sp → (es.length + sp.length) * Try.prog.bytesOf 5 ≤ reachBytes) :
    ∃ l : List Int, l.length = len ∧ len ≤ cap ∧ (x = none → cap = 0) ∧ U8s W x l ∧ True := by
  obtain ⟨fuel, hf⟩ := h
  rcases open_ints Try.underlying71 Try.underlying5 Try.cells5 hf with ⟨hcs, hx⟩ | ⟨a, len', cap', zs, hcs, _, hl, hm, hz, hx, hcell, hwz⟩
  · have e : (Value.slice x len cap) = .slice none 0 0 := by simpa [Value.cells] using hcs
    cases e
    exact ⟨[], rfl, Nat.le_refl _, fun _ => rfl, ⟨by simp, by simp, fun hl => absurd rfl hl⟩, trivial⟩
  · have e : (Value.slice x len cap) = .slice (some a) len' cap' := by simpa [Value.cells] using hcs
    cases e
    simp only [if_true] at hz
    have hd := hs (lits .u8 (zs.take len)) (lits .u8 (zs.drop len)) (by simpa using congrArg Prod.fst hx)
    rw [Try.bytes5] at hd
    simp only [lits, List.length_map, List.length_take, List.length_drop, reachBytes] at hd
    refine ⟨zs.take len, by simp; omega, hl, (fun e => by cases e), ⟨by simp; omega, fun n hn => ?_, fun hne => ?_⟩, trivial⟩
    · have := hwz n (List.mem_of_mem_take hn)
      simp only [Lit.wf, Bool.and_eq_true, decide_eq_true_eq] at this
      have h1 : IntKind.u8.min = 0 := rfl
      have h2 : IntKind.u8.max = 255 := rfl
      omega
    have hp : 0 < zs.length := by
      cases zs with
      | nil => simp at hne
      | cons _ _ => simp
    obtain ⟨b, off, rfl, hc⟩ := ints_at hcell hp
    refine ⟨b, off, rfl, fun j hj => ?_⟩
    simp at hj
    rw [hc j (by omega)]
    simp [List.getD, show j < zs.length by omega]

theorem member_any {w : World} {a : Option Addr} {l : List Int} (h : Ints w a l) (cap : Nat) (x : Int) :
    Calls Try.prog 55 #[.slice a l.length cap, .int .i64 x] w fun e w' => e = .returned (.bool (decide (x ∈ l))) ∧ w = w' := by
  have hlen := h.len
  go_enter Try.func55, Try.ntmps55
  go_wp2_with fail
  go_loop [9] (fun i => ∃ k : Nat, k ≤ l.length ∧ i = .int .i64 k ∧ Hid (x ∈ l.drop k ↔ x ∈ l)) (fun i => l.length - (intOf i).toNat)
  case atStart => exact ⟨0, Nat.zero_le _, rfl, by show _ ↔ _; simp⟩
  case round =>
    obtain ⟨k, hk, rfl, HE⟩ := hrel
    by_cases hlt : k < l.length
    · obtain ⟨g, off, rfl, hc⟩ := h.at_ (ne_nil_of_lt hlt)
      have c0 := hc k hlt
      have HC : Hid (x ∈ l.drop k ↔ (x = l[k] ∨ x ∈ l.drop (k + 1))) := by
        show _ ↔ _; conv => lhs; rw [List.drop_eq_getElem_cons hlt, List.mem_cons]
      generalize l[k] = y at *
      clear hc h
      by_cases hy : x = y
      · subst hy
        have HN : Hid (x ∈ l) := HE.out.1 (HC.out.2 (.inl rfl))
        clear HE HC
        go_wp2_with fail
        go_ret
        exact ⟨by rw [decide_eq_true HN.out]; rfl, rfl⟩
      · have HN : Hid (x ∈ l.drop (k + 1) ↔ x ∈ l) := by
          show _ ↔ _
          rw [← HE.out, HC.out]
          simp [hy]
        have hb : (x == y) = false := beq_eq_false_iff_ne.2 hy
        clear HE HC
        go_wp2_with fail
        go_round
        case rel => exact ⟨k + 1, by omega, by go_num, HN⟩
        case measure => simp [intOf]; omega
    · have HN : Hid (x ∉ l) := by
        show ¬ _
        rw [← HE.out, drop_end hlt]
        simp
      clear HE
      go_wp2_with fail
      go_ret
      exact ⟨by rw [decide_eq_false HN.out]; rfl, rfl⟩
end Go.Proofs.Ytoloiingodigpaa
