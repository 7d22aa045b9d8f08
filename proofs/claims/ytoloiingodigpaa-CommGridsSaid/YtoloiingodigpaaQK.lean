import Derived.Test.YtoloiingodigpaaQI
import Derived.Test.YtoloiingodigpaaW
namespace Go.Proofs.Ytoloiingodigpaa
open Go.RowKit Go.Shelf
attribute [local go_sem] Oper.semAt_some litE
set_option maxRecDepth 100000
set_option maxHeartbeats 2000000

theorem sameGrid_true {w : World} {a1 a2 a3 a4 : Option Addr} {S : List Int} {V : List Bool} (h1 : Ints w a1 S) (h2 : Bools w a2 V) (h3 : Ints w a3 S) (h4 : Bools w a4 V) (c1 c2 c3 c4 : Nat) :
    Calls Try.prog 46 #[.agg #[.slice a1 S.length c1, .slice a2 V.length c2], .agg #[.slice a3 S.length c3, .slice a4 V.length c4]] w fun e w' => e = .returned (.bool true) ∧ Below w.heap.size w w' := by
  have hlen := h1.len
  have hwlen := h2.len
  have hb0 : Below w.heap.size w ((w.alloc (.cells #[.slice a1 S.length c1, .slice a2 V.length c2] 42)).alloc (.cells #[.slice a3 S.length c3, .slice a4 V.length c4] 43)) := ((Below.refl _ _).alloc (Nat.le_refl _) _).alloc (by simp) _
  have k0 : ((w.alloc (.cells #[.slice a1 S.length c1, .slice a2 V.length c2] 42)).alloc (.cells #[.slice a3 S.length c3, .slice a4 V.length c4] 43)).cell? ⟨w.heap.size, 0, none⟩ = some (.slice a1 S.length c1) := by simp
  have k1 : ((w.alloc (.cells #[.slice a1 S.length c1, .slice a2 V.length c2] 42)).alloc (.cells #[.slice a3 S.length c3, .slice a4 V.length c4] 43)).cell? ⟨w.heap.size, 1, none⟩ = some (.slice a2 V.length c2) := by simp
  have k2 : ((w.alloc (.cells #[.slice a1 S.length c1, .slice a2 V.length c2] 42)).alloc (.cells #[.slice a3 S.length c3, .slice a4 V.length c4] 43)).cell? ⟨w.heap.size + 1, 0, none⟩ = some (.slice a3 S.length c3) := by simp
  have k3 : ((w.alloc (.cells #[.slice a1 S.length c1, .slice a2 V.length c2] 42)).alloc (.cells #[.slice a3 S.length c3, .slice a4 V.length c4] 43)).cell? ⟨w.heap.size + 1, 1, none⟩ = some (.slice a4 V.length c4) := by simp
  have hs := same_ints (h1.keep hb0) (h3.keep hb0) c1 c3
  rw [decide_eq_true (rfl : S = S)] at hs
  have H2 := Lib.hid (h2.keep hb0)
  have H4 := Lib.hid (h4.keep hb0)
  clear h1 h2 h3 h4
  go_enter Try.func46, Try.ntmps46
  go_wp2_with fail
  generalize (w.alloc (.cells #[.slice a1 S.length c1, .slice a2 V.length c2] 42)).alloc (.cells #[.slice a3 S.length c3, .slice a4 V.length c4] 43) = w0 at *
  refine hs.mono ?_
  rintro e X ⟨rfl, hb⟩
  have g1 := kcell hb k1
  have g3 := kcell hb k3
  have hbb := hb0.trans (hb.mono hb0.size)
  have H2 := Lib.hid (H2.out.keep hb)
  have H4 := Lib.hid (H4.out.keep hb)
  clear hs k0 k1 k2 k3 hb hb0
  go_wp2_with fail
  go_loopw [5] (fun i wr => ∃ (k : Nat), k ≤ V.length ∧ i = .int .i64 k ∧ Below X.heap.size X wr) (fun i _ => V.length - (intOf i).toNat)
  case atStart => exact ⟨0, Nat.zero_le _, rfl, Below.refl _ _⟩
  case round =>
    obtain ⟨k, hk, rfl, hbq⟩ := hrel
    have hbF := hbb.trans (hbq.mono hbb.size)
    have f1 := kcell hbq g1
    have f3 := kcell hbq g3
    clear g1 g3
    by_cases hlt : k < V.length
    · obtain ⟨g, off, rfl, hc⟩ := (H2.out.keep hbq).at_ (ne_nil_of_lt hlt)
      obtain ⟨g2, off2, rfl, hc2⟩ := (H4.out.keep hbq).at_ (ne_nil_of_lt hlt)
      have d0 := hc k hlt
      have d1 := hc2 k hlt
      clear hc hc2
      generalize V[k] = b at *
      have hbe : (b != b) = false := by cases b <;> rfl
      have hbe2 : (b == b) = true := by cases b <;> rfl
      go_wp2_with fail
      go_quiet (fail)
      go_wp2_with fail
      go_roundw
      case rel => exact ⟨k + 1, by omega, by go_num, below_drewN hbq _⟩
      case measure => simp [intOf]; omega
    · go_wp2_with fail
      go_ret
      exact ⟨rfl, hbF⟩
end Go.Proofs.Ytoloiingodigpaa
