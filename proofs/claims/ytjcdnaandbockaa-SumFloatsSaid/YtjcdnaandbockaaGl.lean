import Derived.Test.YtjcdnaandbockaaGk
import Derived.Test.YtjcdnaandbockaaRows
import Derived.WalkKit
import Derived.ProofKit
import Derived.OpenShut
import Derived.Carry
namespace Go.Proofs.Ytjcdnaandbockaa
open Go.RowKit Go.Shelf
attribute [local go_sem] Oper.semAt_some litZ litF0 fA_set2 litA litA0 litAset
set_option maxRecDepth 100000
set_option maxHeartbeats 1000000

theorem val0 : valueN ⟨0, 0, 0⟩ = 0 := by kernel_rfl
theorem SumNil_walk (x : Nat) (_ : x < 18446744073709551616) (w : World) : Calls Try.prog 4 #[.int .u64 x] w fun e w' => e = .returned (.bool true) ∧ Below w.heap.size w w' := by
  go_enter Try.func4, Try.ntmps4
  go_wp2_with fail
  refine (New_any w).mono ?_
  rintro e w1 ⟨rfl, hg, hb⟩
  have HG := Lib.hid hg
  have HB := Lib.hid hb
  obtain ⟨hb2, h1, h2, hz⟩ := two w1 (.cells (#[.bool false] ++ fA ⟨0, 0, 0⟩) 42) (.cells #[.pointer none, .pointer (some ⟨w1.heap.size, 0, none⟩)] 24)
  have H1 := Lib.hid h1
  have H2 := Lib.hid h2
  have HG2 := Lib.hid (HG.out.keep hb2)
  have HB2 := Lib.hid (hb.trans (hb2.mono hb.size))
  clear hg hb hb2 h1 h2 HG HB
  go_wp2_with fail
  generalize (w1.alloc (.cells (#[.bool false] ++ fA ⟨0, 0, 0⟩) 42)).alloc (.cells #[.pointer none, .pointer (some ⟨w1.heap.size, 0, none⟩)] 24) = X at *
  go_loopw [13] (fun i wr => ∃ k : Nat, k ≤ 2 ∧ i = .int .i64 k ∧ Hid (Below X.heap.size X wr)) (fun i _ => 2 - (intOf i).toNat)
  case atStart => exact ⟨0, by omega, rfl, Below.refl _ _⟩
  case round =>
    obtain ⟨k, hk, rfl, HM⟩ := hrel
    have KG := Lib.hid (HG2.out.keep HM.out)
    have KB := Lib.hid (HB2.out.trans (HM.out.mono HB2.out.size))
    by_cases h2 : k < 2
    · have hp : ∃ p, wr.cell? ⟨w1.heap.size + 1, k, none⟩ = some p ∧ Bad p wr := by
        have K2 := heapB HM.out H2.out
        have K1 := heapB HM.out H1.out
        have : k = 0 ∨ k = 1 := by omega
        rcases this with rfl | rfl
        · exact ⟨_, cellR 0 K2 rfl, bad_nil wr⟩
        · exact ⟨_, cellR 1 K2 rfl, bad_zero (cellR 0 K1 (by simp))⟩
      obtain ⟨p, hcp, hbad⟩ := hp
      have HBAD := Lib.hid hbad
      clear hbad
      have g1 := Encode_bad HBAD.out
      have g2 := Add_bad HBAD.out x
      have g3 := Merge_bad HBAD.out (.pointer (some ⟨w.heap.size, 0, none⟩))
      have g4 := Merge_bad2 HBAD.out KG.out
      have g5 := Value_bad HBAD.out
      have g6 := Same_bad HBAD.out (.pointer (some ⟨w.heap.size, 0, none⟩))
      go_wp2_with fail
      refine g1.mono ?_
      rintro e w' ⟨rfl, rfl⟩
      clear g1
      go_wp2_with fail
      refine g2.mono ?_
      rintro e w' ⟨rfl, rfl⟩
      clear g2
      go_wp2_with fail
      refine g3.mono ?_
      rintro e w' ⟨rfl, rfl⟩
      clear g3
      go_wp2_with fail
      refine g4.mono ?_
      rintro e w' ⟨rfl, rfl⟩
      clear g4
      go_wp2_with fail
      refine g5.mono ?_
      rintro e w' ⟨rfl, rfl⟩
      clear g5
      go_wp2_with fail
      refine g6.mono ?_
      rintro e w6 ⟨rfl, hb6⟩
      have g7 := Same_bad2 (HBAD.out.keep hb6) (KG.out.keep hb6)
      clear g6
      go_wp2_with fail
      refine g7.mono ?_
      rintro e w7 ⟨rfl, hb7⟩
      have g8 := Copy_bad ((HBAD.out.keep hb6).keep hb7)
      clear g7
      go_wp2_with fail
      refine g8.mono ?_
      rintro e w' ⟨rfl, rfl⟩
      have HM2 := Lib.hid ((HM.out.trans (hb6.mono HM.out.size)).trans (hb7.mono (Nat.le_trans HM.out.size hb6.size)))
      clear g8 hb6 hb7 HM KG KB HBAD
      go_wp2_with fail
      go_round
      case rel => exact ⟨k + 1, by omega, by go_num, HM2⟩
      case measure => simp [intOf]; omega
    · have hk2 : k = 2 := by omega
      subst hk2
      have hv := Value_any KG.out (by decide) big_pos (by show absN 0 < _; rw [← top_eq, abs_iv big_pos, iv_zero]; exact top_pos)
      rw [val0] at hv
      go_wp2_with fail
      refine hv.mono ?_
      rintro e w8 ⟨rfl, hb8⟩
      have hs := Same_any (KG.out.keep hb8) (KG.out.keep hb8) big_pos big_pos
      rw [decide_eq_true (show _ ∧ _ ∧ _ from ⟨rfl, rfl, rfl⟩)] at hs
      have KB2 := Lib.hid (KB.out.trans (hb8.mono KB.out.size))
      clear hv hb8 KG KB
      go_wp2_with fail
      refine hs.mono ?_
      rintro e w9 ⟨rfl, hb9⟩
      have KB3 := Lib.hid (KB2.out.trans (hb9.mono KB2.out.size))
      clear hs hb9 KB2
      go_wp2_with fail
      refine (works_any w9).mono ?_
      rintro e w10 ⟨rfl, hb10⟩
      have KB4 := KB3.out.trans (hb10.mono KB3.out.size)
      go_wp2_with fail
      go_ret
      exact ⟨rfl, KB4⟩
end Go.Proofs.Ytjcdnaandbockaa

namespace Go.Proofs.Ytjcdnaandbockaa
open Go.ChangeShapes Go.WideShapes Go.ChangeAt Go.RowKit

theorem own : ownKnob Try.prog.godebug = none := by kernel_rfl
theorem laidOut : laidOutB Try.prog = true := by kernel_rfl

/-- the arguments read behind the call as before it -/
theorem below_trodAll {H : Type} {enc : TypeId × Value → H} {W W' : World} (hb : Below W.heap.size W W') : ∀ (ts : List TypeId) {vs : List Value} {ds : List (DataW H)} {ps : List MemPlace},
    (∀ t ∈ ts, Try.prog.readableRec t = true ∧ t < Try.prog.types.size) → DataW.TrodAll enc Try.prog W 0 (fun _ => true) true ts vs ds ps → (∀ x ∈ ps, x.block < W.heap.size) →
    DataW.TrodAll enc Try.prog W' 0 (fun b => decide (b < W.heap.size)) true ts vs ds ps
  | [], _, _, _, _, h, _ => by
    obtain ⟨rfl, rfl, rfl⟩ := trodAll_nil h
    exact trodAll_mk0
  | t :: ts, _, _, _, ht, h, hlt => by
    obtain ⟨v, vs1, d, ds1, a, b, rfl, rfl, rfl, h1, h2⟩ := trodAll_cons h
    obtain ⟨hr, hs⟩ := ht t (by simp)
    exact trodAll_cons_mk (Below.trod laidOut hr hs h1 hb fun x hx => hlt x (by simp [hx])) (below_trodAll hb ts (fun u hu => ht u (by simp [hu])) h2 fun x hx => hlt x (by simp [hx]))
/-- a number of 64 bits -/
theorem u64_nat {a : Int} (h : (Lit.int .u64 a).wf = true) : ∃ x : Nat, a = x ∧ x < 18446744073709551616 := by
  have h2 : IntKind.u64.min ≤ a ∧ a ≤ IntKind.u64.max := by simpa [Lit.wf] using h
  have e1 : IntKind.u64.min = 0 := by decide
  have e2 : IntKind.u64.max = 18446744073709551615 := by decide
  exact ⟨a.toNat, by omega, by omega⟩
end Go.Proofs.Ytjcdnaandbockaa
