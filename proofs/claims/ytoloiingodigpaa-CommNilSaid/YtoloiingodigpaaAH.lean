import Derived.Test.YtoloiingodigpaaAG
namespace Go.Proofs.Ytoloiingodigpaa
open Go.RowKit Go.Shelf Go.Lib
attribute [local go_sem] Oper.semAt_some
set_option maxRecDepth 100000
set_option maxHeartbeats 1000000

theorem CommNil_walk (c : Int) (a : Option Addr) (n cap : Nat) (w : World) :
    Calls Try.prog 8 #[.int .i64 c, .slice a n cap] w fun e w' => e = .returned (.bool true) ∧ Below w.heap.size w w' := by
  have b1 : Below w.heap.size w (w.alloc (.cells #[.map none] 60)) := (Below.refl _ _).alloc (Nat.le_refl _) _
  have k1 : (w.alloc (.cells #[.map none] 60)).cell? ⟨w.heap.size, 0, none⟩ = some (.map none) := by simp
  have z1 : (w.alloc (.cells #[.map none] 60)).heap.size = w.heap.size + 1 := by simp
  go_enter Try.func8, Try.ntmps8
  go_wp2_with fail
  generalize w.alloc (.cells #[.map none] 60) = W1 at *
  have KK := Lib.hid k1
  clear k1
  go_loopw [19] (fun i wr => ∃ k : Nat, k ≤ 2 ∧ i = .int .i64 k ∧ Hid (Below W1.heap.size W1 wr) ∧ wr.cell? ⟨w.heap.size + 1, 0, none⟩ = some (.pointer none) ∧ wr.cell? ⟨w.heap.size + 1, 1, none⟩ = some (.pointer (some ⟨w.heap.size, 0, none⟩))) (fun i _ => 2 - (intOf i).toNat)
  case atStart =>
    refine ⟨0, by omega, rfl, (Below.refl _ _).alloc (Nat.le_refl _) _, ?_, ?_⟩
    · rw [← z1]; simp
    · rw [← z1]; simp
  case round =>
    obtain ⟨k, hk, rfl, HB, d0, d1⟩ := hrel
    by_cases h2 : k < 2
    · have hp : ∃ p, wr.cell? ⟨w.heap.size + 1, k, none⟩ = some (.pointer p) ∧ BadSp wr p := by
        have : k = 0 ∨ k = 1 := by omega
        rcases this with rfl | rfl
        · exact ⟨none, d0, .inl rfl⟩
        · exact ⟨_, d1, .inr ⟨_, rfl, (HB.out.cell (p := ⟨w.heap.size, 0, none⟩) (by rw [z1]; simp)).trans KK.out⟩⟩
      obtain ⟨p, hcp, hbad⟩ := hp
      have HD : Hid (wr.cell? ⟨w.heap.size + 1, 0, none⟩ = some (.pointer none) ∧ wr.cell? ⟨w.heap.size + 1, 1, none⟩ = some (.pointer (some ⟨w.heap.size, 0, none⟩))) := ⟨d0, d1⟩
      have HBAD := Lib.hid hbad
      clear d0 d1 hbad
      have g1 := Group_bad HBAD.out c
      have g2 := Dup_bad HBAD.out c
      have g3 := Make_bad HBAD.out c a n cap
      have g4 := Split_bad HBAD.out c a a n cap n cap
      have hlt := block_lt_of_cell hcp
      go_wp2_with (first
        | (with_reducible refine g1.mono ?_; rintro e w' ⟨rfl, rfl⟩)
        | (with_reducible refine g2.mono ?_; rintro e w' ⟨rfl, rfl⟩)
        | (with_reducible refine g3.mono ?_; rintro e w' ⟨rfl, rfl⟩)
        | (with_reducible refine g4.mono ?_; rintro e w5 ⟨rfl, hb5⟩; have g5 := Free_bad (HBAD.out.keep hb5) c; have g6 := Contexts_bad (HBAD.out.keep hb5); have g7 := Copy_bad (HBAD.out.keep hb5))
        | (with_reducible refine g5.mono ?_; rintro e w' ⟨rfl, rfl⟩)
        | (with_reducible refine g6.mono ?_; rintro e w' ⟨rfl, rfl⟩)
        | (with_reducible refine g7.mono ?_; rintro e w' ⟨rfl, rfl⟩))
      have hd := HD.out
      refine ⟨⟨k + 1, by omega, by go_num, HB.out.trans (hb5.mono HB.out.size), (hb5.cell (p := ⟨w.heap.size + 1, 0, none⟩) hlt).trans hd.1, (hb5.cell (p := ⟨w.heap.size + 1, 1, none⟩) hlt).trans hd.2⟩, ?_⟩
      simp [intOf]; omega
    · have hk2 : k = 2 := by omega
      subst hk2
      have HBw : Hid (Below w.heap.size w wr) := b1.trans (HB.out.mono b1.size)
      clear d0 d1
      go_wp2_with (refine (works_true wr).mono ?_; rintro e w' ⟨rfl, hb⟩)
      go_ret
      exact ⟨rfl, HBw.out.trans (hb.mono HBw.out.size)⟩
end Go.Proofs.Ytoloiingodigpaa
