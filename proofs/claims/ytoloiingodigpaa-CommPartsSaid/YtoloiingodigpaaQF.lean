import Derived.Test.YtoloiingodigpaaQE
import Derived.Deep.AppendLies
namespace Go.Proofs.Ytoloiingodigpaa
open Go.RowKit Go.Shelf
attribute [local go_sem] Oper.semAt_some litE
set_option maxRecDepth 100000
set_option maxHeartbeats 2000000

theorem Neighbors_ref {w : World} {sa wa : Option Addr} {sizes : List Int} {wrap : List Bool} (h : Ints w sa sizes) (hw : Bools w wa wrap) (sc wc : Nat) (r : Int) :
    Calls Try.prog 43 #[.agg #[.slice sa sizes.length sc, .slice wa wrap.length wc], .int .i64 r] w fun e w' => ∃ v, e = .returned (.tuple #[v, .int .i64 (gridErr sizes wrap.length r)]) ∧ NewInts w.heap.size w' v (if gridErr sizes wrap.length r = 0 then neighF sizes wrap r sizes.length else []) ∧ Below w.heap.size w w' := by
  have hlen := h.len
  have hwlen := hw.len
  obtain ⟨i0, hi, hz0, hz1, hz2⟩ := info_parts Try.info3
  have h0 := (Below.refl w.heap.size w).alloc (Nat.le_refl _) (.cells #[.slice sa sizes.length sc, .slice wa wrap.length wc] 43)
  have A0 := h.keep h0
  have A1 := hw.keep h0
  have e0 : (w.alloc (.cells #[.slice sa sizes.length sc, .slice wa wrap.length wc] 43)).cell? ⟨w.heap.size, 0, none⟩ = some (.slice sa sizes.length sc) := by simp
  have e1 : (w.alloc (.cells #[.slice sa sizes.length sc, .slice wa wrap.length wc] 43)).cell? ⟨w.heap.size, 1, none⟩ = some (.slice wa wrap.length wc) := by simp
  have hck := in_ref A0 sc wrap.length wc (wa := wa) hwlen r
  have hzw : (w.alloc (.cells #[.slice sa sizes.length sc, .slice wa wrap.length wc] 43)).heap.size = w.heap.size + 1 := by simp
  by_cases hg : gridErr sizes wrap.length r = 0
  · obtain ⟨hok, r0, r1⟩ := gridErr_ok hg
    have hl4 := hok.len4
    have hcn : countL sizes wrap.length ≠ 0 := by have := hok.pos; omega
    have hgrid := countL_grid hcn
    rw [hg] at hck ⊢
    rw [if_pos rfl]
    have hsh : Hid (∀ (X : World) (d : Nat) (back : Bool), d < sizes.length → Ints X sa sizes → Bools X wa wrap → Calls Try.prog 89 #[.agg #[.slice sa sizes.length sc, .slice wa wrap.length wc], .int .i64 r, .int .i64 d, .int .i64 1, .bool back] X fun e w' => e = .returned (.int .i64 (if back then shiftP sizes wrap r d 1 else shiftQ sizes wrap r d 1)) ∧ Below X.heap.size X w') := fun X d back hd i j => moved_ref hgrid i j sc wc r r0 r1 d hd 1 ⟨by decide, by decide⟩ back
    clear hg hok h hw hgrid hcn r0 r1
    go_enter Try.func43, Try.ntmps43
    go_wp2_with fail
    refine hck.mono ?_
    generalize w.alloc (.cells #[.slice sa sizes.length sc, .slice wa wrap.length wc] 43) = W at *
    rintro e X ⟨rfl, hb⟩
    have f0 := kcell hb e0
    have f1 := kcell hb e1
    have B0 := A0.keep hb
    have B1 := A1.keep hb
    have hz := hb.size
    have hbX := h0.trans (hb.mono (by omega))
    have HF0 := Lib.hid f0
    have HF1 := Lib.hid f1
    clear A0 A1 e0 e1 hb h0 hck
    go_wp2_with fail
    clear f0 f1
    go_loopw [7, 8] (fun t0 i wr => ∃ (k : Nat) (t : Value), t = t0 ∧ k ≤ sizes.length ∧ i = .int .i64 k ∧ Hid (wr.ownsRow X.heap.size 3 1 t (2 * k) ((neighF sizes wrap r k).map (Value.int .i64))) ∧ Below X.heap.size X wr) (fun _ i _ => sizes.length - (intOf i).toNat)
    case atStart => exact ⟨0, _, rfl, Nat.zero_le _, rfl, World.ownsRow_nil _ _ _ _, Below.refl _ _⟩
    case round =>
      obtain ⟨k, t, rfl, hk, rfl, HO, hbr⟩ := hrel
      have hzr := hbr.size
      by_cases hlt : k < sizes.length
      · have g0 := kcell hbr HF0.out
        have g1 := kcell hbr HF1.out
        have HN : Hid ((neighF sizes wrap r (k + 1)).map (Value.int .i64) = (neighF sizes wrap r k).map (Value.int .i64) ++ [.int .i64 (shiftP sizes wrap r k 1), .int .i64 (shiftQ sizes wrap r k 1)]) := by show _ = _; simp [neighF]
        have callA : ∀ X, Ints X sa sizes → Bools X wa wrap → Calls Try.prog 89 #[.agg #[.slice sa sizes.length sc, .slice wa wrap.length wc], .int .i64 r, .int .i64 k, .int .i64 1, .bool true] X fun e w' => e = .returned (.int .i64 (shiftP sizes wrap r k 1)) ∧ Below X.heap.size X w' := fun X i j => hsh.out X k true hlt i j
        have callB : ∀ X, Ints X sa sizes → Bools X wa wrap → Calls Try.prog 89 #[.agg #[.slice sa sizes.length sc, .slice wa wrap.length wc], .int .i64 r, .int .i64 k, .int .i64 1, .bool false] X fun e w' => e = .returned (.int .i64 (shiftQ sizes wrap r k 1)) ∧ Below X.heap.size X w' := fun X i j => hsh.out X k false hlt i j
        generalize shiftP sizes wrap r k 1 = p at *
        generalize shiftQ sizes wrap r k 1 = q at *
        have D0 : Ints wr.drew sa sizes := (B0.keep hbr).keep ((Below.refl _ wr).drew)
        have D1 : Bools wr.drew wa wrap := (B1.keep hbr).keep ((Below.refl _ wr).drew)
        have D2 : World.ownsRow wr.drew X.heap.size 3 1 t (2 * k) ((neighF sizes wrap r k).map (Value.int .i64)) := HO.out
        have D4 : wr.drew.cell? ⟨w.heap.size, 0, none⟩ = some (.slice sa sizes.length sc) := g0
        have D5 : wr.drew.cell? ⟨w.heap.size, 1, none⟩ = some (.slice wa wrap.length wc) := g1
        have D6 : Below X.heap.size X wr.drew := hbr.drew
        clear HO hbr
        go_wp2_with fail
        go_region_held3 (fun w' => Below X.heap.size X w' ∧ w'.cell? ⟨w.heap.size, 0, none⟩ = some (.slice sa sizes.length sc) ∧ w'.cell? ⟨w.heap.size, 1, none⟩ = some (.slice wa wrap.length wc))
          (first
            | exact ⟨D6, D4, D5⟩
            | exact ⟨by assumption, by assumption, by assumption⟩
            | exact ⟨hAl4 _, hCl4 _, hDl4 _⟩)
          ((first
            | (refine step_append_lies _ (by rfl) _ _ _ (by rfl) X.heap.size 3 i0 (.int .i64 0) 1 8 Try.underlying22 hi hz0 hz1 hz2 rfl (by decide) t (2 * k) _ (by rfl) (hO4.alloc _) ⟨w4.heap.size, 0, none⟩ 2 2 [.int .i64 p, .int .i64 q] (by rfl) (by rfl) (World.news_of_block (cs := #[.int .i64 p, .int .i64 q]) (t := 3) (fr := (0, 0)) (heap_alloc_new w4 _)) (by intro u hu; simp at hu; rcases hu with rfl | rfl <;> rfl) (by omega) (by unfold maxLen; omega) (by omega) (by simp; have := hB4.size; omega) (w4.heap.size + 1) (by simp) ?_; intro gg cap w1 hown1 hgrow hat hltg; have hB5 : Below X.heap.size X w1 := (hAl4 _).grown hgrow (by simp; have := hB4.size; omega) (fun kk hkk => (hO4.lt kk hkk).1); have hC5 := kcell hB5 HF0.out; have hD5 := kcell hB5 HF1.out)
            | (go_at_call 89; (first | (with_reducible refine (callA _ (by assumption) (by assumption)).mono ?_) | (with_reducible refine (callB _ (by assumption) (by assumption)).mono ?_)); (first | (have _hh := hbel3; rintro e w4 ⟨rfl, hbel4⟩; have hO4 := own_keep (show World.ownsRow _ X.heap.size 3 1 t (2 * k) ((neighF sizes wrap r k).map (Value.int .i64)) by assumption) hbel4; have hI4 := Ints.keep (show Ints _ sa sizes by assumption) hbel4; have hJ4 := Bools.keep (show Bools _ wa wrap by assumption) hbel4; have hC4 := kcell hbel4 (show _ = some (.slice sa sizes.length sc) by assumption); have hD4 := kcell hbel4 (show _ = some (.slice wa wrap.length wc) by assumption); have hB4 := Below.trans (show Below X.heap.size X _ by assumption) (hbel4.mono (Below.size (show Below X.heap.size X _ by assumption))); have hAl4 : ∀ o, Below X.heap.size X (w4.alloc o) := fun o => hB4.alloc hB4.size o; have hCl4 : ∀ o, (w4.alloc o).cell? ⟨w.heap.size, 0, none⟩ = some (.slice sa sizes.length sc) := fun o => kcell (hAl4 o) HF0.out; have hDl4 : ∀ o, (w4.alloc o).cell? ⟨w.heap.size, 1, none⟩ = some (.slice wa wrap.length wc) := fun o => kcell (hAl4 o) HF1.out) | (rintro e w3 ⟨rfl, hbel3⟩; have hO3 := own_keep (show World.ownsRow _ X.heap.size 3 1 t (2 * k) ((neighF sizes wrap r k).map (Value.int .i64)) by assumption) hbel3; have hI3 := Ints.keep (show Ints _ sa sizes by assumption) hbel3; have hJ3 := Bools.keep (show Bools _ wa wrap by assumption) hbel3; have hC3 := kcell hbel3 (show _ = some (.slice sa sizes.length sc) by assumption); have hD3 := kcell hbel3 (show _ = some (.slice wa wrap.length wc) by assumption); have hB3 := Below.trans (show Below X.heap.size X _ by assumption) (hbel3.mono (Below.size (show Below X.heap.size X _ by assumption))))))))
        all_goals (
          go_wp2_with fail
          go_roundw
          case rel => exact ⟨k + 1, _, rfl, by omega, by go_num, (by show World.ownsRow _ _ _ _ _ _ _; rw [HN.out, show 2 * (k + 1) = 2 * k + 2 from by omega]; exact hown1), hB5⟩
          case measure => simp [intOf]; omega)
      · have hkl : k = sizes.length := by omega
        subst hkl
        have g0 := kcell hbr HF0.out
        go_wp2_with fail
        go_ret2
        refine ⟨_, rfl, ⟨?_, by rw [neighF_len]; omega⟩, hbX.trans (hbr.mono (by omega))⟩
        rw [neighF_len]
        have := HO.out
        refine ⟨this.1, ?_⟩
        rcases this.2 with h2 | ⟨g, cap, cur, h1, h3, h4, h5⟩
        · exact .inl h2
        · exact .inr ⟨g, cap, cur, h1, by omega, h4, h5⟩
  · rw [if_neg hg]
    have hE2 : (gridErr sizes wrap.length r == 0) = false := beq_eq_false_iff_ne.2 hg
    have hE3 : (gridErr sizes wrap.length r != 0) = true := by rw [bne_iff_ne]; exact hg
    generalize gridErr sizes wrap.length r = er at *
    clear hg
    go_enter Try.func43, Try.ntmps43
    go_wp2_with fail
    refine hck.mono ?_
    generalize w.alloc (.cells #[.slice sa sizes.length sc, .slice wa wrap.length wc] 43) = W at *
    rintro e X ⟨rfl, hb⟩
    have hbb := h0.trans (hb.mono h0.size)
    clear hck hb
    go_wp2_with fail
    go_ret2
    exact ⟨_, rfl, ⟨World.ownsRow_nil _ _ _ _, by simp⟩, hbb⟩
end Go.Proofs.Ytoloiingodigpaa
