import Derived.Test.YtoloiingodigpaaM
namespace Go.Proofs.Ytoloiingodigpaa
open Go.RowKit Go.Shelf
attribute [local go_sem] Oper.semAt_some litE

theorem gridErr_ok {sizes : List Int} {wl : Nat} {r : Int} (h : gridErr sizes wl r = 0) : GridOk sizes wl ∧ 0 ≤ r ∧ r < countL sizes wl := by
  unfold gridErr at h
  split at h
  · cases h
  · rename_i hc
    split at h
    · cases h
    · exact ⟨countL_ok hc, by omega, by omega⟩

/-- the two ranks of a shift -/
def shiftP (sizes : List Int) (wrap : List Bool) (r : Int) (d : Nat) (by' : Int) : Int := rankL 0 sizes wrap (shiftA sizes wrap r d by')
def shiftQ (sizes : List Int) (wrap : List Bool) (r : Int) (d : Nat) (by' : Int) : Int := rankL 0 sizes wrap (shiftB sizes wrap r d by')
def shiftE (sizes : List Int) (wl : Nat) (r d : Int) : Int := if gridErr sizes wl r ≠ 0 then gridErr sizes wl r else if d < 0 ∨ sizes.length ≤ d then 3 else 0

set_option maxRecDepth 100000 in
set_option maxHeartbeats 1000000 in
theorem Shift_any {w : World} {sa wa : Option Addr} {sizes : List Int} {wrap : List Bool} (h : Ints w sa sizes) (hw : Bools w wa wrap) (sc wc : Nat) (r d by' : Int) :
    Calls Try.prog 40 #[.agg #[.slice sa sizes.length sc, .slice wa wrap.length wc], .int .i64 r, .int .i64 d, .int .i64 by'] w fun e w' => e = .returned (.tuple #[.int .i64 (if shiftE sizes wrap.length r d = 0 then shiftP sizes wrap r d.toNat by' else 0), .int .i64 (if shiftE sizes wrap.length r d = 0 then shiftQ sizes wrap r d.toNat by' else 0), .int .i64 (shiftE sizes wrap.length r d)]) ∧ Below w.heap.size w w' := by
  have hlen := h.len
  have hwlen := hw.len
  have h0 := (Below.refl w.heap.size w).alloc (Nat.le_refl _) (.cells #[.slice sa sizes.length sc, .slice wa wrap.length wc] 42)
  have A0 := h.keep h0
  have A1 := hw.keep h0
  have e0 : (w.alloc (.cells #[.slice sa sizes.length sc, .slice wa wrap.length wc] 42)).cell? ⟨w.heap.size, 0, none⟩ = some (.slice sa sizes.length sc) := by simp
  have e1 : (w.alloc (.cells #[.slice sa sizes.length sc, .slice wa wrap.length wc] 42)).cell? ⟨w.heap.size, 1, none⟩ = some (.slice wa wrap.length wc) := by simp
  have hck := gcheck_any A0 sc wrap.length wc (wa := wa) hwlen r
  have hzw : (w.alloc (.cells #[.slice sa sizes.length sc, .slice wa wrap.length wc] 42)).heap.size = w.heap.size + 1 := by simp
  by_cases hg : gridErr sizes wrap.length r = 0
  · obtain ⟨hok, r0, r1⟩ := gridErr_ok hg
    have hle := hok.le
    by_cases hd : d < 0
    · have HV : Hid (shiftE sizes wrap.length r d = 3) := by show _ = _; unfold shiftE; rw [if_neg (by simp [hg]), if_pos (.inl hd)]
      rw [HV.out]
      rw [hg] at hck
      clear hg
      go_enter Try.func40, Try.ntmps40
      go_wp2_with fail
      refine hck.mono ?_
      generalize w.alloc (.cells #[.slice sa sizes.length sc, .slice wa wrap.length wc] 42) = W at *
      rintro e X ⟨rfl, hb⟩
      go_wp2
      go_ret3
      exact ⟨rfl, h0.trans (hb.mono (by omega))⟩
    · by_cases hd2 : (sizes.length : Int) ≤ d
      · have HV : Hid (shiftE sizes wrap.length r d = 3) := by show _ = _; unfold shiftE; rw [if_neg (by simp [hg]), if_pos (.inr hd2)]
        rw [HV.out]
        rw [hg] at hck
        clear hg
        go_enter Try.func40, Try.ntmps40
        go_wp2_with fail
        refine hck.mono ?_
        generalize w.alloc (.cells #[.slice sa sizes.length sc, .slice wa wrap.length wc] 42) = W at *
        rintro e X ⟨rfl, hb⟩
        have f0 := kcell hb e0
        have f1 := kcell hb e1
        go_wp2
        go_ret3
        exact ⟨rfl, h0.trans (hb.mono (by omega))⟩
      · have HV : Hid (shiftE sizes wrap.length r d = 0) := by show _ = _; unfold shiftE; rw [if_neg (by simp [hg]), if_neg (by omega)]
        rw [HV.out, if_pos rfl, if_pos rfl]
        rw [hg] at hck
        obtain ⟨dn, rfl⟩ := Int.eq_ofNat_of_zero_le (show 0 ≤ d by omega)
        simp only [Int.toNat_natCast]
        have hdn : dn < sizes.length := by omega
        have HP : Hid (shiftP sizes wrap r dn by' = rankL 0 sizes wrap (shiftA sizes wrap r dn by')) := rfl
        have HQ : Hid (shiftQ sizes wrap r dn by' = rankL 0 sizes wrap (shiftB sizes wrap r dn by')) := rfl
        have hsh := fun X (i : Ints X sa sizes) (j : Bools X wa wrap) => shift_any i j hok.size hok.wrap sc wc r r0 (by omega) dn hdn by'
        clear hg hok hd
        go_enter Try.func40, Try.ntmps40
        go_wp2_with fail
        refine hck.mono ?_
        generalize w.alloc (.cells #[.slice sa sizes.length sc, .slice wa wrap.length wc] 42) = W at *
        rintro e X ⟨rfl, hb⟩
        have f0 := kcell hb e0
        have f1 := kcell hb e1
        have B0 := A0.keep hb
        have B1 := A1.keep hb
        have hz := hb.size
        have hbX := h0.trans (hb.mono (by omega))
        have hs := hsh X B0 B1
        clear hsh
        go_wp2_with fail
        refine hs.mono ?_
        rintro e Y ⟨rfl, hb2⟩
        go_wp2
        go_ret3
        exact ⟨by rw [HP.out, HQ.out]; rfl, hbX.trans (hb2.mono (by omega))⟩
  · have HV : Hid (shiftE sizes wrap.length r d = gridErr sizes wrap.length r) := by show _ = _; unfold shiftE; rw [if_pos hg]
    rw [HV.out, if_neg hg, if_neg hg]
    go_enter Try.func40, Try.ntmps40
    go_wp2_with fail
    refine hck.mono ?_
    generalize w.alloc (.cells #[.slice sa sizes.length sc, .slice wa wrap.length wc] 42) = W at *
    rintro e X ⟨rfl, hb⟩
    go_wp2
    go_ret3
    exact ⟨rfl, h0.trans (hb.mono (by omega))⟩

theorem own_keep {w w' : World} {B : Nat} {v : Value} {n : Nat} {xs : List Value} (h : w.ownsRow B 3 1 v n xs) (hb : Below w.heap.size w w') : w'.ownsRow B 3 1 v n xs := by
  refine ⟨h.1, ?_⟩
  rcases h.2 with h2 | ⟨g, cap, cur, h1, h3, h4, h5⟩
  · exact .inl h2
  · exact .inr ⟨g, cap, cur, h1, h3, (hb.block g (Array.getElem?_eq_some_iff.1 h4).1).trans h4, h5⟩

/-- the neighbors of a rank -/
def neighF (sizes : List Int) (wrap : List Bool) (r : Int) : Nat → List Int
  | 0 => []
  | k + 1 => neighF sizes wrap r k ++ [shiftP sizes wrap r k 1, shiftQ sizes wrap r k 1]
theorem neighF_len (sizes : List Int) (wrap : List Bool) (r : Int) : ∀ k, (neighF sizes wrap r k).length = 2 * k
  | 0 => rfl
  | k + 1 => by simp [neighF, neighF_len sizes wrap r k]; omega

theorem news_two {W : World} {b : Nat} {x y : Value} (h0 : W.cell? ⟨b, 0, none⟩ = some x) (h1 : W.cell? ⟨b, 1, none⟩ = some y) : ∀ j u, [x, y][j]? = some u → W.cell? ((⟨b, 0, none⟩ : Addr).add j) = some u := fun j u hj => by
  match j, hj with
  | 0, hj => simp at hj; subst hj; simpa [Addr.add] using h0
  | 1, hj => simp at hj; subst hj; simpa [Addr.add] using h1

set_option maxRecDepth 100000 in
set_option maxHeartbeats 2000000 in
theorem Neighbors_any {w : World} {sa wa : Option Addr} {sizes : List Int} {wrap : List Bool} (h : Ints w sa sizes) (hw : Bools w wa wrap) (sc wc : Nat) (r : Int) :
    Calls Try.prog 42 #[.agg #[.slice sa sizes.length sc, .slice wa wrap.length wc], .int .i64 r] w fun e w' => ∃ v, e = .returned (.tuple #[v, .int .i64 (gridErr sizes wrap.length r)]) ∧ NewInts w.heap.size w' v (if gridErr sizes wrap.length r = 0 then neighF sizes wrap r sizes.length else []) ∧ Below w.heap.size w w' := by
  have hlen := h.len
  have hwlen := hw.len
  obtain ⟨i0, hi, hz0, hz1, hz2⟩ := info_parts Try.info3
  have h0 := (Below.refl w.heap.size w).alloc (Nat.le_refl _) (.cells #[.slice sa sizes.length sc, .slice wa wrap.length wc] 42)
  have A0 := h.keep h0
  have A1 := hw.keep h0
  have e0 : (w.alloc (.cells #[.slice sa sizes.length sc, .slice wa wrap.length wc] 42)).cell? ⟨w.heap.size, 0, none⟩ = some (.slice sa sizes.length sc) := by simp
  have e1 : (w.alloc (.cells #[.slice sa sizes.length sc, .slice wa wrap.length wc] 42)).cell? ⟨w.heap.size, 1, none⟩ = some (.slice wa wrap.length wc) := by simp
  have hck := gcheck_any A0 sc wrap.length wc (wa := wa) hwlen r
  have hzw : (w.alloc (.cells #[.slice sa sizes.length sc, .slice wa wrap.length wc] 42)).heap.size = w.heap.size + 1 := by simp
  by_cases hg : gridErr sizes wrap.length r = 0
  · obtain ⟨hok, r0, r1⟩ := gridErr_ok hg
    have hle := hok.le
    have hl4 := hok.len4
    rw [hg] at hck ⊢
    rw [if_pos rfl]
    have hsh : Hid (∀ X (d : Nat), d < sizes.length → Ints X sa sizes → Bools X wa wrap → Calls Try.prog 88 #[.agg #[.slice sa sizes.length sc, .slice wa wrap.length wc], .int .i64 r, .int .i64 d, .int .i64 1] X fun e w' => e = .returned (.tuple #[.int .i64 (shiftP sizes wrap r d 1), .int .i64 (shiftQ sizes wrap r d 1)]) ∧ Below X.heap.size X w') := fun X d hd i j => shift_any i j hok.size hok.wrap sc wc r r0 (by omega) d hd 1
    clear hg hok h hw
    go_enter Try.func42, Try.ntmps42
    go_wp2_with fail
    refine hck.mono ?_
    generalize w.alloc (.cells #[.slice sa sizes.length sc, .slice wa wrap.length wc] 42) = W at *
    rintro e X ⟨rfl, hb⟩
    have f0 := kcell hb e0
    have f1 := kcell hb e1
    have B0 := A0.keep hb
    have B1 := A1.keep hb
    have hz := hb.size
    have hbX := h0.trans (hb.mono (by omega))
    have HF0 := Lib.hid f0
    have HF1 := Lib.hid f1
    clear A0 A1 e0 e1 hb h0 hck
    go_wp2_with fail
    clear f0 f1
    go_loopw [7, 8, 9, 10, 20, 23] (fun t _ _ _ i _ wr => ∃ (k : Nat), k ≤ sizes.length ∧ i = .int .i64 k ∧ Hid (wr.ownsRow X.heap.size 3 1 t (2 * k) ((neighF sizes wrap r k).map (Value.int .i64))) ∧ Below X.heap.size X wr) (fun _ _ _ _ i _ _ => sizes.length - (intOf i).toNat)
    case atStart => exact ⟨0, Nat.zero_le _, rfl, World.ownsRow_nil _ _ _ _, Below.refl _ _⟩
    case round =>
      obtain ⟨k, hk, rfl, HO, hbr⟩ := hrel
      have hzr := hbr.size
      by_cases hlt : k < sizes.length
      · have g0 := kcell hbr HF0.out
        have g1 := kcell hbr HF1.out
        have hs := hsh.out wr k hlt (B0.keep hbr) (B1.keep hbr)
        go_wp2_with fail
        refine hs.mono ?_
        rintro e Y ⟨rfl, hb2⟩
        have HOY := Lib.hid (own_keep HO.out hb2)
        have hzY := hb2.size
        have hbY := hbr.trans (hb2.mono hzr)
        have HN : Hid ((neighF sizes wrap r (k + 1)).map (Value.int .i64) = (neighF sizes wrap r k).map (Value.int .i64) ++ [.int .i64 (shiftP sizes wrap r k 1), .int .i64 (shiftQ sizes wrap r k 1)]) := by show _ = _; simp [neighF]
        generalize shiftP sizes wrap r k 1 = p at *
        generalize shiftQ sizes wrap r k 1 = q at *
        clear hs g0 g1 HO hb2 hbr
        go_wp2_with (at_builtin; refine wpList_append_own _ rfl (.tmp 30) (.tmp 33) 22 rfl X.heap.size 3 i0 (.int .i64 0) 1 8 Try.underlying22 hi hz0 hz1 hz2 rfl (by decide) _ _ _ rfl (HOY.out.alloc _) ⟨Y.heap.size, 0, none⟩ 2 2 [.int .i64 p, .int .i64 q] rfl rfl (news_two (by simp) (by simp)) (by intro u hu; simp at hu; rcases hu with rfl | rfl <;> rfl) (by unfold maxLen; omega) (by omega) (by simp; omega) ?_; intro v' w1 hown' hgrow _)
        have hb1 : Below X.heap.size X w1 := (hbY.alloc (by omega) _).grown hgrow (by simp; omega) (fun kk hkk => by
          exact (HOY.out.lt kk hkk).1)
        go_roundw
        case rel => exact ⟨k + 1, by omega, by go_num, (by show World.ownsRow _ _ _ _ _ _ _; rw [HN.out, show 2 * (k + 1) = 2 * k + 2 from by omega]; exact hown'), hb1⟩
        case measure => simp [intOf]; omega
      · have hkl : k = sizes.length := by omega
        subst hkl
        go_wp2_with fail
        go_ret2
        refine ⟨_, rfl, ⟨?_, by rw [neighF_len]; omega⟩, hbX.trans (hbr.mono (by omega))⟩
        rw [neighF_len]
        have := HO.out
        refine ⟨this.1, ?_⟩
        rcases this.2 with h2 | ⟨g, cap, cur, h1, h3, h4, h5⟩
        · exact .inl h2
        · exact .inr ⟨g, cap, cur, h1, by omega, h4, h5⟩
  · rw [if_neg hg]
    go_enter Try.func42, Try.ntmps42
    go_wp2_with fail
    refine hck.mono ?_
    generalize w.alloc (.cells #[.slice sa sizes.length sc, .slice wa wrap.length wc] 42) = W at *
    rintro e X ⟨rfl, hb⟩
    go_wp2
    go_ret2
    exact ⟨_, rfl, ⟨World.ownsRow_nil _ _ _ _, by simp⟩, h0.trans (hb.mono (by omega))⟩
end Go.Proofs.Ytoloiingodigpaa
