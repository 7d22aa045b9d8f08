import Derived.Test.YtoloiingodigpaaK
import Derived.Deep.RegionHeld3
namespace Go.Proofs.Ytoloiingodigpaa
open Go.RowKit Go.Shelf
attribute [local go_sem] Oper.semAt_some litE

theorem cntF_pos : ∀ (l : List Int) (n : Int), 1 ≤ n → n ≤ 64 → cntF n l ≠ 0 → (∀ s ∈ l, 1 ≤ s ∧ s ≤ 64) ∧ 1 ≤ cntF n l ∧ cntF n l ≤ 64
  | [], n, h1, h2, _ => ⟨fun s hs => (by cases hs), h1, h2⟩
  | s :: l, n, h1, h2, h => by
    unfold cntF at h ⊢
    split at h
    · exact absurd rfl h
    · rename_i hc
      rw [if_neg hc]
      have hnz : n ≠ 0 := by omega
      have hns : n * s ≤ 64 := by
        have q1 : s ≤ 64 / n := by omega
        have q2 : n * s ≤ n * (64 / n) := Int.mul_le_mul_of_nonneg_left q1 (by omega)
        have q3 := Int.mul_ediv_self_le (x := 64) (k := n) hnz
        omega
      have hns1 : 1 ≤ n * s := by
        have : 1 * 1 ≤ n * s := Int.mul_le_mul h1 (by omega) (by omega) (by omega)
        omega
      have hdl : 64 / n ≤ 64 := Int.ediv_le_self _ (by omega)
      obtain ⟨a, b, c⟩ := cntF_pos l (n * s) hns1 hns h
      refine ⟨fun x hx => ?_, b, c⟩
      rcases List.mem_cons.1 hx with rfl | hx
      · exact ⟨by omega, by omega⟩
      · exact a x hx

structure GridOk (sizes : List Int) (wl : Nat) : Prop where
  len1 : 1 ≤ sizes.length
  len4 : sizes.length ≤ 4
  wrap : wl = sizes.length
  size : ∀ s ∈ sizes, 1 ≤ s ∧ s ≤ 64
  pos : 1 ≤ countL sizes wl
  le : countL sizes wl ≤ 64

theorem countL_ok {sizes : List Int} {wl : Nat} (h : countL sizes wl ≠ 0) : GridOk sizes wl := by
  have h' := h
  unfold countL at h'
  split at h'
  · exact absurd rfl h'
  · rename_i hc
    obtain ⟨a, b, c⟩ := cntF_pos sizes 1 (by omega) (by omega) h'
    have e : countL sizes wl = cntF 1 sizes := by unfold countL; rw [if_neg hc]
    exact ⟨by omega, by omega, by omega, a, by rw [e]; exact b, by rw [e]; exact c⟩

theorem countL_bd (sizes : List Int) (wl : Nat) : 0 ≤ countL sizes wl ∧ countL sizes wl ≤ 64 := by
  by_cases h : countL sizes wl = 0
  · omega
  · have q := countL_ok h; have q1 := q.pos; have q2 := q.le; omega

/-- what is wrong with a grid, or a rank of it -/
def gridErr (sizes : List Int) (wl : Nat) (rank : Int) : Int := if countL sizes wl = 0 then 2 else if rank < 0 ∨ countL sizes wl ≤ rank then 11 else 0

set_option maxHeartbeats 1000000 in
theorem gcheck_any {w : World} {sa wa : Option Addr} {sizes : List Int} (h : Ints w sa sizes) (sc wl wc : Nat) (hwl : wl ≤ 17592186044416) (rank : Int) :
    Calls Try.prog 84 #[.agg #[.slice sa sizes.length sc, .slice wa wl wc], .int .i64 rank] w fun e w' => e = .returned (.int .i64 (gridErr sizes wl rank)) ∧ Below w.heap.size w w' := by
  have hlen := h.len
  have h0 := (Below.refl w.heap.size w).alloc (Nat.le_refl _) (.cells #[.slice sa sizes.length sc, .slice wa wl wc] 42)
  obtain ⟨d1, d2⟩ := countL_bd sizes wl
  have HD : Hid (gridErr sizes wl rank = if countL sizes wl = 0 then 2 else if rank < 0 ∨ countL sizes wl ≤ rank then 11 else 0) := rfl
  have hct := count_any (h.keep h0) sc wl wc (wa := wa) hwl
  generalize gridErr sizes wl rank = ge at *
  generalize countL sizes wl = ct at *
  by_cases g1 : ct = 0
  · have HV : Hid (ge = 2) := by show _ = _; rw [HD.out, if_pos g1]
    subst g1
    go_enter Try.func84, Try.ntmps84
    go_wp2_with (go_at_call 80; refine hct.mono ?_; rintro e w' ⟨rfl, hb⟩)
    go_ret
    exact ⟨by rw [HV.out]; rfl, h0.trans (hb.mono (by simp))⟩
  · by_cases g2 : rank < 0
    · have HV : Hid (ge = 11) := by show _ = _; rw [HD.out, if_neg g1, if_pos (.inl g2)]
      go_enter Try.func84, Try.ntmps84
      go_wp2_with (go_at_call 80; refine hct.mono ?_; rintro e w' ⟨rfl, hb⟩)
      go_ret
      exact ⟨by rw [HV.out]; rfl, h0.trans (hb.mono (by simp))⟩
    · by_cases g3 : ct ≤ rank
      · have HV : Hid (ge = 11) := by show _ = _; rw [HD.out, if_neg g1, if_pos (.inr g3)]
        go_enter Try.func84, Try.ntmps84
        go_wp2_with (go_at_call 80; refine hct.mono ?_; rintro e w' ⟨rfl, hb⟩)
        go_ret
        exact ⟨by rw [HV.out]; rfl, h0.trans (hb.mono (by simp))⟩
      · have HV : Hid (ge = 0) := by show _ = _; rw [HD.out, if_neg g1, if_neg (by omega)]
        go_enter Try.func84, Try.ntmps84
        go_wp2_with (go_at_call 80; refine hct.mono ?_; rintro e w' ⟨rfl, hb⟩)
        go_ret
        exact ⟨by rw [HV.out]; rfl, h0.trans (hb.mono (by simp))⟩

/-- a step that leads as far -/
def nearL (sizes : List Int) (wrap : List Bool) (d : Nat) (by' : Int) : Int := if wrap.getD d false then by' % sizes.getD d 0 else min (max by' (-sizes.getD d 0)) (sizes.getD d 0)

set_option maxHeartbeats 1000000 in
theorem near_any {w : World} {sa wa : Option Addr} {sizes : List Int} {wrap : List Bool} (h : Ints w sa sizes) (hw : Bools w wa wrap) (hp : ∀ s ∈ sizes, 1 ≤ s ∧ s ≤ 64) (hl : wrap.length = sizes.length) (sc wc : Nat) (d : Nat) (hd : d < sizes.length) (by' : Int) :
    Calls Try.prog 113 #[.agg #[.slice sa sizes.length sc, .slice wa wrap.length wc], .int .i64 d, .int .i64 by'] w fun e w' => e = .returned (.int .i64 (nearL sizes wrap d by')) ∧ Below w.heap.size w w' := by
  have hlen := h.len
  have h0 := (Below.refl w.heap.size w).alloc (Nat.le_refl _) (.cells #[.slice sa sizes.length sc, .slice wa wrap.length wc] 42)
  obtain ⟨g, off, rfl, hcs⟩ := (h.keep h0).at_ (ne_nil_of_lt hd)
  have hdw : d < wrap.length := by omega
  obtain ⟨g', off', rfl, hcw⟩ := (hw.keep h0).at_ (ne_nil_of_lt hdw)
  have c0 := hcs d hd
  have c1 := hcw d hdw
  obtain ⟨s1, s2⟩ := hp _ (List.getElem_mem hd)
  have HD : Hid (nearL sizes wrap d by' = if wrap[d] then by' % sizes[d] else min (max by' (-sizes[d])) sizes[d]) := by show _ = _; unfold nearL; simp [List.getD, hd, hdw]
  have HL := Lib.hid hl
  clear hcs hcw h hw hp hl
  generalize nearL sizes wrap d by' = nl at *
  generalize sizes[d] = s at *
  cases hb : wrap[d] with
  | true =>
    rw [hb] at c1 HD
    have HD2 : Hid (nl = by' % s) := HD.out
    go_enter Try.func113, Try.ntmps113
    go_wp2_with (go_at_call 110; refine (modulo_any by' s s1 s2 _).mono ?_; rintro e w' ⟨rfl, rfl⟩)
    go_ret
    exact ⟨by rw [HD2.out]; rfl, h0⟩
  | false =>
    rw [hb] at c1 HD
    have HD2 : Hid (nl = min (max by' (-s)) s) := HD.out
    by_cases q1 : by' < -s
    · have HN : Hid (nl = -s) := by show _ = _; rw [HD2.out]; omega
      go_enter Try.func113, Try.ntmps113
      go_wp2
      go_ret
      exact ⟨by rw [HN.out]; rfl, h0⟩
    · by_cases q2 : s < by'
      · have HN : Hid (nl = s) := by show _ = _; rw [HD2.out]; omega
        go_enter Try.func113, Try.ntmps113
        go_wp2
        go_ret
        exact ⟨by rw [HN.out]; rfl, h0⟩
      · have HN : Hid (nl = by') := by show _ = _; rw [HD2.out]; omega
        go_enter Try.func113, Try.ntmps113
        go_wp2
        go_ret
        exact ⟨by rw [HN.out]; rfl, h0⟩

/-- the rank at coordinates -/
def rankL : Int → List Int → List Bool → List Int → Int
  | r, s :: sz, b :: wr, x :: at' => if (if b then x % s else x) < 0 ∨ s ≤ (if b then x % s else x) then -2 else rankL (wrap64 (wrap64 (r * s) + (if b then x % s else x))) sz wr at'
  | r, _, _, _ => r

set_option maxRecDepth 100000 in
set_option maxHeartbeats 1000000 in
theorem rank_any {w : World} {sa wa aa : Option Addr} {sizes at' : List Int} {wrap : List Bool} (h : Ints w sa sizes) (hw : Bools w wa wrap) (ha : Ints w aa at') (hp : ∀ s ∈ sizes, 1 ≤ s ∧ s ≤ 64) (hl : wrap.length = sizes.length) (hl2 : at'.length = sizes.length) (sc wc ac : Nat) :
    Calls Try.prog 81 #[.agg #[.slice sa sizes.length sc, .slice wa wrap.length wc], .slice aa at'.length ac] w fun e w' => e = .returned (.int .i64 (rankL 0 sizes wrap at')) ∧ Below w.heap.size w w' := by
  have hlen := h.len
  have h0 := (Below.refl w.heap.size w).alloc (Nat.le_refl _) (.cells #[.slice sa sizes.length sc, .slice wa wrap.length wc] 42)
  have A0 := h.keep h0
  have A1 := hw.keep h0
  have A2 := ha.keep h0
  have e1 : (w.alloc (.cells #[.slice sa sizes.length sc, .slice wa wrap.length wc] 42)).cell? ⟨w.heap.size, 1, none⟩ = some (.slice wa wrap.length wc) := by simp
  have HP := Lib.hid hp
  have HL := Lib.hid hl
  have HL2 := Lib.hid hl2
  clear hp h hw ha hl hl2
  go_enter Try.func81, Try.ntmps81
  go_wp2_with fail
  generalize w.alloc (.cells #[.slice sa sizes.length sc, .slice wa wrap.length wc] 42) = W at *
  go_loop [5, 6, 7, 8, 12] (fun t _ _ _ i => ∃ (k : Nat) (r : Int), k ≤ sizes.length ∧ i = .int .i64 k ∧ t = .int .i64 r ∧ Hid (rankL r (sizes.drop k) (wrap.drop k) (at'.drop k) = rankL 0 sizes wrap at')) (fun _ _ _ _ i => sizes.length - (intOf i).toNat)
  case atStart => exact ⟨0, 0, Nat.zero_le _, rfl, rfl, rfl⟩
  case round =>
    obtain ⟨k, r, hk, rfl, rfl, HE⟩ := hrel
    by_cases hlt : k < sizes.length
    · have hltw : k < wrap.length := by rw [HL.out]; exact hlt
      have hlta : k < at'.length := by rw [HL2.out]; exact hlt
      obtain ⟨g, off, rfl, hcs⟩ := A0.at_ (ne_nil_of_lt hlt)
      obtain ⟨g1, off1, rfl, hcw⟩ := A1.at_ (ne_nil_of_lt hltw)
      obtain ⟨g2, off2, rfl, hca⟩ := A2.at_ (ne_nil_of_lt hlta)
      have c0 := hcs k hlt
      have c1 := hcw k hltw
      have c2 := hca k hlta
      obtain ⟨s1, s2⟩ := HP.out _ (List.getElem_mem hlt)
      have HF : Hid (rankL r (sizes.drop k) (wrap.drop k) (at'.drop k) = if (if wrap[k] then at'[k] % sizes[k] else at'[k]) < 0 ∨ sizes[k] ≤ (if wrap[k] then at'[k] % sizes[k] else at'[k]) then -2 else rankL (wrap64 (wrap64 (r * sizes[k]) + (if wrap[k] then at'[k] % sizes[k] else at'[k]))) (sizes.drop (k+1)) (wrap.drop (k+1)) (at'.drop (k+1))) := by
        show _ = _; rw [List.drop_eq_getElem_cons hlt, List.drop_eq_getElem_cons hltw, List.drop_eq_getElem_cons hlta]; rfl
      clear hcs hcw hca
      generalize sizes[k] = s at *
      generalize at'[k] = x at *
      cases hb : wrap[k] with
      | true =>
        rw [hb] at c1 HF
        have m1 : 0 ≤ x % s := Int.emod_nonneg _ (by omega)
        have m2 : x % s < s := Int.emod_lt_of_pos _ (by omega)
        have HN : Hid (rankL (wrap64 (wrap64 (r * s) + x % s)) (sizes.drop (k+1)) (wrap.drop (k+1)) (at'.drop (k+1)) = rankL 0 sizes wrap at') := by
          have := HF.out; simp only [if_true] at this; show _ = _; rw [← HE.out, this, if_neg (by omega)]
        clear HF
        have hmod := modulo_any x s s1 s2
        generalize x % s = y at *
        go_wp2_with (go_at_call 110; refine (hmod _).mono ?_; rintro e w' ⟨rfl, rfl⟩)
        go_round
        case rel => exact ⟨k + 1, _, by omega, by go_num, rfl, HN⟩
        case measure => simp [intOf]; omega
      | false =>
        rw [hb] at c1 HF
        by_cases q : x < 0
        · have HN : Hid (rankL 0 sizes wrap at' = -2) := by have := HF.out; simp only [Bool.false_eq_true, if_false] at this; show _ = _; rw [← HE.out, this, if_pos (.inl q)]
          clear HF
          go_wp2_with fail
          go_ret
          exact ⟨by rw [HN.out]; rfl, h0⟩
        · by_cases q2 : s ≤ x
          · have HN : Hid (rankL 0 sizes wrap at' = -2) := by have := HF.out; simp only [Bool.false_eq_true, if_false] at this; show _ = _; rw [← HE.out, this, if_pos (.inr q2)]
            clear HF
            go_wp2_with fail
            go_ret
            exact ⟨by rw [HN.out]; rfl, h0⟩
          · have HN : Hid (rankL (wrap64 (wrap64 (r * s) + x)) (sizes.drop (k+1)) (wrap.drop (k+1)) (at'.drop (k+1)) = rankL 0 sizes wrap at') := by
              have := HF.out; simp only [Bool.false_eq_true, if_false] at this; show _ = _; rw [← HE.out, this, if_neg (by omega)]
            clear HF
            go_wp2_with fail
            go_round
            case rel => exact ⟨k + 1, _, by omega, by go_num, rfl, HN⟩
            case measure => simp [intOf]; omega
    · have HN : Hid (rankL 0 sizes wrap at' = r) := by show _ = _; rw [← HE.out, drop_end hlt]; rfl
      go_wp2_with fail
      go_ret
      exact ⟨by rw [HN.out]; rfl, h0⟩
end Go.Proofs.Ytoloiingodigpaa
