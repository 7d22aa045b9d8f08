import Derived.Test.YtoloiingodigpaaPC
namespace Go.Proofs.Ytoloiingodigpaa
open Go.RowKit Go.Shelf
attribute [local go_sem] Oper.semAt_some litE
set_option maxRecDepth 100000
set_option maxHeartbeats 2000000

theorem modr_any (x n : Int) (hx : -9223372036854775808 ≤ x ∧ x ≤ 9223372036854775807) (h1 : 1 ≤ n) (h2 : n ≤ 64) (w : World) :
    Calls Try.prog 111 #[.int .i64 x, .int .i64 n] w fun e w' => e = .returned (.int .i64 (x % n)) ∧ w = w' := by
  obtain ⟨x1, x2⟩ := hx
  have hn0 : n ≠ 0 := by omega
  have hm : x % n = if x.tmod n < 0 then x.tmod n + n else x.tmod n := by
    have := Int.tmod_eq_emod (a := x) (b := n)
    have h3 := Int.emod_nonneg x hn0
    have h4 := Int.emod_lt_of_pos x (show 0 < n by omega)
    rw [this]
    by_cases hd : 0 ≤ x ∨ n ∣ x
    · rw [if_pos hd]
      rw [if_neg (by omega)]; omega
    · rw [if_neg hd, Int.natAbs_of_nonneg (show 0 ≤ n by omega)]
      rw [if_pos (by omega)]; omega
  have hb : -64 ≤ x.tmod n ∧ x.tmod n ≤ 64 := by
    have h3 := Int.emod_nonneg x hn0
    have h4 := Int.emod_lt_of_pos x (show 0 < n by omega)
    by_cases hd : x.tmod n < 0
    · rw [if_pos hd] at hm; omega
    · rw [if_neg hd] at hm; omega
  have HM := Lib.hid hm
  clear hm
  obtain ⟨b1, b2⟩ := hb
  obtain ⟨t, ht⟩ : ∃ t, t = x.tmod n := ⟨_, rfl⟩
  rw [← ht] at HM b1 b2
  have hte : x.tmod n = t := ht.symm
  clear ht
  by_cases hneg : t < 0
  · have HN : Hid (x % n = t + n) := by show _ = _; rw [HM.out, if_pos hneg]
    rw [HN.out]
    go_enter Try.func111, Try.ntmps111
    go_wp2_with fail
    go_ret
    exact ⟨rfl, rfl⟩
  · have HN : Hid (x % n = t) := by show _ = _; rw [HM.out, if_neg hneg]
    rw [HN.out]
    go_enter Try.func111, Try.ntmps111
    go_wp2_with fail
    go_ret
    exact ⟨rfl, rfl⟩

/-- whether all sizes are from 1 to 64 -/
def okS (sizes : List Int) : Bool := sizes.all fun s => decide (1 ≤ s) && decide (s ≤ 64)
/-- how many ranks the reference counts, and whether the grid is good -/
def goodV (sizes : List Int) (wl : Nat) : Int × Bool := if sizes.length < 1 ∨ 4 < sizes.length ∨ wl ≠ sizes.length then (0, false) else if okS sizes = true then (prodL sizes, decide (prodL sizes ≤ 64)) else (0, false)

theorem cntF_mul : ∀ (l : List Int) (n : Int), 1 ≤ n → n ≤ 64 → cntF n l ≠ 0 → cntF n l = n * prodL l
  | [], n, _, _, _ => by simp [cntF, prodL]
  | s :: l, n, h1, h2, h => by
    have hp := cntF_pos (s :: l) n h1 h2 h
    unfold cntF at h ⊢
    split at h
    · exact absurd rfl h
    · rename_i hc
      rw [if_neg hc]
      have hns : n * s ≤ 64 := by
        have q1 : s ≤ 64 / n := by omega
        have q2 : n * s ≤ n * (64 / n) := Int.mul_le_mul_of_nonneg_left q1 (by omega)
        have q3 := Int.mul_ediv_self_le (x := 64) (k := n) (show n ≠ 0 by omega)
        omega
      have hns1 : 1 ≤ n * s := by
        have : 1 * 1 ≤ n * s := Int.mul_le_mul h1 (by omega) (by omega) (by omega)
        omega
      rw [cntF_mul l (n * s) hns1 hns h]
      show n * s * prodL l = n * (s * prodL l)
      rw [Int.mul_assoc]

theorem good_count (sizes : List Int) (wl : Nat) : (countL sizes wl ≠ 0 → goodV sizes wl = (countL sizes wl, true)) ∧ (countL sizes wl = 0 → (goodV sizes wl).2 = false) := by
  unfold goodV
  by_cases hc : sizes.length < 1 ∨ 4 < sizes.length ∨ wl ≠ sizes.length
  · rw [if_pos hc]
    have : countL sizes wl = 0 := by unfold countL; rw [if_pos hc]
    exact ⟨fun h => absurd this h, fun _ => rfl⟩
  · rw [if_neg hc]
    have hcl : countL sizes wl = cntF 1 sizes := by unfold countL; rw [if_neg hc]
    rw [hcl]
    constructor
    · intro h
      have hp := cntF_pos sizes 1 (by omega) (by omega) h
      have hm := cntF_mul sizes 1 (by omega) (by omega) h
      have hok : okS sizes = true := List.all_eq_true.2 fun s hs => by have := hp.1 s hs; simp [this]
      rw [if_pos hok, hm]
      have : prodL sizes ≤ 64 := by have := hp.2.2; rw [hm] at this; omega
      simp [this]
    · intro h
      by_cases hok : okS sizes = true
      · rw [if_pos hok]
        have hpos : ∀ s ∈ sizes, 1 ≤ s := fun s hs => by have := List.all_eq_true.1 hok s hs; simp at this; exact this.1
        by_cases hle : prodL sizes ≤ 64
        · have := cntF_prod sizes 1 (Int.le_refl _) hpos (by omega)
          have hpp := prodL_pos sizes hpos
          rw [this] at h
          omega
        · simp [hle]
      · rw [if_neg hok]

theorem good_ref {w : World} {sa wa : Option Addr} {sizes : List Int} (h : Ints w sa sizes) (sc wl wc : Nat) (hwl : wl ≤ 17592186044416) :
    Calls Try.prog 82 #[.agg #[.slice sa sizes.length sc, .slice wa wl wc]] w fun e w' => e = .returned (.tuple #[.int .i64 (goodV sizes wl).1, .bool (goodV sizes wl).2]) ∧ Below w.heap.size w w' := by
  have hlen := h.len
  have h0 := (Below.refl w.heap.size w).alloc (Nat.le_refl _) (.cells #[.slice sa sizes.length sc, .slice wa wl wc] 43)
  have e0 : (w.alloc (.cells #[.slice sa sizes.length sc, .slice wa wl wc] 43)).cell? ⟨w.heap.size, 0, none⟩ = some (.slice sa sizes.length sc) := by simp
  have e1 : (w.alloc (.cells #[.slice sa sizes.length sc, .slice wa wl wc] 43)).cell? ⟨w.heap.size, 1, none⟩ = some (.slice wa wl wc) := by simp
  have A0 := h.keep h0
  clear h
  by_cases g1 : sizes.length < 1
  · have HN : Hid (goodV sizes wl = (0, false)) := by show _ = _; unfold goodV; rw [if_pos (.inl g1)]
    have g1' : (sizes.length : Int) < 1 := by omega
    rw [HN.out]
    clear g1
    go_enter Try.func82, Try.ntmps82
    go_wp2_with fail
    go_ret2
    exact ⟨rfl, h0⟩
  · by_cases g2 : 4 < sizes.length
    · have HN : Hid (goodV sizes wl = (0, false)) := by show _ = _; unfold goodV; rw [if_pos (.inr (.inl g2))]
      have g1' : ¬ (sizes.length : Int) < 1 := by omega
      have g2' : 4 < (sizes.length : Int) := by omega
      rw [HN.out]
      clear g1 g2
      go_enter Try.func82, Try.ntmps82
      go_wp2_with fail
      go_ret2
      exact ⟨rfl, h0⟩
    · have g1' : ¬ (sizes.length : Int) < 1 := by omega
      have g2' : ¬ 4 < (sizes.length : Int) := by omega
      by_cases g3 : wl = sizes.length
      · subst g3
        have HG : Hid (goodV sizes sizes.length = if okS sizes = true then (prodL sizes, decide (prodL sizes ≤ 64)) else (0, false)) := by show _ = _; unfold goodV; rw [if_neg (by omega)]
        have hl4 : sizes.length ≤ 4 := by omega
        clear g1 g2
        go_enter Try.func82, Try.ntmps82
        go_wp2_with fail
        generalize w.alloc (.cells #[.slice sa sizes.length sc, .slice wa sizes.length wc] 43) = W at *
        go_loop [4, 5] (fun p i => ∃ (k : Nat) (pr : Int), k ≤ sizes.length ∧ i = .int .i64 k ∧ p = .int .i64 pr ∧ Hid (okS (sizes.drop k) = okS sizes) ∧ Hid (pr * prodL (sizes.drop k) = prodL sizes) ∧ 1 ≤ pr ∧ Hid (pr ≤ 64 ^ k)) (fun _ i => sizes.length - (intOf i).toNat)
        case atStart => exact ⟨0, 1, Nat.zero_le _, rfl, rfl, rfl, by show _ = _; rw [List.drop_zero]; omega, by omega, by show _ ≤ _; simp⟩
        case round =>
          obtain ⟨k, pr, hk, rfl, rfl, HO, HP, p1, HB⟩ := hrel
          have hp64 : pr ≤ 16777216 := by
            have h9 : (64 : Int) ^ k ≤ 64 ^ 4 := by
              have hk4 : k = 0 ∨ k = 1 ∨ k = 2 ∨ k = 3 ∨ k = 4 := by omega
              rcases hk4 with rfl | rfl | rfl | rfl | rfl <;> decide
            have := HB.out
            have e9 : (64 : Int) ^ 4 = 16777216 := by decide
            omega
          by_cases hlt : k < sizes.length
          · obtain ⟨g, off, rfl, hcs⟩ := A0.at_ (ne_nil_of_lt hlt)
            have c0 := hcs k hlt
            have HOC : Hid (okS (sizes.drop k) = ((decide (1 ≤ sizes[k]) && decide (sizes[k] ≤ 64)) && okS (sizes.drop (k + 1)))) := by show _ = _; rw [List.drop_eq_getElem_cons hlt]; rfl
            have HPC : Hid (prodL (sizes.drop k) = sizes[k] * prodL (sizes.drop (k + 1))) := by show _ = _; rw [List.drop_eq_getElem_cons hlt]; rfl
            generalize sizes[k] = s at *
            clear hcs
            by_cases q1 : s < 1
            · have HN : Hid (goodV sizes sizes.length = (0, false)) := by
                show _ = _; rw [HG.out, if_neg]
                rw [← HO.out, HOC.out]; simp; intro h9; omega
              go_wp2_with fail
              go_ret2
              rw [HN.out]
              exact ⟨rfl, h0⟩
            · by_cases q2 : 64 < s
              · have HN : Hid (goodV sizes sizes.length = (0, false)) := by
                  show _ = _; rw [HG.out, if_neg]
                  rw [← HO.out, HOC.out]; simp; intro _ h9; omega
                go_wp2_with fail
                go_ret2
                rw [HN.out]
                exact ⟨rfl, h0⟩
              · have HON : Hid (okS (sizes.drop (k + 1)) = okS sizes) := by
                  show _ = _; rw [← HO.out, HOC.out]; simp [show 1 ≤ s by omega, show s ≤ 64 by omega]
                have HPN : Hid (pr * s * prodL (sizes.drop (k + 1)) = prodL sizes) := by show _ = _; rw [← HP.out, HPC.out, Int.mul_assoc]
                have hs1 : 1 ≤ pr * s := by
                  have : 1 * 1 ≤ pr * s := Int.mul_le_mul p1 (by omega) (by omega) (by omega)
                  omega
                have HBN : Hid (pr * s ≤ 64 ^ (k + 1)) := by
                  show _ ≤ _
                  rw [Int.pow_succ]
                  exact Int.mul_le_mul HB.out (by omega) (by omega) (Int.pow_nonneg (by decide))
                have hs2 : pr * s ≤ 1073741824 := by
                  have : pr * s ≤ 16777216 * 64 := Int.mul_le_mul hp64 (by omega) (by omega) (by decide)
                  omega
                clear HOC HPC HO HP
                go_wp2_with fail
                go_round
                case rel => exact ⟨k + 1, _, by omega, by go_num, rfl, HON, HPN, hs1, HBN⟩
                case measure => simp [intOf]; omega
          · have HN : Hid (goodV sizes sizes.length = (pr, decide (pr ≤ 64))) := by
              show _ = _
              have e1 : okS sizes = true := by rw [← HO.out, drop_end hlt]; rfl
              have e2 : prodL sizes = pr := by rw [← HP.out, drop_end hlt]; show pr * 1 = pr; omega
              rw [HG.out, if_pos e1, e2]
            clear HO HP HG
            go_wp2_with fail
            go_ret2
            rw [HN.out]
            exact ⟨rfl, h0⟩
      · have HN : Hid (goodV sizes wl = (0, false)) := by show _ = _; unfold goodV; rw [if_pos (.inr (.inr g3))]
        have g3' : ((wl : Int) == (sizes.length : Int)) = false := beq_eq_false_iff_ne.2 (by omega)
        have g3'' : ((wl : Int) != (sizes.length : Int)) = true := by rw [bne_iff_ne]; omega
        rw [HN.out]
        clear g1 g2 g3
        go_enter Try.func82, Try.ntmps82
        go_wp2_with fail
        go_ret2
        exact ⟨rfl, h0⟩
end Go.Proofs.Ytoloiingodigpaa
