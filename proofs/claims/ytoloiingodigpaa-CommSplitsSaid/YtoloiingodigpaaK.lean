import Derived.Test.YtoloiingodigpaaJ
namespace Go.Proofs.Ytoloiingodigpaa
open Go.RowKit Go.Shelf
attribute [local go_sem] Oper.semAt_some litE

/-- a slice of truth values -/
structure Bools (w : World) (a : Option Addr) (l : List Bool) : Prop where
  len : l.length ≤ 17592186044416
  at_ : l ≠ [] → ∃ b off, a = some ⟨b, off, none⟩ ∧ ∀ j (h : j < l.length), w.cell? ⟨b, off + j, none⟩ = some (.bool l[j])
theorem Bools.keep {w w' : World} {a : Option Addr} {l : List Bool} (h : Bools w a l) (hb : Below w.heap.size w w') : Bools w' a l :=
  ⟨h.len, fun hl => by
    obtain ⟨b, off, ha, hc⟩ := h.at_ hl
    exact ⟨b, off, ha, fun j hj => (hb.cell (p := ⟨b, off + j, none⟩) (block_lt_of_cell (hc j hj))).trans (hc j hj)⟩⟩

theorem mod_eq (a n : Int) (h1 : 1 ≤ n) : (a.tmod n + n).tmod n = a % n := by
  have hb : -n < a.tmod n ∧ a.tmod n < n := by
    refine ⟨?_, Int.tmod_lt_of_pos a (by omega)⟩
    have := Int.tmod_lt_of_pos (-a) (show 0 < n by omega)
    rw [Int.neg_tmod] at this
    omega
  rw [Int.tmod_eq_emod_of_nonneg (by omega), Int.add_emod_right]
  have h : a.tmod n = a - n * a.tdiv n := by have := Int.mul_tdiv_add_tmod a n; omega
  rw [h]
  exact Int.sub_mul_emod_self_left a n _

set_option maxHeartbeats 400000 in
theorem modulo_any (a n : Int) (h1 : 1 ≤ n) (h2 : n ≤ 64) (w : World) :
    Calls Try.prog 110 #[.int .i64 a, .int .i64 n] w fun e w' => e = .returned (.int .i64 (a % n)) ∧ w = w' := by
  have hb : -n < a.tmod n ∧ a.tmod n < n := by
    refine ⟨?_, Int.tmod_lt_of_pos a (by omega)⟩
    have := Int.tmod_lt_of_pos (-a) (show 0 < n by omega)
    rw [Int.neg_tmod] at this
    omega
  have hn0 : n ≠ 0 := by omega
  have hw : wrap64 (a.tmod n + n) = a.tmod n + n := by unfold wrap64; omega
  have hm : (a.tmod n + n).tmod n = a % n := mod_eq a n h1
  go_enter Try.func110, Try.ntmps110
  go_wp2
  go_ret
  exact ⟨rfl, rfl⟩

def cntF : Int → List Int → Int
  | n, [] => n
  | n, s :: l => if s < 1 ∨ 64 / n < s then 0 else cntF (n * s) l
/-- how many ranks a grid has -/
def countL (sizes : List Int) (wl : Nat) : Int := if sizes.length < 1 ∨ 4 < sizes.length ∨ wl ≠ sizes.length then 0 else cntF 1 sizes

set_option maxRecDepth 100000 in
set_option maxHeartbeats 1000000 in
theorem count_any {w : World} {sa wa : Option Addr} {sizes : List Int} (h : Ints w sa sizes) (sc wl wc : Nat) (hwl : wl ≤ 17592186044416) :
    Calls Try.prog 80 #[.agg #[.slice sa sizes.length sc, .slice wa wl wc]] w fun e w' => e = .returned (.int .i64 (countL sizes wl)) ∧ Below w.heap.size w w' := by
  have hlen := h.len
  have h0 := (Below.refl w.heap.size w).alloc (Nat.le_refl _) (.cells #[.slice sa sizes.length sc, .slice wa wl wc] 42)
  by_cases g1 : sizes.length < 1
  · have HV : Hid (countL sizes wl = 0) := by show _ = _; unfold countL; rw [if_pos (.inl g1)]
    have g1' : (sizes.length : Int) < 1 := by omega
    go_enter Try.func80, Try.ntmps80
    go_wp2
    go_ret
    exact ⟨by rw [HV.out]; rfl, h0⟩
  · by_cases g2 : 4 < sizes.length
    · have HV : Hid (countL sizes wl = 0) := by show _ = _; unfold countL; rw [if_pos (.inr (.inl g2))]
      have g1' : ¬ (sizes.length : Int) < 1 := by omega
      have g2' : (4 : Int) < (sizes.length : Int) := by omega
      go_enter Try.func80, Try.ntmps80
      go_wp2
      go_ret
      exact ⟨by rw [HV.out]; rfl, h0⟩
    · by_cases g3 : wl = sizes.length
      · subst g3
        have HV : Hid (countL sizes sizes.length = cntF 1 sizes) := by show _ = _; unfold countL; rw [if_neg (by omega)]
        have g1' : ¬ (sizes.length : Int) < 1 := by omega
        have g2' : ¬ (4 : Int) < (sizes.length : Int) := by omega
        have A0 := h.keep h0
        go_enter Try.func80, Try.ntmps80
        go_wp2_with fail
        generalize w.alloc (.cells #[.slice sa sizes.length sc, .slice wa sizes.length wc] 42) = W at *
        go_loop [4, 6, 26] (fun t _ i => ∃ (k : Nat) (n : Int), k ≤ sizes.length ∧ i = .int .i64 k ∧ t = .int .i64 n ∧ 1 ≤ n ∧ n ≤ 64 ∧ Hid (cntF n (sizes.drop k) = cntF 1 sizes)) (fun _ _ i => sizes.length - (intOf i).toNat)
        case atStart => exact ⟨0, 1, Nat.zero_le _, rfl, rfl, by omega, by omega, rfl⟩
        case round =>
          obtain ⟨k, n, hk, rfl, rfl, hn1, hn2, HE⟩ := hrel
          by_cases hlt : k < sizes.length
          · obtain ⟨g, off, rfl, hcs⟩ := A0.at_ (ne_nil_of_lt hlt)
            have c0 := hcs k hlt
            have HF : Hid (cntF n (sizes.drop k) = if sizes[k] < 1 ∨ 64 / n < sizes[k] then 0 else cntF (n * sizes[k]) (sizes.drop (k + 1))) := by
              show _ = _; rw [List.drop_eq_getElem_cons hlt]; rfl
            have hnz : n ≠ 0 := by omega
            have hdv : (64 : Int).tdiv n = 64 / n := Int.tdiv_eq_ediv_of_nonneg (by omega)
            have hdl : 64 / n ≤ 64 := Int.ediv_le_self _ (by omega)
            have hd0 : 0 ≤ 64 / n := Int.ediv_nonneg (by omega) (by omega)
            generalize hs : sizes[k] = s at *
            clear hcs hs
            by_cases q1 : s < 1
            · have HN : Hid (cntF 1 sizes = 0) := by show _ = _; rw [← HE.out, HF.out, if_pos (.inl q1)]
              go_wp2_with fail
              go_ret
              exact ⟨by rw [HV.out, HN.out]; rfl, h0⟩
            · by_cases q2 : 64 / n < s
              · have HN : Hid (cntF 1 sizes = 0) := by show _ = _; rw [← HE.out, HF.out, if_pos (.inr q2)]
                go_wp2_with fail
                go_ret
                exact ⟨by rw [HV.out, HN.out]; rfl, h0⟩
              · have HN : Hid (cntF (n * s) (sizes.drop (k + 1)) = cntF 1 sizes) := by show _ = _; rw [← HE.out, HF.out, if_neg (by omega)]
                have hns : n * s ≤ 64 := by
                  have h1 : s ≤ 64 / n := by omega
                  have h2 : n * s ≤ n * (64 / n) := Int.mul_le_mul_of_nonneg_left h1 (by omega)
                  have h3 := Int.mul_ediv_self_le (x := 64) (k := n) hnz
                  omega
                have hns1 : 1 ≤ n * s := by
                  have : 1 * 1 ≤ n * s := Int.mul_le_mul hn1 (by omega) (by omega) (by omega)
                  omega
                go_wp2_with fail
                go_round
                case rel => exact ⟨k + 1, n * s, by omega, by go_num, by go_num, hns1, hns, HN⟩
                case measure => simp [intOf]; omega
          · have HN : Hid (n = cntF 1 sizes) := by show _ = _; rw [← HE.out, drop_end hlt]; rfl
            go_wp2_with fail
            go_ret
            exact ⟨by rw [HV.out, ← HN.out]; rfl, h0⟩
      · have HV : Hid (countL sizes wl = 0) := by show _ = _; unfold countL; rw [if_pos (.inr (.inr g3))]
        have g1' : ¬ (sizes.length : Int) < 1 := by omega
        have g2' : ¬ (4 : Int) < (sizes.length : Int) := by omega
        have g3' : ((wl : Int) == (sizes.length : Int)) = false := beq_eq_false_iff_ne.2 (by omega)
        have g3'' : ((wl : Int) != (sizes.length : Int)) = true := by rw [bne_iff_ne]; omega
        go_enter Try.func80, Try.ntmps80
        go_wp2
        go_ret
        exact ⟨by rw [HV.out]; rfl, h0⟩
end Go.Proofs.Ytoloiingodigpaa
