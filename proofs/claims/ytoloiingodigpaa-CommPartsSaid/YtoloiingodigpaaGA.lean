import Derived.Test.YtoloiingodigpaaH
import Derived.Test.YtoloiingodigpaaW
namespace Go.Proofs.Ytoloiingodigpaa
open Go.RowKit Go.Shelf
attribute [local go_sem] Oper.semAt_some litE
set_option maxRecDepth 100000
set_option maxHeartbeats 1000000

/-- the index of a number from k on, or -1 -/
def idxGo (k : Nat) : List Int → Int → Int
  | [], _ => -1
  | y :: l, x => if y = x then k else idxGo (k + 1) l x
def idxL (l : List Int) (x : Int) : Int := idxGo 0 l x

theorem idxGo_cases (x : Int) : ∀ (l : List Int) (k : Nat), (x ∉ l ∧ idxGo k l x = -1) ∨ (x ∈ l ∧ (k : Int) ≤ idxGo k l x ∧ idxGo k l x < k + l.length)
  | [], k => .inl ⟨by simp, rfl⟩
  | y :: l, k => by
    unfold idxGo
    by_cases h : y = x
    · subst h; rw [if_pos rfl]; exact .inr ⟨by simp, Int.le_refl _, by simp; omega⟩
    · rw [if_neg h]
      rcases idxGo_cases x l (k + 1) with ⟨h1, h2⟩ | ⟨h1, h2, h3⟩
      · exact .inl ⟨by simp [h1, Ne.symm h], h2⟩
      · exact .inr ⟨by simp [h1], by omega, by simp; omega⟩
theorem idxL_mem (l : List Int) (x : Int) : (0 ≤ idxL l x) ↔ x ∈ l := by
  unfold idxL
  rcases idxGo_cases x l 0 with ⟨h1, h2⟩ | ⟨h1, h2, h3⟩
  · rw [h2]; simp [h1]
  · simp [h1]; omega

theorem index_ref {w : World} {a : Option Addr} {l : List Int} (h : Ints w a l) (cap : Nat) (x : Int) :
    Calls Try.prog 74 #[.slice a l.length cap, .int .i64 x] w fun e w' => e = .returned (.int .i64 (idxL l x)) ∧ w' = w := by
  have hlen := h.len
  go_enter Try.func74, Try.ntmps74
  go_wp2_with fail
  go_loop [5] (fun i => ∃ k : Nat, k ≤ l.length ∧ i = .int .i64 k ∧ Hid (idxGo k (l.drop k) x = idxL l x)) (fun i => l.length - (intOf i).toNat)
  case atStart => exact ⟨0, Nat.zero_le _, rfl, rfl⟩
  case round =>
    obtain ⟨k, hk, rfl, HE⟩ := hrel
    by_cases hlt : k < l.length
    · obtain ⟨g, off, rfl, hc⟩ := h.at_ (ne_nil_of_lt hlt)
      have c0 := hc k hlt
      have HC : Hid (idxGo k (l.drop k) x = if l[k] = x then (k : Int) else idxGo (k + 1) (l.drop (k + 1)) x) := by
        show _ = _; rw [List.drop_eq_getElem_cons hlt]; rfl
      generalize l[k] = y at *
      clear hc h
      by_cases hy : y = x
      · subst hy
        have HN : Hid (idxL l y = k) := by show _ = _; rw [← HE.out, HC.out, if_pos rfl]
        clear HE HC
        go_wp2_with fail
        go_ret
        rw [HN.out]
        exact ⟨rfl, rfl⟩
      · have HN : Hid (idxGo (k + 1) (l.drop (k + 1)) x = idxL l x) := by show _ = _; rw [← HE.out, HC.out, if_neg hy]
        have hb : (y == x) = false := beq_eq_false_iff_ne.2 hy
        clear HE HC
        go_wp2_with fail
        go_round
        case rel => exact ⟨k + 1, by omega, by go_num, HN⟩
        case measure => simp [intOf]; omega
    · have HN : Hid (idxL l x = -1) := by show _ = _; rw [← HE.out, drop_end hlt]; rfl
      clear HE
      go_wp2_with fail
      go_ret
      rw [HN.out]
      exact ⟨rfl, rfl⟩

theorem Ints.take {w : World} {a : Option Addr} {l : List Int} (h : Ints w a l) (k : Nat) : Ints w a (l.take k) :=
  ⟨Nat.le_trans (by simp; omega) h.len, fun hl => by
    obtain ⟨b, off, ha, hc⟩ := h.at_ (fun e => hl (by simp [e]))
    exact ⟨b, off, ha, fun j hj => by simp at hj; rw [hc j (by omega)]; simp⟩⟩

theorem different_ref {w : World} {a : Option Addr} {l : List Int} (h : Ints w a l) (cap : Nat) (hcap : l.length ≤ cap) (n : Int) :
    Calls Try.prog 66 #[.slice a l.length cap, .int .i64 n] w fun e w' => e = .returned (.int .i64 (setErr [] l n)) ∧ Below w.heap.size w w' := by
  have hlen := h.len
  go_enter Try.func66, Try.ntmps66
  go_wp2_with fail
  go_loopw [5] (fun i wr => ∃ k : Nat, k ≤ l.length ∧ i = .int .i64 k ∧ Hid (setErr (l.take k) (l.drop k) n = setErr [] l n) ∧ Below w.heap.size w wr) (fun i _ => l.length - (intOf i).toNat)
  case atStart => exact ⟨0, Nat.zero_le _, rfl, rfl, Below.refl _ _⟩
  case round =>
    obtain ⟨k, hk, rfl, HE, hb⟩ := hrel
    by_cases hlt : k < l.length
    · have hI : Hid (∀ q, Calls Try.prog 74 #[.slice a k cap, .int .i64 l[k]] (wr.drewN q) fun e w' => e = .returned (.int .i64 (idxL (l.take k) l[k])) ∧ w' = wr.drewN q) := fun q => by
        have := index_ref ((h.keep (below_drewN hb q)).take k) cap l[k]
        rwa [List.length_take, Nat.min_eq_left hk] at this
      obtain ⟨g, off, rfl, hc⟩ := (h.keep hb).at_ (ne_nil_of_lt hlt)
      have c0 := hc k hlt
      have HC : Hid (setErr (l.take k) (l.drop k) n = if l[k] < 0 ∨ n ≤ l[k] then 11 else if l[k] ∈ l.take k then 5 else setErr (l.take (k + 1)) (l.drop (k + 1)) n) := by
        show _ = _; rw [List.drop_eq_getElem_cons hlt, List.take_succ_eq_append_getElem hlt]; rfl
      have HX := Lib.hid (idxL_mem (l.take k) l[k])
      generalize l[k] = y at *
      have hkc : k ≤ cap := by omega
      clear hc h
      by_cases hy : y < 0
      · have HN : Hid (setErr [] l n = 11) := by show _ = _; rw [← HE.out, HC.out, if_pos (.inl hy)]
        clear HE HC hI
        go_wp2_with fail
        go_ret
        rw [HN.out]
        exact ⟨rfl, hb⟩
      · by_cases hy2 : n ≤ y
        · have HN : Hid (setErr [] l n = 11) := by show _ = _; rw [← HE.out, HC.out, if_pos (.inr hy2)]
          clear HE HC hI
          go_wp2_with fail
          go_ret
          rw [HN.out]
          exact ⟨rfl, hb⟩
        · by_cases hm : y ∈ l.take k
          · have HN : Hid (setErr [] l n = 5) := by show _ = _; rw [← HE.out, HC.out, if_neg (by omega), if_pos hm]
            have hge : 0 ≤ idxL (l.take k) y := HX.out.2 hm
            generalize idxL (l.take k) y = ix at *
            clear HE HC hm HX
            go_wp2_with fail
            go_quiet (first | (go_at_call 74; refine Calls.quiet_of_same (hI.out _)))
            go_wp2_with fail
            go_ret
            rw [HN.out]
            exact ⟨rfl, below_drewN hb _⟩
          · have HN : Hid (setErr (l.take (k + 1)) (l.drop (k + 1)) n = setErr [] l n) := by show _ = _; rw [← HE.out, HC.out, if_neg (by omega), if_neg hm]
            have hge : idxL (l.take k) y < 0 := Int.not_le.1 (fun hh => hm (HX.out.1 hh))
            generalize idxL (l.take k) y = ix at *
            clear HE HC hm HX
            go_wp2_with fail
            go_quiet (first | (go_at_call 74; refine Calls.quiet_of_same (hI.out _)))
            go_wp2_with fail
            go_roundw
            case rel => exact ⟨k + 1, by omega, by go_num, HN, below_drewN hb _⟩
            case measure => simp [intOf]; omega
    · have HN : Hid (setErr [] l n = 0) := by show _ = _; rw [← HE.out, drop_end hlt]; rfl
      clear HE
      go_wp2_with fail
      go_ret
      rw [HN.out]
      exact ⟨rfl, hb⟩
end Go.Proofs.Ytoloiingodigpaa
