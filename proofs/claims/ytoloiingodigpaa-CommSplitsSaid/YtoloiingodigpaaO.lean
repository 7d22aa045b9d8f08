import Derived.Test.YtoloiingodigpaaH
import Derived.Test.YtoloiingodigpaaN
namespace Go.Proofs.Ytoloiingodigpaa
open Go.RowKit Go.Shelf
attribute [local go_sem] Oper.semAt_some litE

/-- the search for the first size -/
def facGo (f : Int → Int → Option (List Int)) (n : Int) : Nat → Int → Option (List Int)
  | 0, _ => none
  | m + 1, s => if n % s ≠ 0 then facGo f n m (s + 1) else match f (n / s) s with
    | some r => some (s :: r)
    | none => facGo f n m (s + 1)
/-- the least sizes -/
def factL : Nat → Int → Int → Option (List Int)
  | 0, n, _ => if n = 1 then some [] else none
  | d + 1, n, most => facGo (factL d) n most.toNat 1

theorem facGo_len {f : Int → Int → Option (List Int)} {d : Nat} (hf : ∀ n s r, f n s = some r → r.length = d) {n : Int} : ∀ (m : Nat) (s : Int) (r : List Int), facGo f n m s = some r → r.length = d + 1
  | 0, _, _, h => by cases h
  | m + 1, s, r, h => by
    unfold facGo at h
    split at h
    · exact facGo_len hf m _ r h
    · split at h
      · rename_i q hq
        cases h
        simp [hf _ _ _ hq]
      · exact facGo_len hf m _ r h
theorem factL_len : ∀ (d : Nat) (n most : Int) (r : List Int), factL d n most = some r → r.length = d
  | 0, n, most, r, h => by
    unfold factL at h
    split at h
    · cases h; rfl
    · cases h
  | d + 1, n, most, r, h => facGo_len (factL_len d) _ _ r h

set_option maxRecDepth 100000 in
set_option maxHeartbeats 4000000 in
theorem factors_any : ∀ (d : Nat), d ≤ 4 → ∀ (n most : Int), 0 ≤ n → n ≤ 64 → most ≤ 64 → ∀ (w : World),
    Calls Try.prog 78 #[.int .i64 n, .int .i64 d, .int .i64 most] w fun e w' => ∃ v, e = .returned (.tuple #[v, .bool (factL d n most).isSome]) ∧ NewInts w.heap.size w' v ((factL d n most).getD []) ∧ Below w.heap.size w w' := by
  intro d
  induction d with
  | zero =>
    intro _ n most h0 h1 h2 w
    by_cases hn : n = 1
    · subst hn
      go_enter Try.func78, Try.ntmps78
      go_wp2
      go_ret2
      exact ⟨_, rfl, NewInts.nil _ _, Below.refl _ _⟩
    · have hb : (n == 1) = false := beq_eq_false_iff_ne.2 hn
      have HV : Hid (factL 0 n most = none) := by show _ = _; unfold factL; rw [if_neg hn]
      rw [HV.out]
      go_enter Try.func78, Try.ntmps78
      go_wp2
      go_ret2
      exact ⟨_, rfl, NewInts.nil _ _, Below.refl _ _⟩
  | succ d ih =>
    intro hd n most h0 h1 h2 w
    have IH := Lib.hid (ih (by omega))
    have HL := Lib.hid (factL_len d)
    clear ih
    have hdz : ((d : Int) + 1 == 0) = false := beq_eq_false_iff_ne.2 (by omega)
    obtain ⟨i0, hi, hz0, hz1, hz2⟩ := info_parts Try.info3
    have HV : Hid (factL (d + 1) n most = facGo (factL d) n most.toNat 1) := rfl
    generalize factL (d + 1) n most = res at *
    rw [show ((d + 1 : Nat) : Int) = (d : Int) + 1 from by omega]
    have hd4 : (d : Int) ≤ 3 := by omega
    go_enter Try.func78, Try.ntmps78
    go_wp2_with fail
    go_loopw [8, 9, 10, 24] (fun i _ _ _ wr => ∃ (m : Nat) (s : Int), 1 ≤ s ∧ s ≤ 65 ∧ i = .int .i64 s ∧ Hid (s + (m : Int) = max most 0 + 1) ∧ Hid (facGo (factL d) n m s = res) ∧ Below w.heap.size w wr) (fun i _ _ _ _ => (66 - intOf i).toNat)
    case atStart => exact ⟨most.toNat, 1, by omega, by omega, rfl, by show _ = _; omega, HV.out.symm, Below.refl _ _⟩
    case round =>
      obtain ⟨m, s, hs1, hs2, rfl, HM, HE, hb⟩ := hrel
      have hzr := hb.size
      cases m with
      | zero =>
        have hgt : most < s := by have := HM.out; omega
        have HN : Hid (res = none) := by show _ = _; rw [← HE.out]; rfl
        go_wp2_with fail
        go_ret2
        rw [HN.out]
        exact ⟨_, rfl, NewInts.nil _ _, hb⟩
      | succ m =>
        have hle : s ≤ most := by have := HM.out; omega
        have HM2 : Hid ((s + 1) + (m : Int) = max most 0 + 1) := by show _ = _; have := HM.out; omega
        have hsz : s ≠ 0 := by omega
        have hmod : n.tmod s = n % s := Int.tmod_eq_emod_of_nonneg h0
        have hdl : n / s ≤ n := Int.ediv_le_self _ h0
        have hd0 : 0 ≤ n / s := Int.ediv_nonneg h0 (by omega)
        have hdiv : wrap64 (n.tdiv s) = n / s := by rw [Int.tdiv_eq_ediv_of_nonneg h0]; unfold wrap64; omega
        have HF : Hid (facGo (factL d) n (m + 1) s = if n % s ≠ 0 then facGo (factL d) n m (s + 1) else match factL d (n / s) s with | some r => some (s :: r) | none => facGo (factL d) n m (s + 1)) := rfl
        by_cases q : n % s = 0
        · have hcall := IH.out (n / s) s hd0 (by omega) (by omega) wr
          cases hf : factL d (n / s) s with
          | none =>
            have HN : Hid (facGo (factL d) n m (s + 1) = res) := by show _ = _; rw [← HE.out, HF.out, if_neg (by simp [q]), hf]
            rw [hf] at hcall
            have HQ := Lib.hid q
            clear HF HE hf
            go_wp2_with fail
            refine hcall.mono ?_
            rintro e Y ⟨v, rfl, hv, hbY⟩
            have hv := Lib.hid hv
            have hbb := hb.trans (hbY.mono hzr)
            clear hcall hb
            go_wp2_with fail
            go_roundw
            case rel => exact ⟨m, s + 1, by omega, by omega, by go_num, HM2, HN, hbb⟩
            case measure => simp [intOf]; omega
          | some r =>
            have HN : Hid (res = some (s :: r)) := by show _ = _; rw [← HE.out, HF.out, if_neg (by simp [q]), hf]
            have hrl : r.length ≤ 3 := by have := HL.out _ _ _ hf; omega
            rw [hf] at hcall
            have HQ := Lib.hid q
            clear HF HE hf
            go_wp2_with fail
            refine hcall.mono ?_
            rintro e Y ⟨v, rfl, hv, hbY⟩
            have hv : NewInts wr.heap.size Y v r := hv
            obtain ⟨va, vc, rfl, hvi⟩ := hv.ints
            have hcap := hv.cap_of
            have hbb := hb.trans (hbY.mono hzr)
            have hzY := hbY.size
            have hal : Below Y.heap.size Y (Y.alloc (.cells #[.int .i64 s] 3)) := (Below.refl _ _).alloc (Nat.le_refl _) _
            have hown : (Y.alloc (.cells #[.int .i64 s] 3)).ownsRow w.heap.size 3 1 (.slice (some ⟨Y.heap.size, 0, none⟩) 1 1) 1 [.int .i64 s] :=
              ⟨rfl, .inr ⟨Y.heap.size, 1, #[.int .i64 s], rfl, by omega, heap_alloc_new _ _, Nat.le_refl _, by decide, rfl, rfl⟩⟩
            obtain ⟨v', w2, hr, ho, hg⟩ := append_ints hown (hvi.keep hal) vc hcap (by omega) (by simp; omega)
            have HR := Lib.hid hr
            have HO := Lib.hid ho
            have hb3 : Below w.heap.size w w2 := grow_below (hbb.alloc (by omega) _) hown hg (by simp; omega)
            clear hr ho hg hown hal hvi hcap hv hcall hb hbb hbY
            go_wp2_with (at_builtin; refine Lib.wpList_append_run _ rfl (.tmp 36) (.tmp 37) 22 22 rfl _ _ rfl rfl _ _ HR.out ?_)
            go_ret2
            rw [HN.out]
            refine ⟨_, rfl, ⟨?_, by simp; omega⟩, hb3⟩
            have := HO.out
            simpa [Nat.add_comm] using this
        · have HN : Hid (facGo (factL d) n m (s + 1) = res) := by show _ = _; rw [← HE.out, HF.out, if_pos q]
          have q1 : (n % s == 0) = false := beq_eq_false_iff_ne.2 q
          have q2 : (n % s != 0) = true := by rw [bne_iff_ne]; exact q
          clear HF HE
          go_wp2_with fail
          go_roundw
          case rel => exact ⟨m, s + 1, by omega, by omega, by go_num, HM2, HN, hb⟩
          case measure => simp [intOf]; omega

/-- the sizes of a grid -/
def factorE (n d : Int) : Int := if n < 1 ∨ 64 < n ∨ d < 1 ∨ 4 < d then 3 else 0
def factorR (n d : Int) : List Int := if factorE n d = 0 then (factL d.toNat n n).getD [] else []

set_option maxHeartbeats 1000000 in
theorem Factor_any (n d : Int) (w : World) :
    Calls Try.prog 34 #[.int .i64 n, .int .i64 d] w fun e w' => ∃ v, e = .returned (.tuple #[v, .int .i64 (factorE n d)]) ∧ NewInts w.heap.size w' v (factorR n d) ∧ Below w.heap.size w w' := by
  by_cases g : n < 1 ∨ 64 < n ∨ d < 1 ∨ 4 < d
  · have HE : Hid (factorE n d = 3) := by show _ = _; unfold factorE; rw [if_pos g]
    have HR : Hid (factorR n d = []) := by show _ = _; unfold factorR; rw [HE.out, if_neg (by decide)]
    rw [HE.out, HR.out]
    by_cases g1 : n < 1
    · go_enter Try.func34, Try.ntmps34
      go_wp2
      go_ret2
      exact ⟨_, rfl, NewInts.nil _ _, Below.refl _ _⟩
    · by_cases g2 : 64 < n
      · go_enter Try.func34, Try.ntmps34
        go_wp2
        go_ret2
        exact ⟨_, rfl, NewInts.nil _ _, Below.refl _ _⟩
      · by_cases g3 : d < 1
        · go_enter Try.func34, Try.ntmps34
          go_wp2
          go_ret2
          exact ⟨_, rfl, NewInts.nil _ _, Below.refl _ _⟩
        · have g4 : 4 < d := by omega
          go_enter Try.func34, Try.ntmps34
          go_wp2
          go_ret2
          exact ⟨_, rfl, NewInts.nil _ _, Below.refl _ _⟩
  · have HE : Hid (factorE n d = 0) := by show _ = _; unfold factorE; rw [if_neg g]
    have HR : Hid (factorR n d = (factL d.toNat n n).getD []) := by show _ = _; unfold factorR; rw [HE.out, if_pos rfl]
    rw [HE.out, HR.out]
    obtain ⟨dn, rfl⟩ := Int.eq_ofNat_of_zero_le (show 0 ≤ d by omega)
    have hf := factors_any dn (by omega) n n (by omega) (by omega) (by omega) w
    simp only [Int.toNat_natCast]
    have q1 : ¬ n < 1 := by omega
    have q2 : ¬ 64 < n := by omega
    have q3 : ¬ (dn : Int) < 1 := by omega
    have q4 : ¬ 4 < (dn : Int) := by omega
    clear g
    go_enter Try.func34, Try.ntmps34
    go_wp2_with fail
    refine hf.mono ?_
    rintro e Y ⟨v, rfl, hv, hbY⟩
    have hv := Lib.hid hv
    go_wp2
    go_ret2
    exact ⟨_, rfl, hv.out, hbY⟩
end Go.Proofs.Ytoloiingodigpaa
