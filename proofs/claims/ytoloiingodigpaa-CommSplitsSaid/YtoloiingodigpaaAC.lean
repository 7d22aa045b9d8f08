import Derived.Test.YtoloiingodigpaaAB
namespace Go.Proofs.Ytoloiingodigpaa
open Go.RowKit Go.Shelf Go.Lib
attribute [local go_sem] Oper.semAt_some litE
set_option maxRecDepth 100000
set_option maxHeartbeats 1000000

theorem ranks_by_key {w : World} {a : Option Addr} {keys : List Int} (h : Ints w a keys) (cap : Nat) (h1 : 1 ≤ keys.length) (hn : keys.length < 20) :
    Calls Try.prog 102 #[.slice a keys.length cap] w fun e w' => ∃ g, e = .returned (.slice (some ⟨g, 0, none⟩) keys.length keys.length) ∧ w.heap.size ≤ g ∧ RowAt w' g (orderL keys) ∧ Below w.heap.size w w' := by
  obtain ⟨b, off, rfl, hcs⟩ := h.at_ (ne_nil_of_lt (show 0 < keys.length by omega))
  have hblt := block_lt_of_cell (hcs 0 (by omega))
  have hb0 : Below w.heap.size w (w.alloc (.cells #[.slice (some ⟨b, off, none⟩) keys.length cap] 22)) := (Below.refl _ _).alloc (Nat.le_refl _) _
  have hz0 : (w.alloc (.cells #[.slice (some ⟨b, off, none⟩) keys.length cap] 22)).heap.size = w.heap.size + 1 := by simp
  have hc0 : (w.alloc (.cells #[.slice (some ⟨b, off, none⟩) keys.length cap] 22)).cell? ⟨w.heap.size, 0, none⟩ = some (.slice (some ⟨b, off, none⟩) keys.length cap) := by simp
  have A0 := h.keep hb0
  have hmk := make_ints keys.length (by omega) (w.alloc (.cells #[.slice (some ⟨b, off, none⟩) keys.length cap] 22))
  rw [hz0] at hmk
  have R0 : RowAt ((w.alloc (.cells #[.slice (some ⟨b, off, none⟩) keys.length cap] 22)).alloc (.cells (rowA (List.replicate keys.length 0)) 3)) (w.heap.size + 1) (fillL keys.length 0) := by
    rw [fillL_zero, ← hz0]; exact heap_alloc_new _ _
  have b1 : Below (w.heap.size + 1) (w.alloc (.cells #[.slice (some ⟨b, off, none⟩) keys.length cap] 22)) ((w.alloc (.cells #[.slice (some ⟨b, off, none⟩) keys.length cap] 22)).alloc (.cells (rowA (List.replicate keys.length 0)) 3)) :=
    (Below.refl _ _).alloc (by rw [hz0]; exact Nat.le_refl _) _
  have HA := Lib.hid A0
  have HB0 := Lib.hid hb0
  have HC0 := Lib.hid hc0
  have HZ0 := Lib.hid hz0
  have R0 := Lib.hid R0
  have b1 := Lib.hid b1
  clear A0 hb0 hc0 hz0 h hcs
  obtain ⟨n, hne⟩ : ∃ n, n = keys.length := ⟨_, rfl⟩
  have HN := Lib.hid hne
  rw [← hne] at hmk HA HB0 HC0 HZ0 R0 b1 h1 hn ⊢
  clear hne
  go_enter Try.func102, Try.ntmps102
  go_wp2_with fail
  generalize hw1 : (w.alloc (.cells #[.slice (some ⟨b, off, none⟩) n cap] 22)).alloc (.cells (rowA (List.replicate n 0)) 3) = w1 at *
  generalize w.alloc (.cells #[.slice (some ⟨b, off, none⟩) n cap] 22) = w0 at *
  clear hw1 hmk
  go_loopw [10] (fun i wr => ∃ k : Nat, k ≤ n ∧ i = .int .i64 k ∧ RowAt wr (w.heap.size + 1) (fillL n k) ∧ Below (w.heap.size + 1) w0 wr) (fun i _ => n - (intOf i).toNat)
  case atStart => exact ⟨0, Nat.zero_le _, rfl, R0.out, b1.out⟩
  case round =>
    obtain ⟨k, hk, rfl, hR, hb⟩ := hrel
    have hlt := hR.lt
    by_cases hkn : k < n
    · have hc := hR.cell k (by rw [fillL_len n k hk]; omega)
      have hfz := hR.open_ k
      have hR2 := hR.set k (k : Int)
      rw [fillL_set n k hkn] at hR2
      have hb2 : Below (w.heap.size + 1) w0 (wr.setCell ⟨w.heap.size + 1, k, none⟩ (.int .i64 k)) := hb.setCell (Nat.le_refl _) _
      generalize (fillL n k)[k]'_ = x at *
      clear hR
      go_wp2_with fail
      go_roundw
      case rel => exact ⟨k + 1, by omega, by go_num, hR2, hb2⟩
      case measure => simp [intOf]; omega
    · have hk' : k = n := by omega
      subst hk'
      rw [fillL_all] at hR
      have hs0 := HZ0.out
      have hbw : Below w0.heap.size w0 wr := by rw [hs0]; exact hb
      have hst := stable_small (by have := HA.out.keep hbw; exact this) cap w.heap.size (by rw [← HN.out, ← HC0.out]; exact hbw.cell (p := ⟨w.heap.size, 0, none⟩) (by rw [hs0]; simp)) (by rw [← HN.out]; exact h1) (by rw [← HN.out]; exact hn) (g := w.heap.size + 1) (by rw [← HN.out]; exact hR) (by omega) (by simp; omega)
      rw [← HN.out] at hst
      have HS := Lib.hid hst
      clear hst hR hbw hs0
      go_wp2_with (refine HS.out.mono ?_; rintro e w2 ⟨rfl, hR2, hb2⟩)
      go_ret
      refine ⟨w.heap.size + 1, rfl, by omega, hR2, (HB0.out.trans (hb.mono (by omega))).trans (hb2.mono (by omega))⟩

/-- the processes with these ranks -/
def takeL (l rs : List Int) : List Int := rs.map fun r => l.getD r.toNat 0
@[simp] theorem takeL_len (l rs : List Int) : (takeL l rs).length = rs.length := by simp [takeL]

def takeG (l rs : List Int) (k : Nat) : List Int := takeL l (rs.take k) ++ List.replicate (rs.length - k) 0
theorem takeG_len (l rs : List Int) (k : Nat) (h : k ≤ rs.length) : (takeG l rs k).length = rs.length := by simp [takeG]; omega
theorem takeG_zero (l rs : List Int) : takeG l rs 0 = List.replicate rs.length 0 := by simp [takeG, takeL]
theorem takeG_all (l rs : List Int) : takeG l rs rs.length = takeL l rs := by simp [takeG]
theorem takeG_set (l rs : List Int) (k : Nat) (h : k < rs.length) : (takeG l rs k).set k (l.getD rs[k].toNat 0) = takeG l rs (k + 1) := by
  have e : rs.length - k = (rs.length - (k + 1)) + 1 := by omega
  unfold takeG
  rw [e, List.replicate_succ, List.set_append_right _ _ (by simp; omega)]
  have e2 : takeL l (rs.take (k + 1)) = takeL l (rs.take k) ++ [l.getD rs[k].toNat 0] := by
    unfold takeL
    rw [List.map_take, List.map_take, List.take_succ_eq_append_getElem (by simpa using h)]
    simp
  rw [e2]
  have e3 : k - (takeL l (List.take k rs)).length = 0 := by simp; omega
  rw [e3]
  simp

theorem with_ranks {w : World} {a b : Option Addr} {l rs : List Int} (h : Ints w a l) (hr : Ints w b rs) (cap cap' : Nat) (hin : ∀ x ∈ rs, 0 ≤ x ∧ x < l.length) :
    Calls Try.prog 71 #[.slice a l.length cap, .slice b rs.length cap'] w fun e w' => ∃ g, e = .returned (.slice (some ⟨g, 0, none⟩) rs.length rs.length) ∧ w.heap.size ≤ g ∧ RowAt w' g (takeL l rs) ∧ Below w.heap.size w w' := by
  have hlen := h.len
  have hlen2 := hr.len
  have hmk := make_ints rs.length hlen2 w
  have R0 : RowAt (w.alloc (.cells (rowA (List.replicate rs.length 0)) 3)) w.heap.size (takeG l rs 0) := by rw [takeG_zero]; exact heap_alloc_new w _
  have b0 : Below w.heap.size w (w.alloc (.cells (rowA (List.replicate rs.length 0)) 3)) := (Below.refl _ _).alloc (Nat.le_refl _) _
  have HIN := Lib.hid hin
  clear hin
  go_enter Try.func71, Try.ntmps71
  go_wp2_with fail
  generalize w.alloc (.cells (rowA (List.replicate rs.length 0)) 3) = w0 at *
  clear hmk
  go_loopw [13] (fun i wr => ∃ k : Nat, k ≤ rs.length ∧ i = .int .i64 k ∧ RowAt wr w.heap.size (takeG l rs k) ∧ Below w.heap.size w wr) (fun i _ => rs.length - (intOf i).toNat)
  case atStart => exact ⟨0, Nat.zero_le _, rfl, R0, b0⟩
  case round =>
    obtain ⟨k, hk, rfl, hR, hb⟩ := hrel
    have hlt := hR.lt
    by_cases hkn : k < rs.length
    · have hc := hR.cell k (by rw [takeG_len l rs k hk]; omega)
      have hfz := hR.open_ k
      have hR2 := hR.set k (l.getD rs[k].toNat 0)
      rw [takeG_set l rs k hkn] at hR2
      obtain ⟨gb, ob, rfl, hcb⟩ := (hr.keep hb).at_ (ne_nil_of_lt hkn)
      have c1 := hcb k hkn
      obtain ⟨hx0, hx1⟩ := HIN.out rs[k] (List.getElem_mem hkn)
      generalize rs[k] = x at *
      obtain ⟨r, rfl⟩ := Int.eq_ofNat_of_zero_le hx0
      have hrl : r < l.length := by omega
      obtain ⟨ga, oa, rfl, hca⟩ := (h.keep hb).at_ (ne_nil_of_lt hrl)
      have c2 := hca r hrl
      have e2 : l.getD (r : Int).toNat 0 = l[r] := by simp [List.getD, hrl]
      rw [e2] at hR2
      generalize l[r] = y at *
      have hb2 : Below w.heap.size w (wr.setCell ⟨w.heap.size, k, none⟩ (.int .i64 y)) := hb.setCell (Nat.le_refl _) _
      generalize (takeG l rs k)[k]'_ = z at *
      clear R0 b0 hR hcb hca h hr e2
      go_wp2_with fail
      go_roundw
      case rel => exact ⟨k + 1, by omega, by go_num, hR2, hb2⟩
      case measure => simp [intOf]; omega
    · have hk' : k = rs.length := by omega
      subst hk'
      rw [takeG_all] at hR
      have HR := Lib.hid hR
      clear hR R0 b0
      go_wp2_with fail
      go_ret
      exact ⟨w.heap.size, rfl, Nat.le_refl _, HR.out, hb⟩
end Go.Proofs.Ytoloiingodigpaa
