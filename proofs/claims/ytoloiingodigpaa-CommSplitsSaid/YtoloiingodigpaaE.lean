import Derived.Test.YtoloiingodigpaaD
import Derived.Shelf.Abstract
namespace Go.Proofs.Ytoloiingodigpaa
open Go.RowKit Go.Shelf
attribute [local go_sem] Oper.semAt_some

theorem Try.info3 : (Try.prog.info? 3).map (fun i => (i.zero, i.size, i.bytes)) = some (some (.int .i64 0), 1, 8) := by kernel_rfl

/-- a slice of integers in memory of the call's own, from block B on -/
structure NewInts (B : Nat) (w : World) (v : Value) (l : List Int) : Prop where
  own : w.ownsRow B 3 1 v l.length (l.map (Value.int .i64))
  len : l.length ≤ 17592186044416

theorem NewInts.ints {B : Nat} {w : World} {v : Value} {l : List Int} (h : NewInts B w v l) : ∃ a cap, v = .slice a l.length cap ∧ Ints w a l := by
  obtain ⟨h1, h2⟩ := h.own
  rcases h2 with ⟨rfl, hn⟩ | ⟨g, cap, cur, rfl, hB, hg, hc, hm, hs, ht⟩
  · exact ⟨none, 0, by rw [hn], h.len, fun hl => absurd (List.length_eq_zero_iff.1 hn) hl⟩
  · refine ⟨_, cap, rfl, h.len, fun _ => ⟨g, 0, rfl, fun j hj => ?_⟩⟩
    rw [cell_of_row w g _ cur _ _ hg]
    have : (l.map (Value.int .i64))[j]? = some (.int .i64 l[j]) := by simp [hj]
    rw [← ht] at this
    rw [List.getElem?_take] at this
    split at this
    · simpa using this
    · cases this

theorem grow_below {B : Nat} {w wr w1 : World} {v : Value} {n : Nat} {xs : List Value} (hb : Below B w wr) (hown : wr.ownsRow B 3 1 v n xs) (hg : wr.grownBy w1 v.ownBlock) (hB : B ≤ wr.heap.size) : Below B w w1 :=
  hb.grown hg hB fun k hk => (hown.lt k hk).1

/-- the elements whose indexes are wanted -/
def pickF (p : Nat → Bool) : Nat → List Int → List Int
  | _, [] => []
  | k, x :: l => if p k then x :: pickF p (k + 1) l else pickF p (k + 1) l

theorem pickF_len (p : Nat → Bool) : ∀ (l : List Int) (k : Nat), (pickF p k l).length ≤ l.length
  | [], _ => by simp [pickF]
  | x :: l, k => by
    have := pickF_len p l (k + 1)
    unfold pickF
    split <;> simp <;> omega

set_option maxRecDepth 100000 in
set_option maxHeartbeats 1000000 in
theorem choose_any {w : World} {a : Option Addr} {l : List Int} (h : Ints w a l) (cap : Nat) (p : Nat → Bool) (g : Nat) (lb : Array Value) (eg : ∀ args w, (callFunc g args).run Try.prog w = .ok (.enter g args) w)
    (hp : ∀ i, i < l.length → ∀ W, Below w.heap.size w W → Calls Try.prog g (#[.int .i64 i] ++ lb) W fun e w' => e = .returned (.bool (p i)) ∧ W = w') :
    Calls Try.prog 60 #[.slice a l.length cap, .func (.func g) #[] lb] w fun e w' => ∃ v, e = .returned v ∧ NewInts w.heap.size w' v (pickF p 0 l) ∧ Below w.heap.size w w' := by
  have hlen := h.len
  obtain ⟨i0, hi, hz0, hz1, hz2⟩ := info_parts Try.info3
  have hpl := pickF_len p l 0
  go_enter Try.func60, Try.ntmps60
  go_wp2_with fail
  go_loopw [5, 6, 7, 10] (fun t _ _ i wr => ∃ (k : Nat) (r : List Int), k ≤ l.length ∧ i = .int .i64 k ∧ r.length ≤ k ∧ Hid (r ++ pickF p k (l.drop k) = pickF p 0 l) ∧ wr.ownsRow w.heap.size 3 1 t r.length (r.map (Value.int .i64)) ∧ Below w.heap.size w wr)
    (fun _ _ _ i _ => l.length - (intOf i).toNat)
  case atStart => exact ⟨0, [], Nat.zero_le _, rfl, by simp, rfl, World.ownsRow_nil _ _ _ _, Below.refl _ _⟩
  case round =>
    obtain ⟨k, r, hk, rfl, hr, HE, hown, hb⟩ := hrel
    by_cases hlt : k < l.length
    · obtain ⟨gg, off, rfl, hc⟩ := h.at_ (ne_nil_of_lt hlt)
      have c0 := hc k hlt
      have d0 := (hb.cell (p := ⟨gg, off + k, none⟩) (block_lt_of_cell c0)).trans c0
      have hz := hb.size
      have hcall := hp k hlt wr hb
      have HO := Lib.hid hown
      have HP := Lib.hid hp
      clear hc c0 hown hp
      cases hq : p k with
      | true =>
        have HN : Hid ((r ++ [l[k]]) ++ pickF p (k + 1) (l.drop (k + 1)) = pickF p 0 l) := by
          show _ = _; rw [← HE.out, List.drop_eq_getElem_cons hlt, pickF, if_pos hq]; simp
        rw [hq] at hcall
        clear hq
        go_wp2_with (first
          | (go_at_fn g; refine hcall.mono ?_; rintro e w' ⟨rfl, rfl⟩)
          | (at_builtin; refine wpList_append_own _ rfl (.tmp 18) (.tmp 20) 22 rfl w.heap.size 3 i0 (.int .i64 0) 1 8 Try.underlying22 hi hz0 hz1 hz2 rfl (by decide) _ _ _ rfl (HO.out.alloc _) ⟨wr.heap.size, 0, none⟩ 1 1 [.int .i64 l[k]] rfl rfl (fun j u hj => by match j, hj with | 0, hj => simp at hj; subst hj; simp [Addr.add]) (by intro u hu; simp at hu; subst hu; rfl) (by unfold maxLen; omega) (by omega) (by simp; omega) ?_; intro v' w1 hown' hgrow _))
        have hb1 : Below w.heap.size w w1 := grow_below (hb.alloc hz _) (HO.out.alloc _) hgrow (by simp; omega)
        go_roundw
        case rel => exact ⟨k + 1, r ++ [l[k]], by omega, by go_num, by simp; omega, HN, by simpa using hown', hb1⟩
        case measure => simp [intOf]; omega
      | false =>
        have HN : Hid (r ++ pickF p (k + 1) (l.drop (k + 1)) = pickF p 0 l) := by
          show _ = _; rw [← HE.out, List.drop_eq_getElem_cons hlt, pickF, if_neg (by rw [hq]; decide)]
        rw [hq] at hcall
        clear hq
        go_wp2_with (first
          | (go_at_fn g; refine hcall.mono ?_; rintro e w' ⟨rfl, rfl⟩))
        go_roundw
        case rel => exact ⟨k + 1, r, by omega, by go_num, by omega, HN, HO.out, hb⟩
        case measure => simp [intOf]; omega
    · have HN : Hid (r = pickF p 0 l) := by show _ = _; rw [← HE.out, drop_end hlt]; simp [pickF]
      have HO := Lib.hid hown
      clear hown
      go_wp2_with fail
      go_ret
      refine ⟨_, rfl, ?_, hb⟩
      rw [← HN.out]
      exact ⟨HO.out, by omega⟩
end Go.Proofs.Ytoloiingodigpaa
