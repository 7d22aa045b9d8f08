import Derived.Test.YtoloiingodigpaaQF
import Derived.Test.YtoloiingodigpaaPD
namespace Go.Proofs.Ytoloiingodigpaa
open Go.RowKit Go.Shelf
attribute [local go_sem] Oper.semAt_some

/-- a slice of truth values in memory of the call's own, from block B on -/
structure NewBools (B : Nat) (w : World) (v : Value) (l : List Bool) : Prop where
  own : w.ownsRow B 4 1 v l.length (l.map Value.bool)
  len : l.length ≤ 17592186044416

theorem NewBools.bools {B : Nat} {w : World} {v : Value} {l : List Bool} (h : NewBools B w v l) : ∃ a cap, v = .slice a l.length cap ∧ Bools w a l := by
  obtain ⟨h1, h2⟩ := h.own
  rcases h2 with ⟨rfl, hn⟩ | ⟨g, cap, cur, rfl, hB, hg, hc, hm, hs, ht⟩
  · exact ⟨none, 0, by rw [hn], h.len, fun hl => absurd (List.length_eq_zero_iff.1 hn) hl⟩
  · refine ⟨_, cap, rfl, h.len, fun _ => ⟨g, 0, rfl, fun j hj => ?_⟩⟩
    rw [cell_of_row w g _ cur _ _ hg]
    have : (l.map Value.bool)[j]? = some (.bool l[j]) := by simp [hj]
    rw [← ht] at this
    rw [List.getElem?_take] at this
    split at this
    · simpa using this
    · cases this

def pickB (p : Nat → Bool) : Nat → List Bool → List Bool
  | _, [] => []
  | k, x :: l => if p k then x :: pickB p (k + 1) l else pickB p (k + 1) l

theorem pickB_len (p : Nat → Bool) : ∀ (l : List Bool) (k : Nat), (pickB p k l).length ≤ l.length
  | [], _ => by simp [pickB]
  | x :: l, k => by
    have := pickB_len p l (k + 1)
    unfold pickB
    split <;> simp <;> omega
theorem pick_len_eq (p : Nat → Bool) : ∀ (l : List Int) (m : List Bool) (k : Nat), l.length = m.length → (pickF p k l).length = (pickB p k m).length
  | [], [], _, _ => rfl
  | x :: l, y :: m, k, h => by
    have := pick_len_eq p l m (k + 1) (by simpa using h)
    unfold pickF pickB
    split <;> simp [this]
theorem pick_len_eq2 (p : Nat → Bool) : ∀ (l m : List Int) (k : Nat), l.length = m.length → (pickF p k l).length = (pickF p k m).length
  | [], [], _, _ => rfl
  | x :: l, y :: m, k, h => by
    have := pick_len_eq2 p l m (k + 1) (by simpa using h)
    unfold pickF
    split <;> simp [this]
theorem pickF_mem (p : Nat → Bool) : ∀ (l : List Int) (k : Nat) (x : Int), x ∈ pickF p k l → x ∈ l
  | [], _, x, h => by simp [pickF] at h
  | y :: l, k, x, h => by
    unfold pickF at h
    split at h
    · rcases List.mem_cons.1 h with rfl | h
      · simp
      · exact List.mem_cons_of_mem _ (pickF_mem p l (k + 1) x h)
    · exact List.mem_cons_of_mem _ (pickF_mem p l (k + 1) x h)

set_option maxRecDepth 100000 in
set_option maxHeartbeats 1000000 in
theorem choose_bool {w : World} {a : Option Addr} {l : List Bool} (h : Bools w a l) (cap : Nat) (p : Nat → Bool) (g : Nat) (lb : Array Value) (eg : ∀ args w, (callFunc g args).run Try.prog w = .ok (.enter g args) w)
    (hp : ∀ i, i < l.length → ∀ W, Below w.heap.size w W → Calls Try.prog g (#[.int .i64 i] ++ lb) W fun e w' => e = .returned (.bool (p i)) ∧ W = w') :
    Calls Try.prog 114 #[.slice a l.length cap, .func (.func g) #[] lb] w fun e w' => ∃ v, e = .returned v ∧ NewBools w.heap.size w' v (pickB p 0 l) ∧ Below w.heap.size w w' := by
  have hlen := h.len
  obtain ⟨i0, hi, hz0, hz1, hz2⟩ := info_parts Try.infob
  have hpl := pickB_len p l 0
  go_enter Try.func114, Try.ntmps114
  go_wp2_with fail
  go_loopw [5, 6, 7, 10] (fun t _ _ i wr => ∃ (k : Nat) (r : List Bool), k ≤ l.length ∧ i = .int .i64 k ∧ r.length ≤ k ∧ Hid (r ++ pickB p k (l.drop k) = pickB p 0 l) ∧ wr.ownsRow w.heap.size 4 1 t r.length (r.map Value.bool) ∧ Below w.heap.size w wr)
    (fun _ _ _ i _ => l.length - (intOf i).toNat)
  case atStart => exact ⟨0, [], Nat.zero_le _, rfl, by simp, rfl, World.ownsRow_nil _ _ _ _, Below.refl _ _⟩
  case round =>
    obtain ⟨k, r, hk, rfl, hr, HE, hown, hb⟩ := hrel
    by_cases hlt : k < l.length
    · obtain ⟨gg, off, rfl, hc⟩ := h.at_ (ne_nil_of_lt hlt)
      have c0 := hc k hlt
      have d0 := (hb.cell (p := ⟨gg, off + k, none⟩) (block_lt_of_cell c0)).trans c0
      have hz := hb.size
      have hcall := hp k hlt wr hb
      have HO := Lib.hid hown
      have HP := Lib.hid hp
      clear hc c0 hown hp
      cases hq : p k with
      | true =>
        have HN : Hid ((r ++ [l[k]]) ++ pickB p (k + 1) (l.drop (k + 1)) = pickB p 0 l) := by
          show _ = _; rw [← HE.out, List.drop_eq_getElem_cons hlt, pickB, if_pos hq]; simp
        rw [hq] at hcall
        clear hq
        go_wp2_with (first
          | (go_at_fn g; refine hcall.mono ?_; rintro e w' ⟨rfl, rfl⟩)
          | (at_builtin; refine wpList_append_own _ rfl (.tmp 18) (.tmp 20) 40 rfl w.heap.size 4 i0 (.bool false) 1 1 Try.underlying40 hi hz0 hz1 hz2 rfl (by decide) _ _ _ rfl (HO.out.alloc _) ⟨wr.heap.size, 0, none⟩ 1 1 [.bool l[k]] rfl rfl (fun j u hj => by match j, hj with | 0, hj => simp at hj; subst hj; simp [Addr.add]) (by intro u hu; simp at hu; subst hu; rfl) (by unfold maxLen; omega) (by omega) (by simp; omega) ?_; intro v' w1 hown' hgrow _))
        have hb1 : Below w.heap.size w w1 := grow_below4 (hb.alloc hz _) (HO.out.alloc _) hgrow (by simp; omega)
        go_roundw
        case rel => exact ⟨k + 1, r ++ [l[k]], by omega, by go_num, by simp; omega, HN, by simpa using hown', hb1⟩
        case measure => simp [intOf]; omega
      | false =>
        have HN : Hid (r ++ pickB p (k + 1) (l.drop (k + 1)) = pickB p 0 l) := by
          show _ = _; rw [← HE.out, List.drop_eq_getElem_cons hlt, pickB, if_neg (by rw [hq]; decide)]
        rw [hq] at hcall
        clear hq
        go_wp2_with (first
          | (go_at_fn g; refine hcall.mono ?_; rintro e w' ⟨rfl, rfl⟩))
        go_roundw
        case rel => exact ⟨k + 1, r, by omega, by go_num, by omega, HN, HO.out, hb⟩
        case measure => simp [intOf]; omega
    · have HN : Hid (r = pickB p 0 l) := by show _ = _; rw [← HE.out, drop_end hlt]; simp [pickB]
      have HO := Lib.hid hown
      clear hown
      go_wp2_with fail
      go_ret
      refine ⟨_, rfl, ?_, hb⟩
      rw [← HN.out]
      exact ⟨HO.out, by omega⟩

/-- a dimension is kept -/
theorem kept_any {w : World} {a : Option Addr} {l : List Bool} (h : Bools w a l) (cap : Nat) (bb : Nat) (hc : w.cell? ⟨bb, 0, none⟩ = some (.slice a l.length cap)) (i : Nat) (hi : i < l.length) (W : World) (hb : Below w.heap.size w W) :
    Calls Try.prog 90 (#[.int .i64 i] ++ #[.pointer (some ⟨bb, 0, none⟩)]) W fun e w' => e = .returned (.bool (l.getD i false)) ∧ W = w' := by
  have hc' := pred_cells hb hc
  obtain ⟨g, off, rfl, hcs⟩ := (h.keep hb).at_ (ne_nil_of_lt hi)
  have c0 := hcs i hi
  have hlen := h.len
  have e1 : l.getD i false = l[i] := by simp [List.getD, hi]
  rw [e1]
  clear hcs hc h hb e1
  show Calls Try.prog 90 #[.int .i64 i, .pointer (some ⟨bb, 0, none⟩)] W _
  go_enter Try.func90, Try.ntmps90
  go_wp2
  go_ret
  exact ⟨rfl, rfl⟩
/-- a dimension is left -/
theorem left_any {w : World} {a : Option Addr} {l : List Bool} (h : Bools w a l) (cap : Nat) (bb : Nat) (hc : w.cell? ⟨bb, 0, none⟩ = some (.slice a l.length cap)) (i : Nat) (hi : i < l.length) (W : World) (hb : Below w.heap.size w W) :
    Calls Try.prog 91 (#[.int .i64 i] ++ #[.pointer (some ⟨bb, 0, none⟩)]) W fun e w' => e = .returned (.bool (!l.getD i false)) ∧ W = w' := by
  have hc' := pred_cells hb hc
  obtain ⟨g, off, rfl, hcs⟩ := (h.keep hb).at_ (ne_nil_of_lt hi)
  have c0 := hcs i hi
  have hlen := h.len
  have e1 : l.getD i false = l[i] := by simp [List.getD, hi]
  rw [e1]
  clear hcs hc h hb e1
  show Calls Try.prog 91 #[.int .i64 i, .pointer (some ⟨bb, 0, none⟩)] W _
  go_enter Try.func91, Try.ntmps91
  go_wp2
  go_ret
  exact ⟨rfl, rfl⟩
end Go.Proofs.Ytoloiingodigpaa
