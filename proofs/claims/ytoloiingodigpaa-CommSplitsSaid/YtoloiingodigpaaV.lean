import Derived.Test.YtoloiingodigpaaU
import Derived.Test.YtoloiingodigpaaG
namespace Go.Proofs.Ytoloiingodigpaa
open Go.RowKit Go.Shelf
attribute [local go_sem] Oper.semAt_some
set_option maxRecDepth 100000
set_option maxHeartbeats 1000000

/-- what lies below m and below n is as it was -/
def BelowU (m n : Nat) (a b : World) : Prop := ∀ B, B ≤ m → B ≤ n → Below B a b
theorem BelowU.refl (m n : Nat) (a : World) : BelowU m n a a := fun _ _ _ => Below.refl _ _
theorem BelowU.trans {m n : Nat} {a b c : World} (h : BelowU m n a b) (k : BelowU m n b c) : BelowU m n a c := fun B h1 h2 => (h B h1 h2).trans (k B h1 h2)
theorem BelowU.of {m n : Nat} {a b : World} (h : Below a.heap.size a b) (hn : n ≤ a.heap.size) : BelowU m n a b := fun _ _ h2 => h.mono (Nat.le_trans h2 hn)
theorem BelowU.ofM {m n : Nat} {a b : World} (h : Below m a b) : BelowU m n a b := fun _ h1 _ => h.mono h1
theorem BelowU.setCell {m n : Nat} {a b : World} (h : BelowU m n a b) (go o : Nat) (hg : n ≤ go) (v : Value) : BelowU m n a (b.setCell ⟨go, o, none⟩ v) := fun B h1 h2 => (h B h1 h2).setCell (Nat.le_trans h2 hg) _

/-- whatever is cells is as it was -/
abbrev KP (w w' : World) : Prop := KeepP (fun _ => False) w w'

theorem Ints.keepP {w w' : World} {a : Option Addr} {l : List Int} (h : Ints w a l) (hb : KP w w') : Ints w' a l :=
  ⟨h.len, fun hl => by
    obtain ⟨b, off, ha, hc⟩ := h.at_ hl
    exact ⟨b, off, ha, fun j hj => hb.cell (hc j hj) (fun x => x)⟩⟩

theorem GrpVal.keepP {ex : Nat → Prop} {w w' : World} {v : Value} {g : List Int} (h : GrpVal ex w v g) (hb : KP w w') : GrpVal ex w' v g := by
  obtain ⟨a, cap, e, hi, hx⟩ := h
  exact ⟨a, cap, e, hi.keepP hb, hx⟩

theorem SpaceAt.keep {w w' : World} {sp m : Nat} {ex : Nat → Prop} {gs : List (List Int)} (h : SpaceAt ex w sp m gs) (hb : Below w.heap.size w w') : SpaceAt ex w' sp m gs := by
  obtain ⟨hbox, vs, hm, hl, hv⟩ := h
  refine ⟨(hb.block _ (Array.getElem?_eq_some_iff.1 hbox).1).trans hbox, vs, hm.keep hb hm.lt, hl, fun i g hg => ?_⟩
  obtain ⟨v, h1, h2⟩ := hv i g hg
  exact ⟨v, h1, h2.keepP (KeepP.of_below hb)⟩

theorem GrpVal.of_new {ex : Nat → Prop} {B : Nat} {w : World} {v : Value} {l : List Int} (h : NewInts B w v l) (hl : l ≠ []) (hex : ∀ b, B ≤ b → ¬ ex b) : GrpVal ex w v l := by
  obtain ⟨hx1, hx2⟩ := h.own
  rcases hx2 with ⟨_, h0⟩ | ⟨g, cap, cur, e, hB, _⟩
  · exact absurd (List.length_eq_zero_iff.1 h0) hl
  · obtain ⟨a, cap', e', hi⟩ := h.ints
    rw [e] at e'
    cases e'
    exact ⟨_, cap, e, hi, fun _ => hex g hB⟩

theorem GrpVal.of_row {ex : Nat → Prop} {w : World} {b : Nat} {l : List Int} (h : RowAt w b l) (hl : l.length ≤ 17592186044416) (hex : ¬ ex b) : GrpVal ex w (.slice (some ⟨b, 0, none⟩) l.length l.length) l :=
  ⟨_, _, rfl, h.ints hl, fun _ => hex⟩

theorem Ints.setCell {w : World} {a : Option Addr} {l : List Int} (h : Ints w a l) (b o : Nat) (v : Value) (hb : ∀ x, a = some x → l ≠ [] → x.block ≠ b) : Ints (w.setCell ⟨b, o, none⟩ v) a l :=
  ⟨h.len, fun hl => by
    obtain ⟨b', off, ha, hc⟩ := h.at_ hl
    refine ⟨b', off, ha, fun j hj => ?_⟩
    rw [← hc j hj]
    exact World.cell?_of_block (w := w) (heap_setCell_other _ _ _ _ (hb ⟨b', off, none⟩ ha hl))⟩

/-- a write into a block of the call's own -/
theorem SpaceAt.setCell {ex : Nat → Prop} {w : World} {sp m : Nat} {gs : List (List Int)} (h : SpaceAt ex w sp m gs) (b o : Nat) (v : Value) (hb : ex b) {L : List Int} (hR : RowAt w b L) : SpaceAt ex (w.setCell ⟨b, o, none⟩ v) sp m gs := by
  obtain ⟨hbox, vs, hm, hl, hv⟩ := h
  have h1 : sp ≠ b := fun e => by subst e; unfold RowAt at hR; rw [hbox] at hR; simp at hR
  have h2 : m ≠ b := fun e => by subst e; unfold RowAt at hR; unfold MapAt at hm; rw [hm] at hR; simp at hR
  refine ⟨(heap_setCell_other _ _ _ _ h1).trans hbox, vs, (heap_setCell_other _ _ _ _ h2).trans hm, hl, fun i g hg => ?_⟩
  obtain ⟨u, hu, a, cap, e, hi, hx⟩ := hv i g hg
  exact ⟨u, hu, a, cap, e, hi.setCell b o v (fun x ex' hn hb' => hx hn (by cases ex'; rw [hb']; exact hb)), hx⟩

/-- one more communicator -/
theorem SpaceAt.add {w : World} {sp m : Nat} {ex : Nat → Prop} {gs : List (List Int)} (h : SpaceAt ex w sp m gs) {v : Value} {g : List Int} (hg : GrpVal ex w v g) :
    ∃ vs, MapAt w m vs ∧ vs.length = gs.length ∧ SpaceAt ex (w.putObj m (.map (mapEs (vs ++ [v])) (vs ++ [v]).length)) sp m (gs ++ [g]) ∧ KP w (w.putObj m (.map (mapEs (vs ++ [v])) (vs ++ [v]).length)) := by
  obtain ⟨hbox, vs, hm, hl, hv⟩ := h
  have hk : KP w (w.putObj m (.map (mapEs (vs ++ [v])) (vs ++ [v]).length)) := KeepP.putObj w m _ _ hm rfl
  refine ⟨vs, hm, hl, ⟨hk.block _ _ hbox rfl (fun x => x), vs ++ [v], hm.put.1, by simp [hl], fun i x hx => ?_⟩, hk⟩
  by_cases hi : i < gs.length
  · rw [List.getElem?_append_left hi] at hx
    obtain ⟨u, h1, h2⟩ := hv i x hx
    refine ⟨u, ?_, h2.keepP hk⟩
    rw [List.getElem?_append_left (by omega)]; exact h1
  · have e : i = gs.length := by
      have := (List.getElem?_eq_some_iff.1 hx).1
      simp at this; omega
    subst e
    rw [List.getElem?_append_right (Nat.le_refl _)] at hx
    simp at hx
    subst hx
    exact ⟨v, by rw [List.getElem?_append_right (by omega), hl]; simp, hg.keepP hk⟩

theorem SpaceAt.cell {w : World} {sp m : Nat} {ex : Nat → Prop} {gs : List (List Int)} (h : SpaceAt ex w sp m gs) : w.cell? ⟨sp, 0, none⟩ = some (.map (some m)) := by
  rw [cell_of_row w sp 0 _ _ _ h.box]; rfl

theorem valid_ok {w : World} {sp m : Nat} {ex : Nat → Prop} {gs : List (List Int)} (h : SpaceAt ex w sp m gs) :
    Calls Try.prog 104 #[.pointer (some ⟨sp, 0, none⟩)] w fun e w' => e = .returned (.bool true) ∧ w = w' := by
  have hc := h.cell
  clear h
  go_enter Try.func104, Try.ntmps104
  have hne := run_neq_map_nil (P := Try.prog) w 58 3 22 (some m) Try.underlying58
  go_wp2
  go_ret
  exact ⟨rfl, rfl⟩

theorem valid_nil (w : World) :
    Calls Try.prog 104 #[.pointer none] w fun e w' => e = .returned (.bool false) ∧ w = w' := by
  go_enter Try.func104, Try.ntmps104
  go_wp2
  go_ret
  exact ⟨rfl, rfl⟩

theorem valid_zero {w : World} {sp : Nat} (h : w.cell? ⟨sp, 0, none⟩ = some (.map none)) :
    Calls Try.prog 104 #[.pointer (some ⟨sp, 0, none⟩)] w fun e w' => e = .returned (.bool false) ∧ w = w' := by
  have hne := run_neq_map_nil (P := Try.prog) w 58 3 22 none Try.underlying58
  go_enter Try.func104, Try.ntmps104
  go_wp2
  go_ret
  exact ⟨rfl, rfl⟩

/-- a space that is not valid -/
def BadSp (w : World) (p : Option Addr) : Prop := p = none ∨ ∃ sp, p = some ⟨sp, 0, none⟩ ∧ w.cell? ⟨sp, 0, none⟩ = some (.map none)

theorem BadSp.keep {w w' : World} {p : Option Addr} (h : BadSp w p) (hb : Below w.heap.size w w') : BadSp w' p := by
  rcases h with h | ⟨sp, h, hc⟩
  · exact .inl h
  · exact .inr ⟨sp, h, (hb.cell (p := ⟨sp, 0, none⟩) (block_lt_of_cell hc)).trans hc⟩

theorem valid_bad {w : World} {p : Option Addr} (h : BadSp w p) :
    Calls Try.prog 104 #[.pointer p] w fun e w' => e = .returned (.bool false) ∧ w = w' := by
  rcases h with rfl | ⟨sp, rfl, hc⟩
  · exact valid_nil w
  · exact valid_zero hc

theorem find_bad {w : World} {p : Option Addr} (h : BadSp w p) (c : Int) :
    Calls Try.prog 94 #[.pointer p, .int .i64 c] w fun e w' => e = .returned (.tuple #[.slice none 0 0, .int .i64 1]) ∧ w = w' := by
  have hv := valid_bad h
  clear h
  go_enter Try.func94, Try.ntmps94
  go_wp2_with (refine hv.mono ?_; rintro e w' ⟨rfl, rfl⟩)
  go_ret2
  exact ⟨rfl, rfl⟩

theorem find_ok {w : World} {sp m : Nat} {ex : Nat → Prop} {gs : List (List Int)} (h : SpaceAt ex w sp m gs) (c : Nat) (g : List Int) (hg : gs[c]? = some g) :
    Calls Try.prog 94 #[.pointer (some ⟨sp, 0, none⟩), .int .i64 c] w fun e w' => ∃ v, e = .returned (.tuple #[v, .int .i64 0]) ∧ GrpVal ex w v g ∧ w = w' := by
  have hv := valid_ok h
  have hc := h.cell
  obtain ⟨hbox, vs, hm, hl, hvs⟩ := h
  obtain ⟨v, h1, h2⟩ := hvs c g hg
  have hr := map_lookup hm (c : Int) true
  have e1 : mapGet vs (c : Int) = some v := by
    unfold mapGet
    rw [if_neg (by omega)]
    simpa using h1
  rw [e1] at hr
  have HG := Lib.hid h2
  clear hbox hm hl hvs h1 h2 e1 hg
  go_enter Try.func94, Try.ntmps94
  go_wp2_with (refine hv.mono ?_; rintro e w' ⟨rfl, rfl⟩)
  go_ret2
  exact ⟨v, rfl, HG.out, rfl⟩

theorem full_any {w : World} {sp m : Nat} {ex : Nat → Prop} {gs : List (List Int)} (h : SpaceAt ex w sp m gs) (hN : gs.length ≤ 64) (k : Nat) (hk : k ≤ 64) :
    Calls Try.prog 96 #[.pointer (some ⟨sp, 0, none⟩), .int .i64 k] w fun e w' => e = .returned (.bool (decide (64 < gs.length + k))) ∧ w = w' := by
  have hc := h.cell
  obtain ⟨hbox, vs, hm, hl, hvs⟩ := h
  have hsz : (mapEs vs).size = gs.length := by rw [← hl]; simp [mapEs]
  have hm' : w.heap[m]? = some (.map (mapEs vs) vs.length) := hm
  generalize mapEs vs = es at *
  have hln := run_len_map (P := Try.prog) (w := w) 58 3 m es vs.length (by kernel_rfl) hm'
  have e1 : (es.size : Int) = gs.length := by rw [hsz]
  clear hvs hbox hm
  go_enter Try.func96, Try.ntmps96
  go_wp2_with fail
  go_ret
  refine ⟨?_, rfl⟩
  congr 2
  simp; omega

theorem SpaceAt.some_ {w : World} {sp m : Nat} {ex : Nat → Prop} {gs : List (List Int)} (h : SpaceAt ex w sp m gs) : ∃ vs, MapAt w m vs ∧ vs.length = gs.length ∧ (∀ k, k < gs.length → ∃ a n cap, mapGet vs (k : Int) = some (.slice (some a) n cap)) := by
  obtain ⟨hbox, vs, hm, hl, hv⟩ := h
  refine ⟨vs, hm, hl, fun k hk => ?_⟩
  obtain ⟨v, h1, a, cap, rfl, _, _⟩ := hv k gs[k] (List.getElem?_eq_getElem hk)
  refine ⟨a, gs[k].length, cap, ?_⟩
  unfold mapGet
  rw [if_neg (by omega)]
  simpa using h1

theorem add_any {w : World} {sp m : Nat} {ex : Nat → Prop} {gs : List (List Int)} (h : SpaceAt ex w sp m gs) (h1 : 1 ≤ gs.length) (hN : gs.length ≤ 64) {v : Value} {g : List Int} (hg : GrpVal ex w v g) :
    Calls Try.prog 97 #[.pointer (some ⟨sp, 0, none⟩), v] w fun e w' => e = .returned (.int .i64 gs.length) ∧ SpaceAt ex w' sp m (gs ++ [g]) ∧ KP w w' ∧ w'.heap.size = w.heap.size ∧ Below m w w' := by
  have hc := h.cell
  obtain ⟨vs, hm, hl, hs⟩ := h.some_
  obtain ⟨vs', hm', hl', hA, hK⟩ := h.add hg
  have e : vs' = vs := by
    have := hm.symm.trans hm'
    simp at this
    have h2 : mapEs vs = mapEs vs' := this.1
    unfold mapEs at h2
    have h3 := congrArg (fun a => (a.toList.map MapEntry.val)) h2
    simpa [Function.comp_def] using h3.symm
  subst e
  have hins := map_insert hm v
  have hz := (hm.put (vs' := vs' ++ [v])).2.2
  have hbm := (hm.put (vs' := vs' ++ [v])).2.1
  generalize hW : w.putObj m (.map (mapEs (vs' ++ [v])) (vs' ++ [v]).length) = W at *
  have HA := Lib.hid hA
  have HK := Lib.hid hK
  have HS := Lib.hid hs
  have HM := Lib.hid hm
  have HZ := Lib.hid hz
  have HBM := Lib.hid hbm
  have HI : Hid (∀ k : Int, k = gs.length → (Instr.mapUpdate 58 (.map (some m)) (.int .i64 k) v).run Try.prog w = .ok () W) := fun k hk => by rw [hk, ← hl]; exact hins
  obtain ⟨N, hNe⟩ : ∃ N, N = gs.length := ⟨_, rfl⟩
  have HG : Hid (mapGet vs' (N : Int) = none) := by show _ = _; rw [hNe, ← hl]; exact mapGet_len vs'
  rw [← hNe] at h1 hN ⊢
  have HE := Lib.hid hNe
  clear hA hK hs hm hm' hl' hl h hg hW hins hz hNe hbm
  go_enter Try.func97, Try.ntmps97
  go_wp2_with fail
  go_loop [5] (fun i => ∃ k : Nat, 1 ≤ k ∧ k ≤ N ∧ i = .int .i64 k) (fun i => N - (intOf i).toNat)
  case atStart => exact ⟨1, by omega, h1, rfl⟩
  case round =>
    obtain ⟨k, hk1, hk, rfl⟩ := hrel
    by_cases hlt : k < N
    · obtain ⟨a, n, cap, hq⟩ := HS.out k (by have := HE.out; omega)
      have hr := map_lookup HM.out (k : Int) false
      rw [hq] at hr
      simp only [Bool.false_eq_true, if_false, Option.getD_some] at hr
      have hne := run_neq_slice_nil_any (P := Try.prog) w 22 3 (some a) n cap 0 0 Try.underlying22
      clear hq
      go_wp2_with fail
      go_round
      case rel => exact ⟨k + 1, by omega, by omega, by go_num⟩
      case measure => simp [intOf]; omega
    · have hkN : k = N := by omega
      subst hkN
      have hr := map_lookup HM.out (k : Int) false
      rw [HG.out] at hr
      simp only [Bool.false_eq_true, if_false, Option.getD_none] at hr
      have hne := run_neq_slice_nil_any (P := Try.prog) w 22 3 none 0 0 0 0 Try.underlying22
      have hi := HI.out (k : Int) (by rw [HE.out])
      clear hlt hk
      go_wp2_with fail
      go_ret
      exact ⟨rfl, HA.out, HK.out, HZ.out, HBM.out⟩

theorem clone_nil (w : World) : Calls Try.prog 95 #[.slice none 0 0] w fun e w' => e = .returned (.slice none 0 0) ∧ w = w' := by
  have hne := Lib.run_eql_slice_nil (P := Try.prog) w 22 3 none 0 0 0 0 Try.underlying22
  go_enter Try.func95, Try.ntmps95
  go_wp2
  go_ret
  exact ⟨rfl, rfl⟩

theorem clone_any {w : World} {a : Addr} {l : List Int} (h : Ints w (some a) l) (cap : Nat) :
    Calls Try.prog 95 #[.slice (some a) l.length cap] w fun e w' => ∃ v, e = .returned v ∧ NewInts w.heap.size w' v l ∧ Below w.heap.size w w' := by
  have hlen := h.len
  have hne := Lib.run_eql_slice_nil (P := Try.prog) w 22 3 (some a) l.length cap 0 0 Try.underlying22
  have hb0 : Below w.heap.size w (w.alloc (.cells #[] 3)) := (Below.refl _ _).alloc (Nat.le_refl _) _
  have hown : (w.alloc (.cells #[] 3)).ownsRow w.heap.size 3 1 (.slice (some ⟨w.heap.size, 0, none⟩) 0 0) 0 [] :=
    ⟨rfl, .inr ⟨w.heap.size, 0, #[], rfl, Nat.le_refl _, heap_alloc_new w _, Nat.le_refl _, Nat.zero_le _, rfl, rfl⟩⟩
  obtain ⟨v', w', hr, ho, hg⟩ := append_ints hown (h.keep hb0) cap (fun e => by cases e) (by omega) (by simp)
  have hb1 := grow_below hb0 hown hg (by simp)
  have HR := Lib.hid hr
  have HO : Hid (NewInts w.heap.size w' v' l) := ⟨by simpa using ho, hlen⟩
  clear hr ho hg hown hb0
  go_enter Try.func95, Try.ntmps95
  go_wp2_with (at_builtin; refine Lib.wpList_append_run _ rfl (.tmp 5) (.tmp 6) 22 22 rfl _ _ rfl rfl _ _ HR.out ?_)
  go_ret
  exact ⟨v', rfl, HO.out, hb1⟩
end Go.Proofs.Ytoloiingodigpaa
