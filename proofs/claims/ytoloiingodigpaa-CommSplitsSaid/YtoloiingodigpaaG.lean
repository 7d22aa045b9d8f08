import Derived.Test.YtoloiingodigpaaF
import Derived.Lib.AppendZeros
import Derived.Laws.AppendOwnNone
namespace Go.Proofs.Ytoloiingodigpaa
open Go.RowKit Go.Shelf
attribute [local go_sem] Oper.semAt_some litE

theorem Ints.nth {W : World} {b : Nat} {o : Nat} {l : List Int} (h : Ints W (some ⟨b, o, none⟩) l) : ∀ j u, (l.map (Value.int .i64))[j]? = some u → W.cell? ((⟨b, o, none⟩ : Addr).add j) = some u := fun j u hj => by
  rw [Addr.add_lit]
  have hjl : j < l.length := by have := (List.getElem?_eq_some_iff.1 hj).1; simpa using this
  obtain ⟨b', o', e, hc⟩ := h.at_ (ne_nil_of_lt hjl)
  cases e
  rw [hc j hjl]
  simpa [hjl] using hj

theorem Ints.news {W : World} {x : Addr} {l : List Int} (h : Ints W (some x) l) : ∀ j u, (l.map (Value.int .i64))[j]? = some u → W.cell? (x.add j) = some u := fun j u hj => by
  have hjl : j < l.length := by have := (List.getElem?_eq_some_iff.1 hj).1; simpa using this
  obtain ⟨b', o', e, hc⟩ := h.at_ (ne_nil_of_lt hjl)
  cases e
  rw [Addr.add_lit, hc j hjl]
  simpa [hjl] using hj

/-- the elements of a slice behind those of an own one -/
theorem append_ints {W : World} {base : Nat} {v : Value} {n : Nat} {xs : List Value} (hown : W.ownsRow base 3 1 v n xs) {a : Option Addr} {l : List Int} (h : Ints W a l) (cap : Nat) (hcap : a = none → cap = 0) (hn : n + l.length ≤ 17592186044416) (hbase : base ≤ W.heap.size) :
    ∃ v' w', (Builtin.append_ #[22, 22] 22 #[v, .slice a l.length cap]).run Try.prog W = .ok v' w' ∧ w'.ownsRow base 3 1 v' (n + l.length) (xs ++ l.map (Value.int .i64)) ∧ W.grownBy w' v.ownBlock := by
  obtain ⟨i0, hi, hz0, hz1, hz2⟩ := info_parts Try.info3
  cases a with
  | none =>
    have hl : l = [] := by
      by_cases hl : l = []
      · exact hl
      · obtain ⟨b, o, e, _⟩ := h.at_ hl; cases e
    subst hl
    obtain rfl := hcap rfl
    exact ⟨v, W, run_append_owned_none W base 22 22 3 i0 1 Try.underlying22 hi v n xs hown, by simpa using hown, ⟨rfl, rfl, rfl, Nat.le_refl _, fun _ _ _ => rfl⟩⟩
  | some x =>
    obtain ⟨v', w', h1, h2, h3, _⟩ := run_append_own (P := Try.prog) (w := W) base 22 22 3 i0 (.int .i64 0) 1 8 Try.underlying22 hi hz0 hz1 hz2 rfl (by decide) v n xs hown x l.length cap (l.map (Value.int .i64)) (by simp) h.news
      (by intro u hu; obtain ⟨y, _, rfl⟩ := List.mem_map.1 hu; rfl) (by unfold maxLen; omega) (by omega) hbase
    exact ⟨v', w', h1, h2, h3⟩

set_option maxRecDepth 100000 in
/-- slices.Grow(nil, n): nil, or an empty slice with room -/
theorem grow_nil (w : World) (n : Nat) (hn : n ≤ 17592186044416) :
    Calls Try.prog 107 #[.slice none 0 0, .int .i64 n] w fun e w' => ∃ v, e = .returned v ∧ w'.ownsRow w.heap.size 3 1 v 0 [] ∧ Below w.heap.size w w' := by
  obtain ⟨i0, hi, hz0, hz1, hz2⟩ := info_parts Try.info3
  by_cases h0 : n = 0
  · subst h0
    go_enter Try.func107, Try.ntmps107
    go_wp2
    go_ret
    exact ⟨_, rfl, World.ownsRow_nil _ _ _ _, Below.refl _ _⟩
  · have hpos : 0 < n := by omega
    have hpos' : (0 : Int) < n := by omega
    have hr := Lib.run_append_nil_zeros (P := Try.prog) w 22 3 22 3 i0 (.int .i64 0) .i64 .i64 Try.underlying22 Try.underlying3 hi hz0 n hpos (by omega) (by omega) (by rw [hz2]; omega)
    have hge := grownCap_ge w n 0 3
    have hle := grownCap_le_maxLen w n 0 3 (by unfold maxLen; omega)
    have hs : (Builtin.zeroCells (Value.int .i64 0).cells n ++ Builtin.zeroCells (Value.int .i64 0).cells (grownCap w n 0 3 - n)).size = grownCap w n 0 3 * 1 := by
      rw [Array.size_append, size_zeroCells, size_zeroCells, show (Value.int .i64 0).cells.size = 1 from rfl]; omega
    generalize Builtin.zeroCells (Value.int .i64 0).cells n ++ Builtin.zeroCells (Value.int .i64 0).cells (grownCap w n 0 3 - n) = cs at *
    generalize grownCap w n 0 3 = cp at *
    have HR := Lib.hid hr
    have HS := Lib.hid hs
    clear hr hs
    go_enter Try.func107, Try.ntmps107
    go_wp2_with (at_builtin; refine Lib.wpList_append_run _ rfl (.tmp 20) (.tmp 21) 22 3 rfl _ _ rfl rfl _ _ HR.out ?_)
    go_ret
    refine ⟨_, rfl, ⟨by simp, .inr ⟨w.heap.size, cp, cs, rfl, Nat.le_refl _, ?_, Nat.zero_le _, hle, HS.out, by simp⟩⟩, ?_⟩
    · exact heap_alloc_new w.drew _
    · exact (Below.refl _ _).drew.alloc (Nat.le_refl _) _

set_option maxRecDepth 100000 in
set_option maxHeartbeats 1000000 in
/-- slices.Concat of two slices -/
theorem concat_two {w : World} {a b : Option Addr} {l m : List Int} (h : Ints w a l) (hm : Ints w b m) (cap cap' : Nat) (hcap : a = none → cap = 0) (hcap' : b = none → cap' = 0) (hlm : l.length + m.length ≤ 17592186044416) (g : Nat)
    (c0 : w.cell? ⟨g, 0, none⟩ = some (.slice a l.length cap)) (c1 : w.cell? ⟨g, 1, none⟩ = some (.slice b m.length cap')) :
    Calls Try.prog 62 #[.slice (some ⟨g, 0, none⟩) 2 2] w fun e w' => ∃ v, e = .returned v ∧ NewInts w.heap.size w' v (l ++ m) ∧ Below w.heap.size w w' := by
  have hgrow := grow_nil w (l.length + m.length) hlm
  rw [Int.natCast_add] at hgrow
  have HG : Hid (∀ r : List Int, r.length ≤ 17592186044416 → r.length ≤ 17592186044416) := fun r h => h
  have hgl := block_lt_of_cell c0
  go_enter Try.func62, Try.ntmps62
  go_wp2_with fail
  go_loop [3, 5, 11] (fun s _ i => ∃ (k : Nat), k ≤ 2 ∧ i = .int .i64 k ∧ s = .int .i64 (if k = 0 then 0 else if k = 1 then (l.length : Int) else l.length + m.length)) (fun _ _ i => 2 - (intOf i).toNat)
  case atStart => exact ⟨0, by omega, rfl, rfl⟩
  case round =>
    obtain ⟨k, hk, rfl, rfl⟩ := hrel
    have hk3 : k = 0 ∨ k = 1 ∨ k = 2 := by omega
    rcases hk3 with rfl | rfl | rfl
    · go_wp2_with fail
      go_round
      case rel => exact ⟨1, by omega, rfl, by simp⟩
      case measure => simp [intOf]
    · go_wp2_with fail
      go_round
      case rel => exact ⟨2, by omega, rfl, by simp⟩
      case measure => simp [intOf]
    · go_wp2_with fail
      refine hgrow.mono ?_
      rintro e W ⟨v, rfl, hown, hb⟩
      have hz := hb.size
      have H0 := Lib.hid hown
      clear hown hgrow
      go_wp2_with fail
      go_loopw [6, 8, 27] (fun t _ i wr => ∃ (k : Nat), k ≤ 2 ∧ i = .int .i64 k ∧ Hid (wr.ownsRow w.heap.size 3 1 t (([l, m].take k).flatten).length ((([l, m].take k).flatten).map (Value.int .i64))) ∧ Below w.heap.size w wr) (fun _ _ i _ => 2 - (intOf i).toNat)
      case atStart => exact ⟨0, by omega, rfl, H0.out, hb⟩
      case round =>
        obtain ⟨k, hk, rfl, HO, hbr⟩ := hrel
        have hzr := hbr.size
        have hk3 : k = 0 ∨ k = 1 ∨ k = 2 := by omega
        rcases hk3 with rfl | rfl | rfl
        · have d0 := (hbr.cell (p := ⟨g, 0, none⟩) hgl).trans c0
          obtain ⟨v', w', hr, ho, hg⟩ := append_ints HO.out (h.keep hbr) cap hcap (by simp; omega) hzr
          have HR := Lib.hid hr
          have hb1 := grow_below hbr HO.out hg hzr
          have HO1 : Hid (w'.ownsRow w.heap.size 3 1 v' (([l, m].take 1).flatten).length ((([l, m].take 1).flatten).map (Value.int .i64))) := by show World.ownsRow _ _ _ _ _ _ _; simpa using ho
          clear hr ho hg
          go_wp2_with (at_builtin; refine Lib.wpList_append_run _ rfl (.tmp 31) (.tmp 32) 22 22 rfl _ _ rfl rfl _ _ HR.out ?_)
          go_roundw
          case rel => exact ⟨1, by omega, rfl, HO1, hb1⟩
          case measure => simp [intOf]
        · have d0 := (hbr.cell (p := ⟨g, 1, none⟩) hgl).trans c1
          obtain ⟨v', w', hr, ho, hg⟩ := append_ints HO.out (hm.keep hbr) cap' hcap' (by simp; omega) hzr
          have HR := Lib.hid hr
          have hb1 := grow_below hbr HO.out hg hzr
          have HO1 : Hid (w'.ownsRow w.heap.size 3 1 v' (([l, m].take 2).flatten).length ((([l, m].take 2).flatten).map (Value.int .i64))) := by show World.ownsRow _ _ _ _ _ _ _; simpa using ho
          clear hr ho hg
          go_wp2_with (at_builtin; refine Lib.wpList_append_run _ rfl (.tmp 31) (.tmp 32) 22 22 rfl _ _ rfl rfl _ _ HR.out ?_)
          go_roundw
          case rel => exact ⟨2, by omega, rfl, HO1, hb1⟩
          case measure => simp [intOf]
        · go_wp2_with fail
          go_ret
          have := HO.out
          exact ⟨_, rfl, ⟨by simpa using this, by simp; omega⟩, hbr⟩
end Go.Proofs.Ytoloiingodigpaa
