import Derived.Test.YtjcdnaandbockaaGreatGb
import Derived.RangeFuncNested
import Derived.RangeFuncBound
import Derived.RangeFuncCalls
import Derived.RangeFuncLeaves
import Derived.Shelf.Abstract
import Derived.Shelf.RegionOpen
import Derived.OwnWalkIn
import Derived.TacticsInMore
import Derived.LoopNIn
import Derived.LoopIn
import Derived.Shelf.Strconv.Itoa0
import Derived.Lib.ItoaNum
import Derived.RangeFuncOne
namespace Go.Proofs.YtjcdnaandbockaaGreat
open Go.RowKit Go.Shelf
attribute [local go_sem] Oper.semAt_some litZ litF0 fA_set2
set_option maxRecDepth 100000
set_option maxHeartbeats 1000000

/-- block b is a sum that was made -/
def AAt (w : World) (b : Nat) (f : Facts) : Prop := w.heap[b]? = some (.cells (#[.bool true] ++ fA f ++ #[]) 89 (0, 0))
theorem AAt.lt {w : World} {b : Nat} {f : Facts} (h : AAt w b f) : b < w.heap.size := (Array.getElem?_eq_some_iff.1 h).1
theorem AAt.made {w : World} {b : Nat} {f : Facts} (h : AAt w b f) : w.cell? ⟨b, 0, none⟩ = some (.bool true) := by
  rw [cell_of_row w b _ _ _ _ h, Array.append_assoc, Array.getElem?_append_left (by simp)]; rfl
theorem Sole.keepA {b c : Nat} {w w' : World} {f : Facts} (h : Sole b w w') (hc : AAt w c f) (hne : c ≠ b) : AAt w' c f := h.at_ hc hne
theorem AAt.keep {w w' : World} {b : Nat} {f : Facts} (h : AAt w b f) (hb : Below w.heap.size w w') : AAt w' b f := below_heapAt hb ⟨h.lt, h⟩

theorem valid_any {w : World} {b : Nat} {f : Facts} (h : AAt w b f) : Calls Tryz.prog 46 #[.pointer (some ⟨b, 0, none⟩)] w fun e w' => e = .returned (.bool true) ∧ w = w' := by
  have c0 := h.made
  go_enter Tryz.func46, Tryz.ntmps46
  go_wp2_with fail
  go_ret
  exact ⟨rfl, rfl⟩
theorem valid_nil (w : World) : Calls Tryz.prog 46 #[.pointer none] w fun e w' => e = .returned (.bool false) ∧ w = w' := by
  go_enter Tryz.func46, Tryz.ntmps46
  go_wp2_with fail
  go_ret
  exact ⟨rfl, rfl⟩
theorem valid_zero {w : World} {b : Nat} (c0 : w.cell? ⟨b, 0, none⟩ = some (.bool false)) : Calls Tryz.prog 46 #[.pointer (some ⟨b, 0, none⟩)] w fun e w' => e = .returned (.bool false) ∧ w = w' := by
  go_enter Tryz.func46, Tryz.ntmps46
  go_wp2_with fail
  go_ret
  exact ⟨rfl, rfl⟩

theorem ajoin_any {w : World} {b : Nat} {f g : Facts} (h : AAt w b f) (hf : f.Ok) (hg : g.Ok) :
    Calls Tryz.prog 47 #[.pointer (some ⟨b, 0, none⟩), .agg (fA g)] w fun e w' => e = .returned (.int .i64 (if fitN ((f.V + g.V) % big) = true then 0 else 14)) ∧ AAt w' b (if fitN ((f.V + g.V) % big) = true then joinF f g else f) ∧ Sole b w w' := by
  obtain ⟨ev, hev⟩ : ∃ ev : Int, ev = if fitN ((f.V + g.V) % big) = true then 0 else 14 := ⟨_, rfl⟩
  obtain ⟨FR, hFR⟩ : ∃ F : Facts, F = if fitN ((f.V + g.V) % big) = true then joinF f g else f := ⟨_, rfl⟩
  rw [← hev, ← hFR]
  have HE := Lib.hid hev
  have HFR := Lib.hid hFR
  clear hev hFR
  have hlt := h.lt
  obtain ⟨h1, h2, h3, h4⟩ := twoF g ⟨0, 0, 0⟩ w
  have hA0 : AAt ((w.alloc (.cells (fA g) 87)).alloc (.cells (fA ⟨0, 0, 0⟩) 87)) b f := h.keep h1
  have HA : Hid (AAt ((w.alloc (.cells (fA g) 87)).alloc (.cells (fA ⟨0, 0, 0⟩) 87)) b f) := hA0
  have HAB : Hid (AAt (w.alloc (.cells (fA g) 87)) b f) := h.keep ((Below.refl _ _).alloc (Nat.le_refl _) _)
  have H3 := Lib.hid h3
  have hA1 : AAt (((w.alloc (.cells (fA g) 87)).alloc (.cells (fA ⟨0, 0, 0⟩) 87)).setRow (w.heap.size + 1) (fA f)) b f := (Go.setRow_other _ _ _ _ (by omega)).trans hA0
  have hG1 : FAt (((w.alloc (.cells (fA g) 87)).alloc (.cells (fA ⟨0, 0, 0⟩) 87)).setRow (w.heap.size + 1) (fA f)) w.heap.size g := (Go.setRow_other _ _ _ _ (by omega)).trans h2
  have hF1 : FAt (((w.alloc (.cells (fA g) 87)).alloc (.cells (fA ⟨0, 0, 0⟩) 87)).setRow (w.heap.size + 1) (fA f)) (w.heap.size + 1) f := setRow_heap _ _ _ _ 87 _ h3
  have hB1 : Below w.heap.size w (((w.alloc (.cells (fA g) 87)).alloc (.cells (fA ⟨0, 0, 0⟩) 87)).setRow (w.heap.size + 1) (fA f)) := h1.trans (below_setRow (Nat.le_succ _) _)
  have HA1 := Lib.hid hA1
  have HG1 := Lib.hid hG1
  have HF1 := Lib.hid hF1
  have HB1 := Lib.hid hB1
  have hz : ((((w.alloc (.cells (fA g) 87)).alloc (.cells (fA ⟨0, 0, 0⟩) 87)).setRow (w.heap.size + 1) (fA f))).heap.size = w.heap.size + 2 := by simp
  have HZ1 := Lib.hid hz
  clear h h1 h2 h3 h4 hA0 hA1 hG1 hF1 hB1 hz
  go_enter Tryz.func47, Tryz.ntmps47
  go_wp2_with (first
    | (refine wpList_load_part rfl 87 _ rfl b 1 rfl 89 #[.bool true] (fA f) #[] _ HAB.out rfl Tryz.underlying87 rfl (info40' _) ?_)
    | (refine wpList_load_part rfl 87 _ rfl b 1 rfl 89 #[.bool true] (fA f) #[] _ HA.out rfl Tryz.underlying87 rfl (info40' _) ?_)
    | (refine wpList_store_row rfl 87 _ _ rfl (w.heap.size + 1) (fA f) rfl rfl 87 _ H3.out (info40' _) (by simp) (fA_one _) ?_)
    | (refine wpList_load_row rfl 87 _ rfl w.heap.size rfl 87 _ _ _ HG1.out Tryz.underlying87 rfl (info40' _) ?_))
  clear HA HAB H3
  generalize (((w.alloc (.cells (fA g) 87)).alloc (.cells (fA ⟨0, 0, 0⟩) 87)).setRow (w.heap.size + 1) (fA f)) = W at *
  refine (join_any HF1.out hf hg).mono ?_
  rintro e Y ⟨rfl, hFY, hS⟩
  have HFY := Lib.hid hFY
  have HAY := Lib.hid (hS.keepA HA1.out (by omega))
  have HSB : Hid (Sole b w Y) := ⟨hS.os.trans HB1.out.os, hS.tape.trans HB1.out.tape, hS.output.trans HB1.out.output, Nat.le_trans HB1.out.size hS.size, fun k hk _ => (hS.block k (Nat.lt_of_lt_of_le hk HB1.out.size) (by omega)).trans (HB1.out.block k hk)⟩
  clear hFY hS
  cases hq : fitN ((f.V + g.V) % big) with
  | false =>
    have e1 := HE.out
    have e2 := HFR.out
    rw [hq] at e1 e2
    simp only [Bool.false_eq_true, if_false] at e1 e2
    subst e1 e2
    clear hq HE HFR
    go_wp2_with fail
    go_ret
    exact ⟨rfl, HAY.out, HSB.out⟩
  | true =>
    have e1 := HE.out
    have e2 := HFR.out
    rw [hq] at e1 e2
    simp only [if_true] at e1 e2
    subst e1 e2
    clear hq HE HFR
    go_wp2_with (first
      | (refine wpList_load_row rfl 87 _ rfl (w.heap.size + 1) rfl 87 _ _ _ HFY.out Tryz.underlying87 rfl (info40' _) ?_)
      | (refine wpList_store_part rfl 87 _ _ rfl b 1 (fA (joinF f g)) rfl rfl 89 #[.bool true] (fA f) #[] HAY.out rfl (info40' _) (by simp) (fA_one _) ?_))
    have hr : AAt (Y.setRow b (#[.bool true] ++ fA (joinF f g))) b (joinF f g) := by
      have := setRow_heap Y b _ (#[.bool true] ++ fA (joinF f g) ++ #[]) 89 _ HAY.out
      simpa [AAt] using this
    have hs := HSB.out.trans (Sole.row (#[.bool true] ++ fA (joinF f g)))
    go_ret
    exact ⟨rfl, hr, hs⟩
end Go.Proofs.YtjcdnaandbockaaGreat

namespace Go.Proofs.YtjcdnaandbockaaGreat
open Go.RowKit Go.Shelf

theorem litA : #[Value.bool true, Value.int IntKind.u64 0, Value.int IntKind.u64 0, Value.int IntKind.u64 0, Value.int IntKind.u64 0, Value.int IntKind.u64 0, Value.int IntKind.u64 0, Value.int IntKind.u64 0, Value.int IntKind.u64 0, Value.int IntKind.u64 0, Value.int IntKind.u64 0, Value.int IntKind.u64 0, Value.int IntKind.u64 0, Value.int IntKind.u64 0, Value.int IntKind.u64 0, Value.int IntKind.u64 0, Value.int IntKind.u64 0, Value.int IntKind.u64 0, Value.int IntKind.u64 0, Value.int IntKind.u64 0, Value.int IntKind.u64 0, Value.int IntKind.u64 0, Value.int IntKind.u64 0, Value.int IntKind.u64 0, Value.int IntKind.u64 0, Value.int IntKind.u64 0, Value.int IntKind.u64 0, Value.int IntKind.u64 0, Value.int IntKind.u64 0, Value.int IntKind.u64 0, Value.int IntKind.u64 0, Value.int IntKind.u64 0, Value.int IntKind.u64 0, Value.int IntKind.u64 0, Value.int IntKind.u64 0, Value.int IntKind.u64 0, Value.int IntKind.u64 0, Value.int IntKind.u8 0, Value.int IntKind.u8 0] = #[.bool true] ++ fA ⟨0, 0, 0⟩ := by rw [← litF0]; rfl
theorem litA0 : #[Value.bool false, Value.int IntKind.u64 0, Value.int IntKind.u64 0, Value.int IntKind.u64 0, Value.int IntKind.u64 0, Value.int IntKind.u64 0, Value.int IntKind.u64 0, Value.int IntKind.u64 0, Value.int IntKind.u64 0, Value.int IntKind.u64 0, Value.int IntKind.u64 0, Value.int IntKind.u64 0, Value.int IntKind.u64 0, Value.int IntKind.u64 0, Value.int IntKind.u64 0, Value.int IntKind.u64 0, Value.int IntKind.u64 0, Value.int IntKind.u64 0, Value.int IntKind.u64 0, Value.int IntKind.u64 0, Value.int IntKind.u64 0, Value.int IntKind.u64 0, Value.int IntKind.u64 0, Value.int IntKind.u64 0, Value.int IntKind.u64 0, Value.int IntKind.u64 0, Value.int IntKind.u64 0, Value.int IntKind.u64 0, Value.int IntKind.u64 0, Value.int IntKind.u64 0, Value.int IntKind.u64 0, Value.int IntKind.u64 0, Value.int IntKind.u64 0, Value.int IntKind.u64 0, Value.int IntKind.u64 0, Value.int IntKind.u64 0, Value.int IntKind.u64 0, Value.int IntKind.u8 0, Value.int IntKind.u8 0] = #[.bool false] ++ fA ⟨0, 0, 0⟩ := by rw [← litF0]; rfl
theorem litAset : (#[Value.bool false] ++ fA ⟨0, 0, 0⟩).setIfInBounds 0 (Value.bool true) = #[Value.bool true] ++ fA ⟨0, 0, 0⟩ := by
  rw [Array.setIfInBounds_append_left (by simp)]; rfl
theorem emptyF_ok : (⟨0, 0, 0⟩ : Facts).Ok := ⟨big_pos, by decide, by decide⟩
theorem factsN_ok {x : Nat} (hx : x < 18446744073709551616) : (factsN x).Ok := by
  unfold factsN
  split
  · exact ⟨big_pos, by decide, by decide⟩
  · rename_i hN
    split
    · exact ⟨big_pos, by decide, by decide⟩
    · rename_i h1
      split
      · exact ⟨big_pos, by decide, by decide⟩
      · rename_i h2
        split
        · exact ⟨big_pos, by decide, by decide⟩
        · refine ⟨?_, (by show 0 < 8; decide), (by show 2 ≤ 2; decide)⟩
          have hex : expN x < 2047 := by
            have h9 : ¬ 9218868437227405312 < x % 9223372036854775808 := by intro h; exact hN (by unfold nanB; exact decide_eq_true h)
            unfold expN; omega
          show exactN x < big
          unfold exactN
          split
          · exact opp_lt _
          · exact mag_lt hex
attribute [local go_sem] Oper.semAt_some litZ litF0 fA_set2 litA litA0 litAset
set_option maxRecDepth 100000
set_option maxHeartbeats 1000000

theorem New_any (w : World) : Calls Tryz.prog 20 #[] w fun e w' => e = .returned (.pointer (some ⟨w.heap.size, 0, none⟩)) ∧ AAt w' w.heap.size ⟨0, 0, 0⟩ ∧ Below w.heap.size w w' := by
  have hb : Below w.heap.size w (w.alloc (.cells (#[.bool true] ++ fA ⟨0, 0, 0⟩) 89)) := (Below.refl _ _).alloc (Nat.le_refl _) _
  have hA : AAt (w.alloc (.cells (#[.bool true] ++ fA ⟨0, 0, 0⟩) 89)) w.heap.size ⟨0, 0, 0⟩ := by
    have := heap_alloc_new w (.cells (#[.bool true] ++ fA ⟨0, 0, 0⟩) 89)
    simpa [AAt] using this
  have HA := Lib.hid hA
  have HB := Lib.hid hb
  clear hA hb
  go_enter Tryz.func20, Tryz.ntmps20
  go_wp2_with fail
  go_ret
  exact ⟨rfl, HA.out, HB.out⟩
def resE (f g : Facts) : Int := if fitN ((f.V + g.V) % big) = true then 0 else 14
def resF (f g : Facts) : Facts := if fitN ((f.V + g.V) % big) = true then joinF f g else f
theorem resF_ok {f g : Facts} (hf : f.Ok) (hg : g.Ok) : (resF f g).Ok := by unfold resF; split; exact joinF_ok hf hg; exact hf
theorem ajoin' {w : World} {b : Nat} {f g : Facts} (h : AAt w b f) (hf : f.Ok) (hg : g.Ok) :
    Calls Tryz.prog 47 #[.pointer (some ⟨b, 0, none⟩), .agg (fA g)] w fun e w' => e = .returned (.int .i64 (resE f g)) ∧ AAt w' b (resF f g) ∧ Sole b w w' := ajoin_any h hf hg
theorem Add_any {w : World} {b : Nat} {f : Facts} (h : AAt w b f) (hf : f.Ok) (x : Nat) (hx : x < 18446744073709551616) :
    Calls Tryz.prog 21 #[.pointer (some ⟨b, 0, none⟩), .int .u64 x] w fun e w' => e = .returned (.int .i64 (resE f (factsN x))) ∧ AAt w' b (resF f (factsN x)) ∧ Sole b w w' := by
  have hv := valid_any h
  have hfa := factsOf_any x hx w
  have hgo := factsN_ok hx
  have hlt := h.lt
  generalize factsN x = g at *
  have HA := Lib.hid h
  clear h
  go_enter Tryz.func21, Tryz.ntmps21
  go_wp2_with (with_reducible refine hv.mono ?_; rintro e w' ⟨rfl, rfl⟩)
  refine hfa.mono ?_
  rintro e Y ⟨rfl, hb⟩
  go_wp2_with fail
  refine (ajoin' (HA.out.keep hb) hf hgo).mono ?_
  rintro e Z ⟨rfl, hA, hS⟩
  have HZ := Lib.hid hA
  have HS : Hid (Sole b w Z) := (Sole.of_below hb).trans hS
  clear hA hS hb hfa hv
  go_wp2_with fail
  go_ret
  exact ⟨rfl, HZ.out, HS.out⟩
theorem Merge_any {w : World} {b d : Nat} {f g : Facts} (h : AAt w b f) (h2 : AAt w d g) (hf : f.Ok) (hg : g.Ok) :
    Calls Tryz.prog 23 #[.pointer (some ⟨b, 0, none⟩), .pointer (some ⟨d, 0, none⟩)] w fun e w' => e = .returned (.int .i64 (resE f g)) ∧ AAt w' b (resF f g) ∧ Sole b w w' := by
  have hv := valid_any h
  have hv2 := valid_any h2
  have HA := Lib.hid h
  have HD := Lib.hid h2
  clear h h2
  go_enter Tryz.func23, Tryz.ntmps23
  go_wp2_with (first
    | (with_reducible refine hv.mono ?_; rintro e w' ⟨rfl, rfl⟩)
    | (with_reducible refine hv2.mono ?_; rintro e w' ⟨rfl, rfl⟩)
    | (refine wpList_load_part rfl 87 _ rfl d 1 rfl 89 #[.bool true] (fA g) #[] _ HD.out rfl Tryz.underlying87 rfl (info40' _) ?_))
  refine (ajoin' HA.out hf hg).mono ?_
  rintro e Z ⟨rfl, hA, hS⟩
  have HZ := Lib.hid hA
  have HS := Lib.hid hS
  clear hA hS hv hv2
  go_wp2_with fail
  go_ret
  exact ⟨rfl, HZ.out, HS.out⟩
end Go.Proofs.YtjcdnaandbockaaGreat

namespace Go.Proofs.YtjcdnaandbockaaGreat
open Go.RowKit Go.Shelf
attribute [local go_sem] Oper.semAt_some litZ litF0 fA_set2 litA litA0 litAset
set_option maxRecDepth 100000
set_option maxHeartbeats 1000000

/-- p is a sum that is not valid, and stays so -/
def Bad (p : Value) (w : World) : Prop := ∀ W, Below w.heap.size w W → Calls Tryz.prog 46 #[p] W fun e w' => e = .returned (.bool false) ∧ W = w'
theorem Bad.keep {p : Value} {w w' : World} (h : Bad p w) (hb : Below w.heap.size w w') : Bad p w' := fun W hW => h W (hb.trans (hW.mono hb.size))
theorem bad_nil (w : World) : Bad (.pointer none) w := fun W _ => valid_nil W
theorem bad_zero {w : World} {b : Nat} (c0 : w.cell? ⟨b, 0, none⟩ = some (.bool false)) : Bad (.pointer (some ⟨b, 0, none⟩)) w := fun W hW => valid_zero (kcell hW c0)

theorem Add_bad {w : World} {p : Value} (hb : Bad p w) (x : Int) : Calls Tryz.prog 21 #[p, .int .u64 x] w fun e w' => e = .returned (.int .i64 1) ∧ w = w' := by
  have hv := hb w (Below.refl _ _)
  go_enter Tryz.func21, Tryz.ntmps21
  go_wp2_with (with_reducible refine hv.mono ?_; rintro e w' ⟨rfl, rfl⟩)
  go_ret
  exact ⟨rfl, rfl⟩
theorem Merge_bad {w : World} {p : Value} (hb : Bad p w) (q : Value) : Calls Tryz.prog 23 #[p, q] w fun e w' => e = .returned (.int .i64 1) ∧ w = w' := by
  have hv := hb w (Below.refl _ _)
  go_enter Tryz.func23, Tryz.ntmps23
  go_wp2_with (with_reducible refine hv.mono ?_; rintro e w' ⟨rfl, rfl⟩)
  go_ret
  exact ⟨rfl, rfl⟩
theorem Merge_bad2 {w : World} {p : Value} (hb : Bad p w) {b : Nat} {f : Facts} (h : AAt w b f) : Calls Tryz.prog 23 #[.pointer (some ⟨b, 0, none⟩), p] w fun e w' => e = .returned (.int .i64 1) ∧ w = w' := by
  have hv := hb w (Below.refl _ _)
  have hg := valid_any h
  go_enter Tryz.func23, Tryz.ntmps23
  go_wp2_with (first | (with_reducible refine hg.mono ?_; rintro e w' ⟨rfl, rfl⟩) | (with_reducible refine hv.mono ?_; rintro e w' ⟨rfl, rfl⟩))
  go_ret
  exact ⟨rfl, rfl⟩
theorem Value_bad {w : World} {p : Value} (hb : Bad p w)  : Calls Tryz.prog 30 #[p] w fun e w' => e = .returned (.int .u64 0) ∧ w = w' := by
  have hv := hb w (Below.refl _ _)
  go_enter Tryz.func30, Tryz.ntmps30
  go_wp2_with (with_reducible refine hv.mono ?_; rintro e w' ⟨rfl, rfl⟩)
  go_ret
  exact ⟨rfl, rfl⟩
theorem Copy_bad {w : World} {p : Value} (hb : Bad p w)  : Calls Tryz.prog 26 #[p] w fun e w' => e = .returned (.pointer none) ∧ w = w' := by
  have hv := hb w (Below.refl _ _)
  go_enter Tryz.func26, Tryz.ntmps26
  go_wp2_with (with_reducible refine hv.mono ?_; rintro e w' ⟨rfl, rfl⟩)
  go_ret
  exact ⟨rfl, rfl⟩
theorem Encode_bad {w : World} {p : Value} (hb : Bad p w)  : Calls Tryz.prog 27 #[p] w fun e w' => e = .returned (.tuple #[.slice none 0 0, .int .i64 1]) ∧ w = w' := by
  have hv := hb w (Below.refl _ _)
  go_enter Tryz.func27, Tryz.ntmps27
  go_wp2_with (with_reducible refine hv.mono ?_; rintro e w' ⟨rfl, rfl⟩)
  go_ret2
  exact ⟨rfl, rfl⟩
theorem Same_bad {w : World} {p : Value} (hb : Bad p w) (q : Value) : Calls Tryz.prog 32 #[p, q] w fun e w' => e = .returned (.bool false) ∧ Below w.heap.size w w' := by
  have hv : ∀ n, Calls Tryz.prog 46 #[p] (w.drewN n) fun e w' => e = .returned (.bool false) ∧ w' = w.drewN n := fun n => (hb _ (below_drewN (Below.refl _ _) n)).mono fun _ _ ⟨h1, h2⟩ => ⟨h1, h2.symm⟩
  go_enter Tryz.func32, Tryz.ntmps32
  go_wp2_with fail
  go_quiet (first | (go_at_call 46; refine Calls.quiet_of_same (hv _)))
  go_wp2_with fail
  go_ret
  exact ⟨rfl, below_drewN (Below.refl _ _) _⟩
theorem Same_bad2 {w : World} {p : Value} (hb : Bad p w) {b : Nat} {f : Facts} (h : AAt w b f) : Calls Tryz.prog 32 #[.pointer (some ⟨b, 0, none⟩), p] w fun e w' => e = .returned (.bool false) ∧ Below w.heap.size w w' := by
  have hv : ∀ n, Calls Tryz.prog 46 #[p] (w.drewN n) fun e w' => e = .returned (.bool false) ∧ w' = w.drewN n := fun n => (hb _ (below_drewN (Below.refl _ _) n)).mono fun _ _ ⟨h1, h2⟩ => ⟨h1, h2.symm⟩
  have hg : ∀ n, Calls Tryz.prog 46 #[.pointer (some ⟨b, 0, none⟩)] (w.drewN n) fun e w' => e = .returned (.bool true) ∧ w' = w.drewN n := fun n => (valid_any (h.keep (below_drewN (Below.refl _ _) n))).mono fun _ _ ⟨h1, h2⟩ => ⟨h1, h2.symm⟩
  go_enter Tryz.func32, Tryz.ntmps32
  go_wp2_with fail
  go_quiet (first | (go_at_call 46; first | (with_reducible refine Calls.quiet_of_same (hg _)) | (with_reducible refine Calls.quiet_of_same (hv _))))
  go_wp2_with fail
  go_ret
  exact ⟨rfl, below_drewN (Below.refl _ _) _⟩
theorem info42s : (Tryz.prog.info? 89).map (·.size) = some 39 := by kernel_rfl
theorem Copy_any {w : World} {b : Nat} {f : Facts} (h : AAt w b f) : Calls Tryz.prog 26 #[.pointer (some ⟨b, 0, none⟩)] w fun e w' => e = .returned (.pointer (some ⟨w.heap.size, 0, none⟩)) ∧ AAt w' w.heap.size f ∧ Below w.heap.size w w' := by
  have hv := valid_any h
  have h' : w.heap[b]? = some (.cells (#[.bool true] ++ fA f) 89 (0, 0)) := by simpa [AAt] using h
  have hb0 : Below w.heap.size w (w.alloc (.cells (#[.bool false] ++ fA ⟨0, 0, 0⟩) 89)) := (Below.refl _ _).alloc (Nat.le_refl _) _
  have hn := heap_alloc_new w (.cells (#[.bool false] ++ fA ⟨0, 0, 0⟩) 89)
  have i42 : ∀ g : Facts, ∀ v : Bool, (Tryz.prog.info? 89).map (·.size) = some (#[Value.bool v] ++ fA g).size := fun g v => by
    have : (#[Value.bool v] ++ fA g).size = 39 := by simp
    rw [this]; exact info42s
  have one42 : (#[Value.bool true] ++ fA f).all (·.oneCell') = true := by rw [Array.all_append, fA_one]; simp [Value.oneCell']
  have HH := Lib.hid h'
  have HN := Lib.hid hn
  have HB := Lib.hid hb0
  clear h h' hn hb0
  go_enter Tryz.func26, Tryz.ntmps26
  go_wp2_with (first
    | (with_reducible refine hv.mono ?_; rintro e w' ⟨rfl, rfl⟩)
    | (refine wpList_load_row rfl 89 _ rfl b rfl 89 _ _ _ HH.out Tryz.underlying89 rfl (i42 f true) ?_)
    | (refine wpList_store_row rfl 89 _ _ rfl w.heap.size (#[.bool true] ++ fA f) rfl rfl 89 _ HN.out (i42 f true) (by simp) one42 ?_))
  have hr := setRow_heap _ w.heap.size _ (#[.bool true] ++ fA f) 89 _ HN.out
  have hb := HB.out.trans (below_setRow (Nat.le_refl _) (#[.bool true] ++ fA f))
  go_ret
  exact ⟨rfl, by simpa [AAt] using hr, hb⟩
end Go.Proofs.YtjcdnaandbockaaGreat

namespace Go.Proofs.YtjcdnaandbockaaGreat
open Go.RowKit Go.Shelf
attribute [local go_sem] Oper.semAt_some litZ litF0 fA_set2
set_option maxRecDepth 100000
set_option maxHeartbeats 1000000

theorem ne_nil_of_lt {α : Type} {l : List α} {k : Nat} (h : k < l.length) : l ≠ [] := fun e => by rw [e] at h; cases h
/-- bytes in memory -/
structure Bs (w : World) (a : Option Addr) (l : List Nat) : Prop where
  len : l.length ≤ 17592186044416
  small : ∀ x ∈ l, x < 256
  at_ : l ≠ [] → ∃ b off, a = some ⟨b, off, none⟩ ∧ ∀ j (h : j < l.length), w.cell? ⟨b, off + j, none⟩ = some (.int .u8 (l[j] : Nat))
theorem Bs.keep {w w' : World} {a : Option Addr} {l : List Nat} (h : Bs w a l) (hb : Below w.heap.size w w') : Bs w' a l :=
  ⟨h.len, h.small, fun hl => by
    obtain ⟨b, off, ha, hc⟩ := h.at_ hl
    exact ⟨b, off, ha, fun j hj => (hb.cell (p := ⟨b, off + j, none⟩) (block_lt_of_cell (hc j hj))).trans (hc j hj)⟩⟩
/-- the byte j of a list, counted from its end -/
def rev (l : List Nat) (j : Nat) : Nat := l.getD (l.length - 1 - j) 0
theorem rev_lt {l : List Nat} (h : ∀ x ∈ l, x < 256) (j : Nat) : rev l j < 256 := by
  unfold rev
  rcases Nat.lt_or_ge (l.length - 1 - j) l.length with h1 | h1
  · rw [List.getD_eq_getElem?_getD, List.getElem?_eq_getElem h1]; exact h _ (List.getElem_mem h1)
  · rw [List.getD_eq_getElem?_getD, List.getElem?_eq_none h1]; decide
/-- the integer with some bytes, the highest one first -/
def wordsN (l : List Nat) : Nat := valB (rev l) l.length
theorem run_quo8 (k : Nat) (h : k ≤ 1000) (w : World) : (binOp .quo 3 (.int .i64 k) (.int .i64 8)).run Tryz.prog w = .ok (.int .i64 ((k / 8 : Nat) : Int)) w := by
  simp [go_sem]
  rw [IntKind.wrap_i64]; omega
theorem run_rem8 (k : Nat) (w : World) : (binOp .rem 3 (.int .i64 k) (.int .i64 8)).run Tryz.prog w = .ok (.int .i64 ((k % 8 : Nat) : Int)) w := by
  simp [go_sem]
  try rw [Int.tmod_eq_emod_of_nonneg (by omega)]
theorem run_mul8 (k : Nat) (h : k ≤ 1000) (w : World) : (binOp .mul 3 (.int .i64 k) (.int .i64 8)).run Tryz.prog w = .ok (.int .i64 ((k * 8 : Nat) : Int)) w := by
  simp [go_sem]
  rw [IntKind.wrap_i64]; omega
theorem run_sub (a b : Nat) (ha : a ≤ 1000) (hb : b ≤ a) (w : World) : (binOp .sub 3 (.int .i64 a) (.int .i64 b)).run Tryz.prog w = .ok (.int .i64 ((a - b : Nat) : Int)) w := by
  simp [go_sem]
  rw [IntKind.wrap_i64]; omega
theorem run_sub1 (a : Nat) (ha : a ≤ 1000) (hb : 1 ≤ a) (w : World) : (binOp .sub 3 (.int .i64 a) (.int .i64 1)).run Tryz.prog w = .ok (.int .i64 ((a - 1 : Nat) : Int)) w := run_sub a 1 ha hb w

theorem sem_conv {P : Program} {o : Oper} {a : Act} {w : World} {s d : TypeId} {x : Operand} {vx v : Value} (hop : o.op = .convert s d x) (hx : a.eval x = vx) (h : (convert s d vx).run P w = .ok v w) : (o.semAt none a.eval).run P w = .ok (.value v) w := by
  simp [Oper.semAt, hop, execOp, hx, h, Result.andThen]
theorem run_conv (x : Nat) (hx : x < 256) (w : World) : (convert 5 22 (.int .u8 x)).run Tryz.prog w = .ok (.int .u64 (x : Int)) w := by
  simp [go_sem]
  rw [IntKind.wrap_u64]; omega
theorem wordsOf_any {w : World} {a : Option Addr} {l : List Nat} (h : Bs w a l) (hl : l.length ≤ 280) (cap : Nat) :
    Calls Tryz.prog 78 #[.slice a l.length cap] w fun e w' => e = .returned (.agg (lA (limb (wordsN l)))) ∧ Below w.heap.size w w' := by
  obtain ⟨h1, h2, h3, h4⟩ := two38 (fun _ => 0) (fun _ => 0) w
  have HH := Lib.hid (h.keep h1)
  have HH0 := Lib.hid h
  have HBL : Hid (∀ b off, a = some ⟨b, off, none⟩ → l ≠ [] → b < w.heap.size) := fun b off e hne => by
    obtain ⟨b', off', e', hc⟩ := h.at_ hne
    rw [e] at e'
    cases e'
    exact block_lt_of_cell (hc 0 (List.length_pos_iff.2 hne))
  have HSM := Lib.hid h.small
  have HB := Lib.hid h1
  have Q0 := Lib.hid h2
  have Q1 := Lib.hid (wat0 h3)
  clear h h1 h2 h3 h4
  go_enter Tryz.func78, Tryz.ntmps78
  go_wp2_with fail
  generalize (w.alloc (.cells (lA fun _ => 0) 85)).alloc (.cells (lA fun _ => 0) 85) = w2 at *
  go_loopw [7] (fun i wr => ∃ k : Nat, k ≤ l.length ∧ i = .int .i64 k ∧ Hid (WAt wr (w.heap.size + 1) 85 #[] #[] (limb (valB (rev l) k))) ∧ Hid (wr.heap[w.heap.size]? = some (.cells (lA fun _ => 0) 85 (0, 0))) ∧ Hid (Below w.heap.size w wr) ∧ Hid (Bs wr a l)) (fun i _ => l.length - (intOf i).toNat)
  case atStart => exact ⟨0, Nat.zero_le _, rfl, Q1.out.congr (fun j _ => (limb_zero j).symm), Q0, HB, HH⟩
  case round =>
    obtain ⟨k, hk, rfl, HW, HQ, HBr, HBs⟩ := hrel
    by_cases hlt : k < l.length
    · have hltz : (k : Int) < (l.length : Int) := by omega
      have hl9 : l.length - 1 - k < l.length := by omega
      obtain ⟨bb, off, rfl, hc⟩ := HBs.out.at_ (ne_nil_of_lt hlt)
      have cx := hc (l.length - 1 - k) hl9
      have hbw := HBL.out bb off rfl (ne_nil_of_lt hlt)
      have hxr : rev l k = l[l.length - 1 - k] := by unfold rev; rw [List.getD_eq_getElem?_getD, List.getElem?_eq_getElem hl9]; rfl
      have hxl := rev_lt HSM.out k
      rw [← hxr] at cx
      have HNX : Hid (valB (rev l) (k + 1) = valB (rev l) k + rev l k * 2 ^ (8 * k)) := rfl
      have hSlt := valB_lt (rev l) (fun j => rev_lt HSM.out j) k
      obtain ⟨x, hx⟩ : ∃ x, x = rev l k := ⟨_, rfl⟩
      obtain ⟨S, hS⟩ : ∃ S, S = valB (rev l) k := ⟨_, rfl⟩
      rw [← hx] at cx hxl HNX
      rw [← hS] at HNX HW hSlt
      obtain ⟨n, hn⟩ : ∃ n, n = l.length := ⟨_, rfl⟩
      have HSH := Lib.hid (run_shl x (k % 8 * 8) (by omega))
      have HSE : Hid (x * 2 ^ (k % 8 * 8) % 18446744073709551616 = x * 2 ^ (k % 8 * 8)) := by
        show _ = _
        have : x * 2 ^ (k % 8 * 8) < 256 * 2 ^ 56 := by
          refine Nat.lt_of_lt_of_le (Nat.mul_lt_mul_of_pos_right hxl (Nat.two_pow_pos _)) (Nat.mul_le_mul_left _ (Nat.pow_le_pow_right (by decide) (by omega)))
        exact Nat.mod_eq_of_lt (by omega)
      have HOR := Lib.hid (run_or64 (limb S (k / 8)) (x * 2 ^ (k % 8 * 8) % 18446744073709551616) (limb_lt _ _) (Nat.mod_lt _ (by decide)))
      have HLB : Hid (∀ j, (if j = k / 8 then limb S (k / 8) ||| (x * 2 ^ (k % 8 * 8) % 18446744073709551616) else limb S j) = limb (S + x * 2 ^ (8 * k)) j) := fun j => by
        rw [HSE.out, limb_byte S x k j hSlt hxl]
        by_cases e : j = k / 8
        · rw [if_pos e, if_pos e, e]
        · rw [if_neg e, if_neg e]
      have hq8 : k / 8 < 36 := by omega
      have HK1 := Lib.hid (run_quo8 k (by omega))
      have HK2 := Lib.hid (run_rem8 k)
      have HK3 := Lib.hid (run_mul8 (k % 8) (by omega))
      have HK4 := Lib.hid (run_sub1 l.length (by omega) (by omega))
      have HK5 := Lib.hid (run_sub (l.length - 1) k (by omega) (by omega))
      have HCX := Lib.hid cx
      have hbb : bb < wr.heap.size := block_lt_of_cell cx
      have HQ8 := Lib.hid hq8
      have HCV := Lib.hid (run_conv x hxl)
      have HXL := Lib.hid hxl
      have HN9 := Lib.hid hl9
      clear hc cx hx hS hxr hn hSlt hq8 hxl hl9
      go_wp2_with fail
      refine (wpIn_wide (n := 0)).1 ?_
      refine region_det (by kernel_rfl) (I := fun listed a' w' => Hid (WAt w' (w.heap.size + 1) 85 #[] #[] (limb (if listed.getD 19 false = true then S + x * 2 ^ (8 * k) else S))) ∧ Hid (w'.heap[w.heap.size]? = some (.cells (lA fun _ => 0) 85 (0, 0))) ∧ Hid (Below w.heap.size w w') ∧ Hid (w'.cell? ⟨bb, off + (l.length - 1 - k), none⟩ = some (.int .u8 x)) ∧ Hid (listed.getD 17 false = true → listed.getD 3 false = true) ∧ Hid (listed.getD 19 false = true → listed.getD 3 false = true) ∧ a' = ⟨#[Value.slice (some (Addr.mk bb off none)) l.length cap, undef, Value.pointer (some (Addr.mk w.heap.size 0 none)), Value.pointer (some (Addr.mk (w.heap.size + 1) 0 none)), Value.int IntKind.i64 ↑k, Value.slice (some (Addr.mk bb off none)) l.length cap, Value.int IntKind.i64 ↑l.length, Value.int IntKind.i64 ↑k, Value.bool true, Value.int IntKind.i64 ↑k, (if listed.getD 0 false = true then Value.int IntKind.i64 ↑k else u10), (if listed.getD 1 false = true then Value.int IntKind.i64 (k / 8 : Nat) else u11), (if listed.getD 2 false = true then Value.pointer (some ⟨(w.heap.size + 1), (k / 8), none⟩) else u12), (if listed.getD 3 false = true then Value.int IntKind.u64 (limb S (k / 8) : Nat) else u13), (if listed.getD 4 false = true then Value.slice (some ⟨bb, off, none⟩) l.length cap else u14), (if listed.getD 5 false = true then Value.slice (some ⟨bb, off, none⟩) l.length cap else u15), (if listed.getD 6 false = true then Value.int IntKind.i64 ↑l.length else u16), (if listed.getD 7 false = true then Value.int IntKind.i64 (l.length - 1 : Nat) else u17), (if listed.getD 8 false = true then Value.int IntKind.i64 ↑k else u18), (if listed.getD 9 false = true then Value.int IntKind.i64 (l.length - 1 - k : Nat) else u19), (if listed.getD 10 false = true then Value.pointer (some ⟨bb, (off + (l.length - 1 - k)), none⟩) else u20), (if listed.getD 11 false = true then Value.int IntKind.u8 ↑x else u21), (if listed.getD 12 false = true then Value.int IntKind.u64 ↑x else u22), (if listed.getD 13 false = true then Value.int IntKind.i64 ↑k else u23), (if listed.getD 14 false = true then Value.int IntKind.i64 (k % 8 : Nat) else u24), (if listed.getD 15 false = true then Value.int IntKind.i64 (k % 8 * 8 : Nat) else u25), (if listed.getD 16 false = true then Value.int IntKind.u64 (x * 2 ^ (k % 8 * 8) % 18446744073709551616 : Nat) else u26), (if listed.getD 17 false = true then Value.int IntKind.u64 (limb S (k / 8) ||| (x * 2 ^ (k % 8 * 8) % 18446744073709551616) : Nat) else u27), (if listed.getD 18 false = true then Value.pointer (some ⟨(w.heap.size + 1), (k / 8), none⟩) else u28), u29, undef], []⟩) (hup_check (by kernel_rfl)) ?h0 ?step ?fin
      case h0 => exact ⟨HW.out, HQ.out, HBr.out.drew, HCX.out, (fun h => by simp at h), (fun h => by simp at h), rfl⟩
      case step =>
        intro listed a' w' i hs hbi hdep hi ⟨IW, IQ, IB, IC, J17, J19, ha⟩
        obtain ⟨ls⟩ := listed
        match ls, hs with
        | [x0, x1, x2, x3, x4, x5, x6, x7, x8, x9, x10, x11, x12, x13, x14, x15, x16, x17, x18, x19], _ =>
        subst ha
        have hi' : i = 0 ∨ i = 1 ∨ i = 2 ∨ i = 3 ∨ i = 4 ∨ i = 5 ∨ i = 6 ∨ i = 7 ∨ i = 8 ∨ i = 9 ∨ i = 10 ∨ i = 11 ∨ i = 12 ∨ i = 13 ∨ i = 14 ∨ i = 15 ∨ i = 16 ∨ i = 17 ∨ i = 18 ∨ i = 19 := by simp at hi; omega
        have e1 : (k : Int) / 8 < 36 := by have := HQ8.out; omega
        have e3 : (0 : Int) ≤ (k : Int) / 8 := by omega
        have e4 : ((k : Int) / 8).toNat = k / 8 := by omega
        have e2 : ((l.length - 1 - k : Nat) : Int) < (l.length : Int) := by have := HN9.out; omega
        rcases hi' with rfl | rfl | rfl | rfl | rfl | rfl | rfl | rfl | rfl | rfl | rfl | rfl | rfl | rfl | rfl | rfl | rfl | rfl | rfl | rfl
        · obtain rfl : x0 = false := by simpa using hbi
          refine wpOpIn_plain rfl rfl rfl ?_
          exact ⟨IW, IQ, IB, IC, J17, J19, rfl⟩
        · obtain rfl : x1 = false := by simpa using hbi
          obtain rfl : x0 = true := hdep _ rfl ⟨0, .data⟩ (by simp) rfl
          refine wpOpIn_plain (v := Value.int IntKind.i64 (k / 8 : Nat)) (w' := w') rfl rfl (sem_bin (vx := Value.int IntKind.i64 ↑k) (vy := Value.int IntKind.i64 8) rfl rfl rfl rfl (HK1.out w')) ?_
          exact ⟨IW, IQ, IB, IC, J17, J19, rfl⟩
        · obtain rfl : x2 = false := by simpa using hbi
          obtain rfl : x1 = true := hdep _ rfl ⟨1, .data⟩ (by simp) rfl
          refine wpOpIn_plain (v := Value.pointer (some ⟨(w.heap.size + 1), (k / 8), none⟩)) (w' := w') rfl rfl (by simp [Oper.semAt, execOp, go_sem, e1, e3, e4]) ?_
          exact ⟨IW, IQ, IB, IC, J17, J19, rfl⟩
        · obtain rfl : x3 = false := by simpa using hbi
          obtain rfl : x2 = true := hdep _ rfl ⟨2, .data⟩ (by simp) rfl
          obtain rfl : x19 = false := Bool.eq_false_iff.2 fun h => by have := J19.out h; cases this
          have iw : WAt w' (w.heap.size + 1) 85 #[] #[] (limb S) := IW.out
          have c0 := iw.cell0 (k / 8) HQ8.out
          refine wpOpIn_plain (v := Value.int IntKind.u64 (limb S (k / 8) : Nat)) (w' := w') rfl rfl (by simp [Oper.semAt, execOp, go_sem, c0]) ?_
          exact ⟨IW, IQ, IB, IC, (fun _ => rfl), (fun h => by cases h), rfl⟩
        · obtain rfl : x4 = false := by simpa using hbi
          refine wpOpIn_plain rfl rfl rfl ?_
          exact ⟨IW, IQ, IB, IC, J17, J19, rfl⟩
        · obtain rfl : x5 = false := by simpa using hbi
          refine wpOpIn_plain rfl rfl rfl ?_
          exact ⟨IW, IQ, IB, IC, J17, J19, rfl⟩
        · obtain rfl : x6 = false := by simpa using hbi
          obtain rfl : x5 = true := hdep _ rfl ⟨5, .data⟩ (by simp) rfl
          refine wpOpIn_plain (v := Value.int IntKind.i64 ↑l.length) (w' := w') rfl rfl (by simp [Oper.semAt, execOp, go_sem]) ?_
          exact ⟨IW, IQ, IB, IC, J17, J19, rfl⟩
        · obtain rfl : x7 = false := by simpa using hbi
          obtain rfl : x6 = true := hdep _ rfl ⟨6, .data⟩ (by simp) rfl
          refine wpOpIn_plain (v := Value.int IntKind.i64 (l.length - 1 : Nat)) (w' := w') rfl rfl (sem_bin (vx := Value.int IntKind.i64 ↑l.length) (vy := Value.int IntKind.i64 1) rfl rfl rfl rfl (HK4.out w')) ?_
          exact ⟨IW, IQ, IB, IC, J17, J19, rfl⟩
        · obtain rfl : x8 = false := by simpa using hbi
          refine wpOpIn_plain rfl rfl rfl ?_
          exact ⟨IW, IQ, IB, IC, J17, J19, rfl⟩
        · obtain rfl : x9 = false := by simpa using hbi
          obtain rfl : x7 = true := hdep _ rfl ⟨7, .data⟩ (by simp) rfl
          obtain rfl : x8 = true := hdep _ rfl ⟨8, .data⟩ (by simp) rfl
          refine wpOpIn_plain (v := Value.int IntKind.i64 (l.length - 1 - k : Nat)) (w' := w') rfl rfl (sem_bin (vx := Value.int IntKind.i64 (l.length - 1 : Nat)) (vy := Value.int IntKind.i64 ↑k) rfl rfl rfl rfl (HK5.out w')) ?_
          exact ⟨IW, IQ, IB, IC, J17, J19, rfl⟩
        · obtain rfl : x10 = false := by simpa using hbi
          obtain rfl : x4 = true := hdep _ rfl ⟨4, .data⟩ (by simp) rfl
          obtain rfl : x9 = true := hdep _ rfl ⟨9, .data⟩ (by simp) rfl
          refine wpOpIn_plain (v := Value.pointer (some ⟨bb, (off + (l.length - 1 - k)), none⟩)) (w' := w') rfl rfl (by simp [Oper.semAt, execOp, go_sem, e2]) ?_
          exact ⟨IW, IQ, IB, IC, J17, J19, rfl⟩
        · obtain rfl : x11 = false := by simpa using hbi
          obtain rfl : x10 = true := hdep _ rfl ⟨10, .data⟩ (by simp) rfl
          have c0 := IC.out
          refine wpOpIn_plain (v := Value.int IntKind.u8 ↑x) (w' := w') rfl rfl (by simp [Oper.semAt, execOp, go_sem, c0]) ?_
          exact ⟨IW, IQ, IB, IC, J17, J19, rfl⟩
        · obtain rfl : x12 = false := by simpa using hbi
          obtain rfl : x11 = true := hdep _ rfl ⟨11, .data⟩ (by simp) rfl
          refine wpOpIn_plain (v := Value.int IntKind.u64 ↑x) (w' := w') rfl rfl (sem_conv (vx := Value.int IntKind.u8 ↑x) rfl rfl (HCV.out w')) ?_
          exact ⟨IW, IQ, IB, IC, J17, J19, rfl⟩
        · obtain rfl : x13 = false := by simpa using hbi
          refine wpOpIn_plain rfl rfl rfl ?_
          exact ⟨IW, IQ, IB, IC, J17, J19, rfl⟩
        · obtain rfl : x14 = false := by simpa using hbi
          obtain rfl : x13 = true := hdep _ rfl ⟨13, .data⟩ (by simp) rfl
          refine wpOpIn_plain (v := Value.int IntKind.i64 (k % 8 : Nat)) (w' := w') rfl rfl (sem_bin (vx := Value.int IntKind.i64 ↑k) (vy := Value.int IntKind.i64 8) rfl rfl rfl rfl (HK2.out w')) ?_
          exact ⟨IW, IQ, IB, IC, J17, J19, rfl⟩
        · obtain rfl : x15 = false := by simpa using hbi
          obtain rfl : x14 = true := hdep _ rfl ⟨14, .data⟩ (by simp) rfl
          refine wpOpIn_plain (v := Value.int IntKind.i64 (k % 8 * 8 : Nat)) (w' := w') rfl rfl (sem_bin (vx := Value.int IntKind.i64 (k % 8 : Nat)) (vy := Value.int IntKind.i64 8) rfl rfl rfl rfl (HK3.out w')) ?_
          exact ⟨IW, IQ, IB, IC, J17, J19, rfl⟩
        · obtain rfl : x16 = false := by simpa using hbi
          obtain rfl : x12 = true := hdep _ rfl ⟨12, .data⟩ (by simp) rfl
          obtain rfl : x15 = true := hdep _ rfl ⟨15, .data⟩ (by simp) rfl
          refine wpOpIn_plain (v := Value.int IntKind.u64 (x * 2 ^ (k % 8 * 8) % 18446744073709551616 : Nat)) (w' := w') rfl rfl (sem_bin (vx := Value.int IntKind.u64 ↑x) (vy := Value.int IntKind.i64 (k % 8 * 8 : Nat)) rfl rfl rfl rfl (HSH.out w')) ?_
          exact ⟨IW, IQ, IB, IC, J17, J19, rfl⟩
        · obtain rfl : x17 = false := by simpa using hbi
          obtain rfl : x3 = true := hdep _ rfl ⟨3, .data⟩ (by simp) rfl
          obtain rfl : x16 = true := hdep _ rfl ⟨16, .data⟩ (by simp) rfl
          refine wpOpIn_plain (v := Value.int IntKind.u64 (limb S (k / 8) ||| (x * 2 ^ (k % 8 * 8) % 18446744073709551616) : Nat)) (w' := w') rfl rfl (sem_bin (vx := Value.int IntKind.u64 (limb S (k / 8) : Nat)) (vy := Value.int IntKind.u64 (x * 2 ^ (k % 8 * 8) % 18446744073709551616 : Nat)) rfl rfl rfl rfl (HOR.out w')) ?_
          exact ⟨IW, IQ, IB, IC, (fun _ => rfl), J19, rfl⟩
        · obtain rfl : x18 = false := by simpa using hbi
          obtain rfl : x1 = true := hdep _ rfl ⟨1, .data⟩ (by simp) rfl
          refine wpOpIn_plain (v := Value.pointer (some ⟨(w.heap.size + 1), (k / 8), none⟩)) (w' := w') rfl rfl (by simp [Oper.semAt, execOp, go_sem, e1, e3, e4]) ?_
          exact ⟨IW, IQ, IB, IC, J17, J19, rfl⟩
        · obtain rfl : x19 = false := by simpa using hbi
          obtain rfl : x18 = true := hdep _ rfl ⟨18, .data⟩ (by simp) rfl
          obtain rfl : x17 = true := hdep _ rfl ⟨17, .data⟩ (by simp) rfl
          have iw : WAt w' (w.heap.size + 1) 85 #[] #[] (limb S) := IW.out
          have c0 := iw.cell0 (k / 8) HQ8.out
          have f0 := iw.open_ (k / 8)
          have l0 := iw.lt
          refine wpOpIn_skip (w' := w'.setCell ⟨w.heap.size + 1, k / 8, none⟩ (Value.int IntKind.u64 (limb S (k / 8) ||| (x * 2 ^ (k % 8 * 8) % 18446744073709551616) : Nat))) rfl rfl (by simp [Oper.semAt, execOp, go_sem, c0, f0, l0]) ?_
          have hn := (iw.set (k / 8) (limb S (k / 8) ||| (x * 2 ^ (k % 8 * 8) % 18446744073709551616)) HQ8.out).congr (fun j _ => HLB.out j)
          simp only [Array.size_empty, List.size_toArray, List.length_nil, Nat.zero_add] at hn
          exact ⟨hn, ((heap_setCell_other _ _ _ _ (show w.heap.size ≠ w.heap.size + 1 by omega)).trans IQ.out), (IB.out.setCell (p := ⟨w.heap.size + 1, k / 8, none⟩) (Nat.le_succ _) _), ((World.cell?_of_block (heap_setCell_other _ _ _ _ (show bb ≠ w.heap.size + 1 by omega))).trans IC.out), J17, (fun _ => J17.out rfl), rfl⟩
      case fin =>
      intro listed a' Z hs hall ⟨IW, IQ, IB, IC, J17, J19, ha⟩
      obtain ⟨ls⟩ := listed
      match ls, hs with
      | [x0, x1, x2, x3, x4, x5, x6, x7, x8, x9, x10, x11, x12, x13, x14, x15, x16, x17, x18, x19], _ =>
      obtain rfl : x0 = true := hall 0 (by simp)
      obtain rfl : x1 = true := hall 1 (by simp)
      obtain rfl : x2 = true := hall 2 (by simp)
      obtain rfl : x3 = true := hall 3 (by simp)
      obtain rfl : x4 = true := hall 4 (by simp)
      obtain rfl : x5 = true := hall 5 (by simp)
      obtain rfl : x6 = true := hall 6 (by simp)
      obtain rfl : x7 = true := hall 7 (by simp)
      obtain rfl : x8 = true := hall 8 (by simp)
      obtain rfl : x9 = true := hall 9 (by simp)
      obtain rfl : x10 = true := hall 10 (by simp)
      obtain rfl : x11 = true := hall 11 (by simp)
      obtain rfl : x12 = true := hall 12 (by simp)
      obtain rfl : x13 = true := hall 13 (by simp)
      obtain rfl : x14 = true := hall 14 (by simp)
      obtain rfl : x15 = true := hall 15 (by simp)
      obtain rfl : x16 = true := hall 16 (by simp)
      obtain rfl : x17 = true := hall 17 (by simp)
      obtain rfl : x18 = true := hall 18 (by simp)
      obtain rfl : x19 = true := hall 19 (by simp)
      subst ha
      have iw : Hid (WAt Z (w.heap.size + 1) 85 #[] #[] (limb (valB (rev l) (k + 1)))) := by rw [HNX.out]; exact IW
      have bs := Lib.hid (HH0.out.keep IB.out)
      clear IW J17 J19 IC hall hs
      dsimp only [Exit.then, Exit.inBlock]
      go_wp2_with fail
      go_roundw
      case rel => exact ⟨k + 1, by omega, by go_num, iw, IQ, IB, bs⟩
      case measure => simp [intOf]; omega
    · have hkl : k = l.length := by omega
      subst hkl
      have HV : Hid (wr.heap[w.heap.size + 1]? = some (.cells (lA (limb (wordsN l))) 85 (0, 0))) := HW.out.plain
      go_wp2_with (first
        | (refine wpList_load_row rfl 85 _ rfl (w.heap.size + 1) rfl 85 _ _ _ HV.out und38 rfl (info38' _) ?_)
        | (refine wpList_store_row rfl 85 _ _ rfl w.heap.size (lA (limb (wordsN l))) rfl rfl 85 _ HQ.out (info38' _) (by simp) (lA_one _) ?_))
      have hr := setRow_heap wr w.heap.size _ (lA (limb (wordsN l))) 85 _ HQ.out
      have hb9 := HBr.out.trans (below_setRow (Nat.le_refl w.heap.size) (lA (limb (wordsN l))))
      generalize wr.setRow w.heap.size (lA (limb (wordsN l))) = Z9 at *
      refine bodyPost_ret (v := .agg (lA (limb (wordsN l)))) ?_ rfl ⟨rfl, hb9⟩
      simp [results, Act.put, run_loadVar_row Z9 _ 85 85 _ _ _ hr und38 rfl (info38' _), Tryz.results78, asAddr]
end Go.Proofs.YtjcdnaandbockaaGreat

namespace Go.Proofs.YtjcdnaandbockaaGreat
open Go.RowKit Go.Shelf
attribute [local go_sem] Oper.semAt_some litZ litF0 fA_set2
set_option maxRecDepth 100000
set_option maxHeartbeats 1000000

theorem nonzero_any (x : Nat) (w : World) : Calls Tryz.prog 124 #[.int .u64 x] w fun e w' => e = .returned (.bool (decide (x ≠ 0))) ∧ w = w' := by
  have HD : Hid (((x : Int) != 0) = decide (x ≠ 0)) := by
    show _ = _
    by_cases h : x = 0
    · subst h; rfl
    · rw [decide_eq_true h, bne_iff_ne]; omega
  go_enter Tryz.func124, Tryz.ntmps124
  go_wp2_with fail
  go_ret
  exact ⟨by rw [← HD.out]; rfl, rfl⟩
theorem indexOf_any {w : World} {b : Nat} {t : TypeId} {post : Array Value} {f : Nat → Nat} (h : WAt w b t #[] post f) (n cap : Nat) (hn : n ≤ 36) :
    Calls Tryz.prog 128 #[.slice (some ⟨b, 0, none⟩) n cap, .func (.func 124) #[] #[]] w fun e w' => ∃ r : Int, e = .returned (.int .i64 r) ∧ w = w' ∧ (0 ≤ r ↔ ∃ j, j < n ∧ f j ≠ 0) := by
  go_enter Tryz.func128, Tryz.ntmps128
  go_wp2_with fail
  go_loop [8] (fun i => ∃ k : Nat, k ≤ n ∧ i = .int .i64 k ∧ Hid (∀ j, j < k → f j = 0)) (fun i => n - (intOf i).toNat)
  case atStart => exact ⟨0, Nat.zero_le _, rfl, fun j hj => absurd hj (Nat.not_lt_zero _)⟩
  case round =>
    obtain ⟨k, hk, rfl, HK⟩ := hrel
    by_cases hlt : k < n
    · have hltz : (k : Int) < (n : Int) := by omega
      have c0 := h.cell0 k (by omega)
      have hcl := nonzero_any (f k) w
      by_cases hz : f k = 0
      · rw [show decide (f k ≠ 0) = false by simp [hz]] at hcl
        have HK2 : Hid (∀ j, j < k + 1 → f j = 0) := fun j hj => by
          by_cases e : j = k
          · rw [e]; exact hz
          · exact HK.out j (by omega)
        clear hz
        go_wp2_with (with_reducible refine hcl.mono ?_; rintro e w' ⟨rfl, rfl⟩)
        go_round
        case rel => exact ⟨k + 1, by omega, by go_num, HK2⟩
        case measure => simp [intOf]; omega
      · rw [show decide (f k ≠ 0) = true by simp [hz]] at hcl
        have HR : Hid (∃ j, j < n ∧ f j ≠ 0) := ⟨k, hlt, hz⟩
        clear hz
        go_wp2_with (with_reducible refine hcl.mono ?_; rintro e w' ⟨rfl, rfl⟩)
        go_ret
        exact ⟨k, rfl, rfl, fun _ => HR.out, fun _ => by omega⟩
    · have hkn : k = n := by omega
      subst hkn
      go_wp2_with fail
      go_ret
      exact ⟨-1, rfl, rfl, fun h9 => absurd h9 (by decide), fun ⟨j, hj, hne⟩ => absurd (HK.out j hj) hne⟩
theorem contains_any {w : World} {b : Nat} {t : TypeId} {post : Array Value} {f : Nat → Nat} (h : WAt w b t #[] post f) (n cap : Nat) (hn : n ≤ 36) (r : Bool) (hr : r = true ↔ ∃ j, j < n ∧ f j ≠ 0) :
    Calls Tryz.prog 123 #[.slice (some ⟨b, 0, none⟩) n cap, .func (.func 124) #[] #[]] w fun e w' => e = .returned (.bool r) ∧ w = w' := by
  have hi := indexOf_any h n cap hn
  go_enter Tryz.func123, Tryz.ntmps123
  go_wp2_with fail
  refine hi.mono ?_
  rintro e w' ⟨q, rfl, rfl, hq⟩
  have HQ : Hid (decide ((0 : Int) ≤ q) = r) := by
    show _ = _
    cases hb : r with
    | true => exact decide_eq_true (hq.2 (hr.1 hb))
    | false => exact decide_eq_false (fun h0 => by have := hr.2 (hq.1 h0); rw [hb] at this; cases this)
  clear hq hr hi
  go_wp2_with fail
  go_ret
  exact ⟨by rw [← HQ.out]; simp, rfl⟩
theorem slice38 (b i : Nat) (hi : i ≤ 36) (W : World) : (Instr.sliceAt 85 (.pointer (some ⟨b, 0, none⟩)) none (some (.int .i64 i)) none).run Tryz.prog W = .ok (.slice (some ⟨b, 0, none⟩) i 36) W := by
  have hL : Tryz.prog.arrayLen 85 = 36 := by kernel_rfl
  have hE : Tryz.prog.elem 85 = 22 := by kernel_rfl
  have h := run_sliceAt_array_h (P := Tryz.prog) W 85 ⟨b, 0, none⟩ (by rw [hL, hE]; exact und38) .i64 i (by omega) (by rw [hL]; omega)
  rw [h, hE, size33, hL]
  simp [Result.andThen, slicedAt, Addr.add]
theorem anyBelow_any (V n : Nat) (hn : n < 2240) (w : World) : Calls Tryz.prog 96 #[.agg (lA (limb V)), .int .i64 n] w fun e w' => e = .returned (.bool (decide (V % 2 ^ n ≠ 0))) ∧ Below w.heap.size w w' := by
  have hb0 : Below w.heap.size w (w.alloc (.cells (lA (limb V)) 85)) := (Below.refl _ _).alloc (Nat.le_refl _) _
  have hq := wat0 (heap_alloc_new w (.cells (lA (limb V)) 85))
  obtain ⟨iw, hi⟩ : ∃ i, i = n / 64 := ⟨_, rfl⟩
  obtain ⟨d, hd⟩ : ∃ d, d = n % 64 := ⟨_, rfl⟩
  have hnd : n = 64 * iw + d := by omega
  have hdl : d < 64 := by omega
  have hil : iw < 35 := by omega
  have hal := any_limb V iw d hdl
  rw [← hnd] at hal
  obtain ⟨pv, hpv⟩ : ∃ p, p = decide (V % 2 ^ n ≠ 0) := ⟨_, rfl⟩
  rw [← hpv]
  have hdi : (n : Int) / 64 = (iw : Int) := by omega
  have hdm : (n : Int) % 64 = (d : Int) := by omega
  have HB := Lib.hid hb0
  have HAL := Lib.hid hal
  have HP := Lib.hid hpv
  have c0 := hq.cell0 iw (by omega)
  have HQ := Lib.hid hq
  have hsl := slice38 w.heap.size iw (by omega)
  have hct := contains_any hq iw 36 (by omega) (decide (∃ j, j < iw ∧ limb V j ≠ 0)) decide_eq_true_iff
  have hwv : IntKind.u64.wrap ((limb V iw : Int) * 2 ^ (64 - d)) = ((limb V iw * 2 ^ (64 - d) % 18446744073709551616 : Nat) : Int) := by
    rw [IntKind.wrap_u64, Int.natCast_emod, Int.natCast_mul, Int.natCast_pow]; rfl
  clear hb0 hi hd hal hpv hnd
  by_cases hz : limb V iw * 2 ^ (64 - d) % 18446744073709551616 = 0
  · rw [hz] at hwv
    have hw0 : IntKind.u64.wrap ((limb V iw : Int) * 2 ^ (64 - d)) = 0 := hwv
    have HR : Hid (decide (∃ j, j < iw ∧ limb V j ≠ 0) = pv) := by
      show _ = _
      rw [HP.out, decide_eq_decide]
      constructor
      · rintro ⟨j, hj, hne⟩ h0
        exact hne ((HAL.out.1 h0).2 j hj)
      · intro h0
        apply Classical.byContradiction
        intro h1
        exact h0 (HAL.out.2 ⟨hz, fun j hj => Classical.byContradiction fun h2 => h1 ⟨j, hj, h2⟩⟩)
    rw [HR.out] at hct
    clear hz hwv HR HP HAL
    go_enter Tryz.func96, Tryz.ntmps96
    go_wp2_with (with_reducible refine hct.mono ?_; rintro e w' ⟨rfl, rfl⟩)
    go_ret
    exact ⟨rfl, HB.out⟩
  · have hw1 : ¬ IntKind.u64.wrap ((limb V iw : Int) * 2 ^ (64 - d)) = 0 := by rw [hwv]; omega
    have HR : Hid (pv = true) := by
      show _ = _
      rw [HP.out]
      exact decide_eq_true (fun h0 => hz (HAL.out.1 h0).1)
    clear hz hwv HP HAL hct
    go_enter Tryz.func96, Tryz.ntmps96
    go_wp2_with fail
    go_ret
    exact ⟨by rw [HR.out]; rfl, HB.out⟩
end Go.Proofs.YtjcdnaandbockaaGreat

namespace Go.Proofs.YtjcdnaandbockaaGreat
open Go.RowKit Go.Shelf
attribute [local go_sem] Oper.semAt_some
set_option maxRecDepth 100000
set_option maxHeartbeats 4000000

structure KeepP (ex : Nat → Prop) (w w' : World) : Prop where
  os : w'.os = w.os
  tape : w'.tape = w.tape
  output : w'.output = w.output
  size : w.heap.size ≤ w'.heap.size
  block : ∀ (k : Nat) (o : Obj), w.heap[k]? = some o → o.isCells = true → ¬ ex k → w'.heap[k]? = some o

theorem KeepP.refl (ex : Nat → Prop) (w : World) : KeepP ex w w := ⟨rfl, rfl, rfl, Nat.le_refl _, fun _ _ h _ _ => h⟩
theorem KeepP.trans {ex : Nat → Prop} {a b c : World} (h : KeepP ex a b) (k : KeepP ex b c) : KeepP ex a c :=
  ⟨k.os.trans h.os, k.tape.trans h.tape, k.output.trans h.output, Nat.le_trans h.size k.size, fun i o hi ho he => k.block i o (h.block i o hi ho he) ho he⟩
theorem KeepP.of_below {ex : Nat → Prop} {w w' : World} (h : Below w.heap.size w w') : KeepP ex w w' := ⟨h.os, h.tape, h.output, h.size, fun k _ hk _ _ => (h.block k (Array.getElem?_eq_some_iff.1 hk).1).trans hk⟩
theorem KeepP.cell {ex : Nat → Prop} {w w' : World} (h : KeepP ex w w') {p : Addr} {v : Value} (hc : w.cell? p = some v) (he : ¬ ex p.block) : w'.cell? p = some v := by
  obtain ⟨o, ho, hoc⟩ := cells_of_cell hc
  rw [← hc]
  exact World.cell?_of_block (w := w) ((h.block _ o ho hoc he).trans ho.symm)
theorem KeepP.setCell {ex : Nat → Prop} {a w : World} (h : KeepP ex a w) (b o : Nat) (hb : ex b) (v : Value) : KeepP ex a (w.setCell ⟨b, o, none⟩ v) :=
  h.trans ⟨rfl, rfl, rfl, by simp [World.setCell], fun k o' hk _ he => (Below.heap_setCell _ _ _ _ (fun e => he (by rw [e]; exact hb))).trans hk⟩
theorem KeepP.drew {ex : Nat → Prop} {a w : World} (h : KeepP ex a w) : KeepP ex a w.drew := ⟨h.os, h.tape, h.output, h.size, h.block⟩
theorem KeepP.putObj {ex : Nat → Prop} (W : World) (l : Nat) (o o' : Obj) (hl : W.heap[l]? = some o) (ho : o.isCells = false) : KeepP ex W (W.putObj l o') :=
  ⟨rfl, rfl, rfl, by simp [World.putObj], fun k o2 hk h2 _ => (World.putObj_heap_other (fun e => by subst e; rw [hl] at hk; cases hk; rw [ho] at h2; cases h2)).trans hk⟩


/-- a function that yields 36 words from the last one, whatever is written to the blocks ex between two rounds -/
def BIter (f : Nat → Nat) (lb : Array Value) (ex : Nat → Prop) (w : World) : Prop :=
  (∀ args w, (callFunc 127 args).run Tryz.prog w = .ok (.enter 127 args) w) ∧
  ∀ n, SeqStopsK (α := Fin 36) Fence.wide n Tryz.prog 127 lb (fun i => #[.int .i64 (i.1 : Int), .int .u64 (f i.1 : Int)]) (KeepP ex) (fun xs => xs.map (·.1) = (List.range 36).reverse) (fun pre => pre.map (·.1) <+: (List.range 36).reverse) 36 w

theorem rev_range_succ {n m : Nat} (h : m < n) : ((List.range n).drop m).reverse = ((List.range n).drop (m + 1)).reverse ++ [m] := by
  rw [List.drop_eq_getElem_cons (by simpa using h)]
  simp

theorem backIter {w : World} (bb b : Nat) {f : Nat → Nat} (ex : Nat → Prop) (hbx : ¬ ex bb) (h : WAt w b 85 #[] #[] f) (hax : ¬ ex b) (hc : w.cell? ⟨bb, 0, none⟩ = some (.slice (some ⟨b, 0, none⟩) 36 36)) : BIter f #[.pointer (some ⟨bb, 0, none⟩)] ex w := by
  refine ⟨enters_of Tryz.func127 (by kernel_rfl) rfl, fun n ll J Jx W hW hJ hJx hY h0 => ?_⟩
  refine callsIn_of_wp Tryz.func127 rfl trivial ?_ rfl
  simp only [Tryz.ntmps127, List.size_toArray, List.length_cons, List.length_nil, Nat.reduceAdd, Nat.reduceSub, Array.replicate_succ, Array.replicate_zero, List.push_toArray, List.append_toArray, List.nil_append, List.cons_append]
  have hW' : KeepP ex w W := KeepP.of_below hW
  have hc' := hW'.cell hc hbx
  have HY := Lib.hid hY
  have HA := Lib.hid h
  clear hY hc h
  gi_wp2
  gi_loopw [3] (fun i wr => ∃ (m : Nat) (q : Int) (pre : List (Fin 36)), m ≤ 36 ∧ -1 ≤ q ∧ q ≤ 36 ∧ Hid (q = (m : Int) - 1) ∧ i = .int .i64 q ∧ Hid (pre.map (·.1) = ((List.range 36).drop m).reverse) ∧ J pre wr ∧ KeepP ex W wr ∧ W.heap.size ≤ wr.heap.size)
    (fun i _ => (intOf i + 1).toNat)
  case atStart => exact ⟨36, _, [], Nat.le_refl _, by omega, by omega, rfl, rfl, by simp [Hid], h0, KeepP.refl _ _, Nat.le_refl _⟩
  case round =>
    obtain ⟨m, q, pre, hm, hq1, hq2, HQ, rfl, HP, hJ1, hb1, hWz⟩ := hrel
    have c1 := hb1.cell hc' hbx
    cases m with
    | zero =>
      have hq0 : q < 0 := by have := HQ.out; omega
      have HP2 : Hid (pre.map (·.1) = (List.range 36).reverse) := by show _ = _; rw [HP.out]; simp
      gi_wp2
      go_end0
      exact ⟨⟨_, rfl⟩, .inl ⟨pre, HP2.out, hJ1⟩⟩
    | succ m =>
      have hqm : q = (m : Int) := by have := HQ.out; omega
      subst hqm
      have hlt : m < 36 := by omega
      have hltz : (m : Int) < 36 := by omega
      have d0 := hb1.cell (hW'.cell (HA.out.cell0 m hlt) hax) hax
      have hpl : pre.length < 36 := by have := congrArg List.length HP.out; simp at this; omega
      obtain ⟨fn, tmps, assign, body, hy, hR⟩ := HY.out pre ⟨m, hlt⟩ wr hJ1 hpl
      dsimp only at hy
      have HP2 : Hid ((pre ++ [(⟨m, hlt⟩ : Fin 36)]).map (·.1) = ((List.range 36).drop m).reverse) := by
        show _ = _; rw [List.map_append, HP.out, rev_range_succ hlt]; rfl
      clear hpl
      gi_wp2
      refine ⟨fun h => (by cases h), ?_⟩
      refine hR.mono ?_
      rintro e W2 (⟨rfl, hJ4, hk4⟩ | ⟨rfl, hJ4⟩)
      · have hsz := hk4.size
        gi_wp2
        go_roundw
        case rel => exact ⟨m, (m : Int) - 1, pre ++ [⟨m, hlt⟩], by omega, by omega, by omega, rfl, by go_num, HP2, hJ4, hb1.trans hk4, by omega⟩
        case measure => simp [intOf]
      · gi_wp2
        refine bodyPost_ret (results_none rfl _ _ _) rfl ?_
        refine ⟨⟨_, rfl⟩, .inr ⟨_, ?_, hJ4⟩⟩
        rw [HP2.out]
        have := List.take_append_drop m (List.range 36)
        have h2 := congrArg List.reverse this
        rw [List.reverse_append] at h2
        rw [← h2]
        exact List.prefix_append _ _

theorem backward_any {w : World} {b : Nat} {f : Nat → Nat} (ex : Nat → Prop) (hx : ¬ ex w.heap.size) (h : WAt w b 85 #[] #[] f) (hax : ¬ ex b) :
    Calls Tryz.prog 121 #[.slice (some ⟨b, 0, none⟩) 36 36] w fun e w' => ∃ lb, e = .returned (.func (.func 127) #[] lb) ∧ Below w.heap.size w w' ∧ BIter f lb ex w' := by
  have HE := Lib.hid h
  have HX := Lib.hid hax
  clear h hax
  go_enter Tryz.func121, Tryz.ntmps121
  go_wp2_with fail
  go_ret
  have hb : Below w.heap.size w (w.alloc (.cells #[.slice (some ⟨b, 0, none⟩) 36 36] 104)) := (Below.refl _ _).alloc (Nat.le_refl _) _
  exact ⟨_, rfl, hb, backIter _ b ex hx (HE.out.keep hb HE.out.lt) HX.out (by simp)⟩
end Go.Proofs.YtjcdnaandbockaaGreat

namespace Go.Proofs.YtjcdnaandbockaaGreat
open Go.RowKit Go.Shelf
attribute [local go_sem] Oper.semAt_some
set_option maxRecDepth 100000
set_option maxHeartbeats 4000000

def lenRen : Go.Shelf.Ren := ⟨fun | 129 => 122 | x => x, fun | 3 => 3 | 4 => 4 | 5 => 5 | 9 => 9 | 46 => 110 | 53 => 22 | x => x, fun x => x⟩
theorem lenL : Go.Proofs.Lays.n129 Tryz.prog lenRen := {
  mixed := by kernel_rfl
  f129 := Tryz.func122.trans (congrArg some (by kernel_rfl))
  t3 := Tryz.underlying3
  a3 := Tryz.isAgg3
  z3 := Tryz.sizeOf3
  v3 := Tryz.zeroValue3
  t4 := Tryz.underlying4
  a4 := Tryz.isAgg4
  z4 := Tryz.sizeOf4
  v4 := Tryz.zeroValue4
  t5 := Tryz.underlying5
  a5 := Tryz.isAgg5
  z5 := Tryz.sizeOf5
  v5 := Tryz.zeroValue5
  t9 := Tryz.underlying9
  a9 := Tryz.isAgg9
  z9 := Tryz.sizeOf9
  v9 := Tryz.zeroValue9
  t46 := Tryz.underlying110
  a46 := Tryz.isAgg110
  z46 := Tryz.sizeOf110
  v46 := Tryz.zeroValue110
  t53 := Tryz.underlying22
  a53 := Tryz.isAgg22
  z53 := Tryz.sizeOf22
  v53 := Tryz.zeroValue22 }

theorem bitLen_blen (x : Nat) (h : x < 18446744073709551616) : Lib.bitLen x = blen x := by
  by_cases h0 : x = 0
  · subst h0; rfl
  · obtain ⟨h1, h2, h3⟩ := Lib.bitLenAux_bounds 64 x h h0
    have e : Lib.bitLen x = Lib.bitLenAux 64 x := rfl
    rw [← e] at h1 h2 h3
    apply Nat.le_antisymm
    · have : ¬ blen x ≤ Lib.bitLen x - 1 := by rw [blen_le]; omega
      omega
    · rw [blen_le]; exact h3
theorem len64 (x : Nat) (h : x < 18446744073709551616) (w : World) : Calls Tryz.prog 122 #[.int .u64 x] w fun e w' => e = .returned (.int .i64 (blen x)) ∧ w' = w := by
  have := Any.bits_Len64 lenL x w (by omega) (by omega)
  simpa [lenRen, bitLen_blen x h] using this
theorem blen_small {x : Nat} (h : x < 18446744073709551616) : blen x ≤ 64 := blen_le.2 h
end Go.Proofs.YtjcdnaandbockaaGreat

namespace Go.Proofs.YtjcdnaandbockaaGreat
open Go.RowKit Go.Shelf
attribute [local go_sem] Oper.semAt_some
set_option maxRecDepth 100000
set_option maxHeartbeats 4000000

theorem own_blk {β : Type} (B b : Nat) (o : Obj) (ho : o.isCells = true) : OwnFrom B (fun (_ : β) W => W.heap[b]? = some o) := fun s X Y row hs hg hr => by
  refine (hg.block b (Array.getElem?_eq_some_iff.1 hs).1 (fun e => ?_)).trans hs
  obtain ⟨_, o', ho', hc⟩ := hr b e.symm
  rw [hs] at ho'; cases ho'
  rw [ho] at hc; cases hc
theorem own_blkF {β : Type} (B b : Nat) (o : β → Obj) (ho : ∀ s, (o s).isCells = true) : OwnFrom B (fun (s : β) W => W.heap[b]? = some (o s)) := fun s X Y row hs hg hr => by
  refine (hg.block b (Array.getElem?_eq_some_iff.1 hs).1 (fun e => ?_)).trans hs
  obtain ⟨_, o', ho', hc⟩ := hr b e.symm
  rw [hs] at ho'; cases ho'
  rw [ho s] at hc; cases hc
def lastV (V : Nat) (pre : List (Fin 36)) : Int := match pre.getLast? with | some x => 64 * (x.1 : Int) + (blen (limb V x.1) : Int) | none => 0
theorem lastV_app (V : Nat) (pre : List (Fin 36)) (x : Fin 36) : lastV V (pre ++ [x]) = 64 * (x.1 : Int) + (blen (limb V x.1) : Int) := by simp [lastV]
def IntBox (w : World) (b : Nat) (x : Int) : Prop := w.heap[b]? = some (.cells #[.int .i64 x] 3 (0, 0))
theorem IntBox.both {w : World} {b : Nat} {x : Int} (h : IntBox w b x) : w.cell? ⟨b, 0, none⟩ = some (.int .i64 x) ∧ w.frozen? ⟨b, 0, none⟩ = false := by
  unfold IntBox at h
  simp [World.cell?, World.frozen?, h]
theorem IntBox.set {w : World} {b : Nat} {x : Int} (h : IntBox w b x) (y : Int) : IntBox (w.setCell ⟨b, 0, none⟩ (.int .i64 y)) b y := by
  unfold IntBox at *
  rw [heap_setCell_same w b _ _ 3 _ h]
  simp

/-- the words from m on are zero: the number is below 2^(64 m) -/
theorem small_of_tail (V : Nat) (hV : V < 2 ^ (64 * 36)) : ∀ (k : Nat), k ≤ 36 → (∀ j, 36 - k ≤ j → j < 36 → limb V j = 0) → V < 2 ^ (64 * (36 - k))
  | 0, _, _ => by rw [Nat.sub_zero]; exact hV
  | k + 1, hk, h => by
    have ih := small_of_tail V hV k (by omega) (fun j h1 h2 => h j (by omega) h2)
    have e : 36 - k = (36 - (k + 1)) + 1 := by omega
    rw [e] at ih
    exact small_of_limb ih (h _ (Nat.le_refl _) (by omega))

theorem rev36 (k : Nat) (h : k < 36) : ((List.range 36).reverse)[k]? = some (35 - k) := by
  have h1 : k < ((List.range 36).reverse).length := by simpa using h
  rw [List.getElem?_eq_getElem h1, List.getElem_reverse]
  simp
theorem prefix_at {l : List Nat} (h : l <+: (List.range 36).reverse) (k : Nat) (hk : k < l.length) : l[k] = 35 - k ∧ k < 36 := by
  have hl : l.length ≤ 36 := by have := h.length_le; simpa using this
  obtain ⟨r, e⟩ := h
  have h1 := rev36 k (by omega)
  rw [← e, List.getElem?_append_left hk, List.getElem?_eq_getElem hk] at h1
  exact ⟨Option.some.inj h1, by omega⟩
/-- the highest word that is not zero -/
theorem top_word (V : Nat) (hV : V < 2 ^ (64 * 36)) (pre : List (Fin 36)) (x : Fin 36) (hp : (pre ++ [x]).map (·.1) <+: (List.range 36).reverse) (hx : limb V x.1 ≠ 0) (hz : ∀ i ∈ pre, limb V i.1 = 0) :
    lastV V (pre ++ [x]) = blen V := by
  rw [lastV_app]
  have hpl : x.1 + pre.length = 35 := by
    have h1 := prefix_at hp pre.length (by simp)
    simp at h1
    omega
  have hs := small_of_tail V hV (35 - x.1) (by omega) (fun j h1 h2 => by
    have hj := prefix_at hp (35 - j) (by simp; omega)
    have e : ((pre ++ [x]).map (·.1))[35 - j]'(by simp; omega) = (pre[35 - j]'(by omega)).1 := by
      rw [List.getElem_map, List.getElem_append_left (by omega)]
    have h3 : (pre[35 - j]'(by omega)).1 = j := by rw [← e, hj.1]; omega
    have := hz _ (List.getElem_mem (by omega : 35 - j < pre.length))
    rwa [h3] at this)
  rw [show 36 - (35 - x.1) = x.1 + 1 by have := x.2; omega] at hs
  have := blen_limb hs hx
  omega
theorem all_zero (V : Nat) (hV : V < 2 ^ (64 * 36)) (xs : List (Fin 36)) (hs : xs.map (·.1) = (List.range 36).reverse) (hz : ∀ i ∈ xs, limb V i.1 = 0) : blen V = 0 := by
  have h0 := small_of_tail V hV 36 (Nat.le_refl _) (fun j _ h2 => by
    have hm : j ∈ xs.map (·.1) := by rw [hs]; simpa using h2
    obtain ⟨y, hy, rfl⟩ := List.mem_map.1 hm
    exact hz y hy)
  have : V = 0 := by simpa using h0
  subst this
  rfl

theorem big_eq : big = 2 ^ (64 * 36) := by unfold big; rw [show (64 * 36 : Nat) = 2304 by decide]

theorem length_any (V : Nat) (hV : V < big) (w : World) : Calls Tryz.prog 93 #[.agg (lA (limb V))] w fun e w' => e = .returned (.int .i64 (blen V)) ∧ Below w.heap.size w w' := by
  have HV : Hid (V < 2 ^ (64 * 36)) := by show _ < _; rw [← big_eq]; exact hV
  clear hV
  refine (callsIn_wide (n := 30)).1 ?_
  refine callsIn_of_wp_marks Tryz.func93 rfl trivial ?_ rfl
  simp only [Tryz.ntmps93, List.size_toArray, List.length_cons, List.length_nil, Nat.reduceAdd, Nat.reduceSub, Array.replicate_succ, Array.replicate_zero, List.push_toArray, List.append_toArray, List.nil_append, List.cons_append]
  gi_wp2
  refine ⟨trivial, ?_⟩
  have hb0 : Below w.heap.size w ((w.alloc (.cells (lA (limb V)) 85)).alloc (.cells #[.int .i64 0] 3)) := ((Below.refl _ _).alloc (Nat.le_refl _) _).alloc (by simp) _
  have q0 : WAt ((w.alloc (.cells (lA (limb V)) 85)).alloc (.cells #[.int .i64 0] 3)) w.heap.size 85 #[] #[] (limb V) := by
    refine (Below.heap_alloc _ _ _ (by simp)).trans ?_
    rw [heap_alloc_new]; simp
  have q1 : IntBox ((w.alloc (.cells (lA (limb V)) 85)).alloc (.cells #[.int .i64 0] 3)) (w.heap.size + 1) 0 := by
    have := heap_alloc_new (w.alloc (.cells (lA (limb V)) 85)) (.cells #[.int .i64 0] 3)
    rwa [show (w.alloc (.cells (lA (limb V)) 85)).heap.size = w.heap.size + 1 by simp] at this
  have q2 : ((w.alloc (.cells (lA (limb V)) 85)).alloc (.cells #[.int .i64 0] 3)).heap.size = w.heap.size + 2 := by simp
  generalize (w.alloc (.cells (lA (limb V)) 85)).alloc (.cells #[.int .i64 0] 3) = W0 at *
  refine (callsIn_wide.2 (backward_any (fun b => b = w.heap.size + 1) (by omega) q0 (by omega))).mono ?_
  rintro e w1 ⟨lb, rfl, hb1, hit⟩
  gi_wp2
  have hz1 := hb1.size
  have h1a := (hb1.block _ (by omega)).trans q1
  have h1b : Below w.heap.size w w1 := hb0.trans (hb1.mono (by omega))
  refine wpIn_rangeFunc_ownH rfl (by omega) (gf := 127) (lb := lb) rfl trivial hit.1 (hit.2 _) (fun h k => h.trans k) (fun W l o o' _ h2 h3 _ => KeepP.putObj W l o o' h2 h3) (Below.refl _ _) (fun _ => rfl)
    (fun pre W => W.heap[w.heap.size + 1]? = some (.cells #[.int .i64 0] 3 (0, 0)) ∧ Below w.heap.size w W ∧ ∀ i ∈ pre, limb V i.1 = 0)
    (fun c pre W => (W.heap[w.heap.size + 1]? = some (.cells #[.int .i64 (lastV V pre)] 3 (0, 0)) ∧ Below w.heap.size w W) ∧ c = .ret ∧ ∃ pre' x, pre = pre' ++ [x] ∧ limb V x.1 ≠ 0 ∧ ∀ i ∈ pre', limb V i.1 = 0)
    ?hI ?hIx ?h0 (fun x a' _ => a' = { tmps := #[Value.agg (lA (limb V)), Value.pointer (some { block := w.heap.size, off := 0 }), Value.pointer (some { block := w.heap.size + 1, off := 0 }), .int .i64 (x.1 : Int), .int .u64 (limb V x.1 : Int), Value.slice (some { block := w.heap.size, off := 0 }) 36 36, Value.func (Fn.func 127) #[] lb, .int .i64 (x.1 : Int), .int .u64 (limb V x.1 : Int), undef, undef, undef, undef, undef, undef, undef], defers := [] }) ?hAx ?assign ?body ?done ?stop
  case hI => exact OwnFrom.and (own_blk _ _ _ rfl) (OwnFrom.and (ownFrom_below (by omega) (by omega)) (ownFrom_pure _ _))
  case hIx => exact fun c => OwnFrom.and (OwnFrom.and (own_blkF _ _ (fun pre => Obj.cells #[.int .i64 (lastV V pre)] 3 (0, 0)) (fun _ => rfl)) (ownFrom_below (by omega) (by omega))) (ownFrom_pure _ _)
  case h0 => exact ⟨h1a, h1b, by simp⟩
  case hAx => exact fun x a' => ownFrom_pure _ _
  case assign =>
    rintro ll pre x W K hI hK
    gi_wp2
    exact hK _ _ (KeepsFrom.refl _ _) (KeepP.refl _ _) hI (by simp)
  case body =>
    rintro ll pre x a' W hl ⟨r, hr⟩ ⟨hB, hbW, hpre⟩ rfl hlt
    have hBx : IntBox W (w.heap.size + 1) 0 := hB
    obtain ⟨u0, u1⟩ := hBx.both
    have hx := x.2
    have hL := limb_lt V x.1
    have hlen := len64 (limb V x.1) hL
    have hbl := blen_small hL
    have HLA := Lib.hid (lastV_app V pre x)
    have HB := Lib.hid hBx
    have HP := Lib.hid hpre
    clear hB hBx hpre
    by_cases h1 : limb V x.1 = 0
    · have HZ := Lib.hid h1
      have hne : ((limb V x.1 : Int) != 0) = false := by rw [h1]; rfl
      clear h1
      gi_wp2
      refine ⟨KeepsFrom.refl _ _, KeepP.refl _ _, HB.out, hbW, fun i hi => ?_⟩
      rcases List.mem_append.1 hi with hi | hi
      · exact HP.out i hi
      · simp at hi; subst hi; exact HZ.out
    · have HZ : Hid (limb V x.1 ≠ 0) := h1
      have hne : ((limb V x.1 : Int) != 0) = true := by rw [bne_iff_ne]; omega
      have hsum : 64 * (x.1 : Int) + (blen (limb V x.1) : Int) < 4000 := by omega
      clear h1
      gi_wp2
      refine ⟨trivial, ?_⟩
      refine (CallsIn.inRound ll (callsIn_wide.2 (hlen W))).mono ?_
      rintro e w' ⟨rfl, rfl⟩
      gi_wp2
      have hset := HB.out.set (64 * (x.1 : Int) + (blen (limb V x.1) : Int))
      rw [← HLA.out] at hset ⊢
      exact ⟨(KeepsOthers.setCell _ _ _).from _, ⟨hset, hbW.setCell (by simp) _⟩, rfl, pre, x, rfl, HZ.out, HP.out⟩
  case done =>
    rintro D xs W hD hxs ⟨hB, hbW, hpre⟩ hdf
    have HR := Lib.hid (all_zero V HV.out xs hxs hpre)
    clear hpre
    have hBx : IntBox W (w.heap.size + 1) 0 := hB
    obtain ⟨u0, u1⟩ := hBx.both
    gi_wp2
    have hdV := (KeepsOthers.setCell W ⟨w.heap.size + 1, 0, none⟩ (.int .i64 0)).same D _ hdf rfl
    have hBV : Below w.heap.size w (W.setCell ⟨w.heap.size + 1, 0, none⟩ (.int .i64 0)) := hbW.setCell (by simp) _
    have hset : IntBox (W.setCell ⟨w.heap.size + 1, 0, none⟩ (.int .i64 0)) (w.heap.size + 1) 0 := hBx.set 0
    generalize W.setCell ⟨w.heap.size + 1, 0, none⟩ (.int .i64 0) = U at *
    refine ⟨by simp, .inl ⟨_, _, rfl, run_takeDeferred hdV, ?_⟩⟩
    have hs5 : IntBox (U.putObj D (.deferred none)) (w.heap.size + 1) 0 := (World.putObj_heap_other (by omega)).trans hset
    have hc := hs5.both.1
    refine ⟨.int .i64 0, ?_, by rw [HR.out]; rfl, hBV.trans ⟨rfl, rfl, rfl, by simp [World.putObj], fun k hk => World.putObj_heap_other (by omega)⟩⟩
    simp [results, Tryz.results93, go_sem, hc]
  case stop =>
    rintro D c pre W hD hpre ⟨⟨hB, hbW⟩, rfl, pre', x, rfl, hx, hz⟩ hdf
    have HR := Lib.hid (top_word V HV.out pre' x hpre hx hz)
    rw [HR.out] at hB
    gi_wp2
    refine ⟨by simp, .inl ⟨_, _, rfl, run_takeDeferred hdf, ?_⟩⟩
    have hs5 : IntBox (W.putObj D (.deferred none)) (w.heap.size + 1) (blen V) := (World.putObj_heap_other (by omega)).trans hB
    have hc := hs5.both.1
    refine ⟨.int .i64 (blen V), ?_, rfl, hbW.trans ⟨rfl, rfl, rfl, by simp [World.putObj], fun k hk => World.putObj_heap_other (by omega)⟩⟩
    simp [results, Tryz.results93, go_sem, hc]
end Go.Proofs.YtjcdnaandbockaaGreat
