import Derived.Test.YtjcdnaandbockaaGreatGc
import Derived.Laws.AppendOwn
import Derived.Laws.OwnMore
namespace Go.Proofs.YtjcdnaandbockaaGreat
open Go.RowKit Go.Shelf
attribute [local go_sem] Oper.semAt_some
set_option maxRecDepth 100000
set_option maxHeartbeats 2000000

section
variable {P : Program} {ops : Array Oper} {Q : Exit → Act → World → Prop} {a : Act} {w : World}
/-- a load of a whole block, behind a guard that says yes -/
theorem pow2_le (a b : Nat) (h : a ≤ b) : 2 ^ a ≤ 2 ^ b := Nat.pow_le_pow_right (by decide) h
theorem lt_pw {V : Nat} (a b : Nat) (h : V < 2 ^ a) (hab : a ≤ b) : V < 2 ^ b := Nat.lt_of_lt_of_le h (pow2_le a b hab)
theorem wpList_load_rowg {rest : List Oper} {o : Oper} (hw : Region.wanted o (yielded ops a.tmps) = true) (ty : TypeId) (x : Operand) (ho : o.op = .load ty x)
    (g : Nat) (hx : a.eval x = .pointer (some ⟨g, 0, none⟩)) (t : TypeId) (cs : Array Value) (d : TypeDesc) (hg : w.heap[g]? = some (.cells cs t (0, 0)))
    (hu : P.underlying ty = some d) (hd : (match d with | .struct _ | .array _ _ => true | _ => false) = true) (hi : (P.info? ty).map (·.size) = some cs.size)
    (h : wpList P ops Q rest (a.put o.dst (.agg cs)) w) : wpList P ops Q (o :: rest) a w :=
  BigFrame.wpList_want hw fun K hK => wp_load_part ty x ho g 0 hx t #[] cs #[] d (by simpa using hg) rfl hu hd hi (hK _ _ h)
end

/-- the number without the last rounding -/
def num0 (V : Nat) : Nat := (blen V - 53) * 4503599627370496 + fromN V (blen V - 53)
def halfN (V : Nat) : Bool := decide (fromN V (blen V - 53 - 1) % 2 = 1)
def upN (V : Nat) : Bool := halfN V && (decide (num0 V % 2 = 1) || decide (V % 2 ^ (blen V - 53 - 1) ≠ 0))
def minN (x : Nat) : Nat := if x ≤ 9218868437227405312 then x else 9218868437227405312
def nearN (V : Nat) : Nat := if blen V ≤ 53 then limb V 0 else minN (num0 V + if upN V = true then 1 else 0)

theorem fromN_lt53 {V : Nat} (h : 53 < blen V) : fromN V (blen V - 53) < 9007199254740992 := by
  unfold fromN
  have h1 := lt_blen V
  have e : blen V = (blen V - 53) + 53 := by omega
  rw [e, Nat.pow_add] at h1
  have h2 : V / 2 ^ (blen V - 53) < 2 ^ 53 := (div_lt' (Nat.two_pow_pos _)).2 h1
  exact Nat.lt_of_le_of_lt (Nat.mod_le _ _) h2

theorem nearest_any (V : Nat) (hV : V < 2 ^ 2240) (w : World) : Calls Tryz.prog 80 #[.agg (lA (limb V))] w fun e w' => e = .returned (.int .u64 (nearN V : Nat)) ∧ Below w.heap.size w w' := by
  have hb : blen V ≤ 2240 := blen_le.2 hV
  have hV2 : V < big := by
    unfold big
    exact lt_pw 2240 2304 hV (by decide)
  have HL := Lib.hid (fun W => length_any V hV2 W)
  have HA := Lib.hid (lA_at (limb V) 0 (by decide))
  clear hV hV2
  have hb0 : Below w.heap.size w (w.alloc (.cells (lA (limb V)) 85)) := (Below.refl _ _).alloc (Nat.le_refl _) _
  have q0 := heap_alloc_new w (.cells (lA (limb V)) 85)
  have HB0 := Lib.hid hb0
  have HZ : Hid ((w.alloc (.cells (lA (limb V)) 85)).heap.size = w.heap.size + 1) := by show _ = _; simp
  by_cases h1 : blen V ≤ 53
  · have HE : Hid (nearN V = limb V 0) := by show _ = _; unfold nearN; rw [if_pos h1]
    rw [HE.out]
    generalize blen V = n at *
    have h1' : (n : Int) - 52 - 1 ≤ 0 := by omega
    clear hb hb0
    have Q0 := Lib.hid q0
    clear q0
    go_enter Tryz.func80, Tryz.ntmps80
    go_wp2_with (refine wpList_load_row rfl 85 _ rfl w.heap.size rfl 85 _ _ _ Q0.out und38 rfl (info38' _) ?_)
    refine (HL.out _).mono ?_
    rintro e X ⟨rfl, hbX⟩
    have R0 := Lib.hid (below_heapAt hbX ⟨by have := HZ.out; omega, Q0.out⟩)
    have HX := Lib.hid (HB0.out.trans (hbX.mono HB0.out.size))
    have c0 : X.cell? ⟨w.heap.size, 0, none⟩ = some (.int .u64 (limb V 0)) := by rw [cell_of_row X _ _ _ _ _ R0.out]; exact HA.out
    clear hbX HL
    go_wp2_with fail
    go_ret
    exact ⟨rfl, HX.out⟩
  · have H53 := fromN_lt53 (by omega : 53 < blen V)
    have HE : Hid (nearN V = minN (num0 V + if upN V = true then 1 else 0)) := by show _ = _; unfold nearN; rw [if_neg h1]
    obtain ⟨d, hd⟩ : ∃ d, d = blen V - 53 := ⟨_, rfl⟩
    have HF1 := Lib.hid (fun W => from_any V d (by omega) W)
    have HF2 := Lib.hid (fun W => from_any V (d - 1) (by omega) W)
    have HAB := Lib.hid (fun W => anyBelow_any V (d - 1) (by omega) W)
    rw [← hd] at H53
    have hd1 : 1 ≤ d := by omega
    have hd2 : d < 2240 := by omega
    have e1 : (blen V : Int) - 52 - 1 = d := by omega
    have HN : Hid (num0 V = d * 4503599627370496 + fromN V d) := by show _ = _; unfold num0; rw [← hd]
    have HH : Hid (halfN V = decide (fromN V (d - 1) % 2 = 1)) := by show _ = _; unfold halfN; rw [← hd]
    have HU : Hid (upN V = (halfN V && (decide (num0 V % 2 = 1) || decide (V % 2 ^ (d - 1) ≠ 0)))) := by show _ = _; unfold upN; rw [← hd]
    obtain ⟨R, hR⟩ : ∃ R, R = nearN V := ⟨_, rfl⟩
    rw [← hR] at HE ⊢
    clear hR
    have hpn : ¬ (d : Int) ≤ 0 := by omega
    generalize blen V = n at *
    have Q0 := Lib.hid q0
    clear q0 hb hb0 hd h1
    go_enter Tryz.func80, Tryz.ntmps80
    go_wp2_with (refine wpList_load_row rfl 85 _ rfl w.heap.size rfl 85 _ _ _ Q0.out und38 rfl (info38' _) ?_)
    refine (HL.out _).mono ?_
    rintro e X ⟨rfl, hbX⟩
    have R0 := Lib.hid (below_heapAt hbX ⟨by have := HZ.out; omega, Q0.out⟩)
    have HX := Lib.hid (HB0.out.trans (hbX.mono HB0.out.size))
    clear hbX HL
    have hd0 : ¬ d = 0 := by omega
    have hF := H53
    have HBO := Lib.hid (b_one (fromN V (d - 1)) (Nat.mod_lt _ (by decide)))
    go_wp2_with (refine wpList_load_row rfl 85 _ rfl w.heap.size rfl 85 _ _ _ R0.out und38 rfl (info38' _) ?_)
    refine (HF1.out _).mono ?_
    rintro e Y ⟨rfl, hbY⟩
    have R1 := Lib.hid (below_heapAt hbY ⟨by have := HX.out.size; have := (Array.getElem?_eq_some_iff.1 R0.out).1; omega, R0.out⟩)
    have HY := Lib.hid (HX.out.trans (hbY.mono HX.out.size))
    clear hbY HF1 R0 HX
    have e2 : (d : Int) - 1 = ((d - 1 : Nat) : Int) := by omega
    go_wp2_with (refine wpList_load_row rfl 85 _ rfl w.heap.size rfl 85 _ _ _ R1.out und38 rfl (info38' _) ?_)
    refine (HF2.out _).mono ?_
    rintro e Z ⟨rfl, hbZ⟩
    have R2 := Lib.hid (below_heapAt hbZ ⟨by have := (Array.getElem?_eq_some_iff.1 R1.out).1; omega, R1.out⟩)
    have HZZ := Lib.hid (HY.out.trans (hbZ.mono HY.out.size))
    clear hbZ HF2 R1 HY
    have e3 : (d : Int) * 4503599627370496 + (fromN V d : Int) = ((num0 V : Nat) : Int) := by rw [HN.out]; omega
    have hnum : num0 V < 18446744073709551615 := by rw [HN.out]; omega
    rw [e3]
    have HMIN : Hid (∀ y : Nat, minN y = if y ≤ 9218868437227405312 then y else 9218868437227405312) := fun y => rfl
    clear H53 hF e1 e3 HN hd0 hpn
    generalize num0 V = x0 at *
    have hx1 : bits .and .u64 (x0 : Int) 1 = ((x0 % 2 : Nat) : Int) := b_one x0 (by omega)
    have hf1 := HBO.out
    generalize fromN V (d - 1) = f2 at *
    have HHF := HH.out
    generalize halfN V = hf at *
    clear HH HBO
    have hf2 : f2 % 2 < 2 := Nat.mod_lt _ (by decide)
    have hx2 : x0 % 2 < 2 := Nat.mod_lt _ (by decide)
    generalize f2 % 2 = fb at *
    generalize x0 % 2 = xb at *
    by_cases hfb : fb = 1
    · subst hfb
      by_cases hxb : xb = 1
      · subst hxb
        have HR : Hid (min ((x0 : Int) + 1) 9218868437227405312 = (R : Int)) := by
          show _ = _
          rw [HE.out, HU.out, HHF]
          unfold minN
          simp
          split <;> omega
        clear HU HHF HE
        go_wp2_with fail
        rw [HR.out]
        go_ret
        exact ⟨rfl, HZZ.out⟩
      · obtain rfl : xb = 0 := by omega
        have hab := HAB.out Z
        by_cases ht : V % 2 ^ (d - 1) ≠ 0
        · rw [decide_eq_true ht] at hab
          have HR : Hid (min ((x0 : Int) + 1) 9218868437227405312 = (R : Int)) := by
            show _ = _
            rw [HE.out, HU.out, HHF, decide_eq_true ht]
            unfold minN
            simp
            split <;> omega
          have HAB2 := Lib.hid hab
          clear HU HHF HE hab ht HAB
          go_wp2_with (refine wpList_load_rowg rfl 85 _ rfl w.heap.size rfl 85 _ _ R2.out und38 rfl (info38' _) ?_)
          refine HAB2.out.mono ?_
          rintro e Y ⟨rfl, hbY⟩
          have HYY := Lib.hid (HZZ.out.trans (hbY.mono HZZ.out.size))
          clear hbY HAB2
          go_wp2_with fail
          rw [HR.out]
          go_ret
          exact ⟨rfl, HYY.out⟩
        · rw [decide_eq_false ht] at hab
          have HR : Hid (min (x0 : Int) 9218868437227405312 = (R : Int)) := by
            show _ = _
            rw [HE.out, HU.out, HHF, decide_eq_false ht]
            unfold minN
            simp
            split <;> omega
          have HAB2 := Lib.hid hab
          clear HU HHF HE hab ht HAB
          go_wp2_with (refine wpList_load_rowg rfl 85 _ rfl w.heap.size rfl 85 _ _ R2.out und38 rfl (info38' _) ?_)
          refine HAB2.out.mono ?_
          rintro e Y ⟨rfl, hbY⟩
          have HYY := Lib.hid (HZZ.out.trans (hbY.mono HZZ.out.size))
          clear hbY HAB2
          go_wp2_with fail
          rw [HR.out]
          go_ret
          exact ⟨rfl, HYY.out⟩
    · obtain rfl : fb = 0 := by omega
      have HR : Hid (min (x0 : Int) 9218868437227405312 = (R : Int)) := by
        show _ = _
        rw [HE.out, HU.out, HHF]
        unfold minN
        simp
        split <;> omega
      clear HU HHF HE
      go_wp2_with fail
      rw [HR.out]
      go_ret
      exact ⟨rfl, HZZ.out⟩
end Go.Proofs.YtjcdnaandbockaaGreat

namespace Go.Proofs.YtjcdnaandbockaaGreat
open Go.RowKit Go.Shelf
attribute [local go_sem] Oper.semAt_some
set_option maxRecDepth 100000
set_option maxHeartbeats 2000000

/-- the value of what a sum knows -/
def valueN (f : Facts) : Nat :=
  if f.saw % 2 = 1 ∨ f.saw = 6 then 9221120237041090560 else if f.saw = 2 then 9218868437227405312 else if f.saw = 4 then 18442240474082181120
  else if f.zero = 1 then 9223372036854775808 else if negN f.V = true then nearN (opp f.V) + 9223372036854775808 else nearN f.V

theorem minN_le (x : Nat) : minN x ≤ 9218868437227405312 := by unfold minN; split <;> omega
theorem nearN_le (V : Nat) : nearN V ≤ 9218868437227405312 := by
  unfold nearN
  split
  · have h := limb_lt V 0
    rename_i h1
    have h2 : V < 2 ^ 53 := blen_le.1 h1
    have : limb V 0 = V := by unfold limb; simp; omega
    omega
  · exact minN_le _

/-- what a sum knows, between other cells of a block -/
def FIn (w : World) (b o : Nat) (f : Facts) : Prop := ∃ t pre post, pre.size = o ∧ w.heap[b]? = some (.cells (pre ++ lA (limb f.V) ++ (#[.int .u8 f.saw, .int .u8 f.zero] ++ post)) t (0, 0))
theorem FIn.cells {w : World} {b o : Nat} {f : Facts} (h : FIn w b o f) : w.cell? ⟨b, o + 36, none⟩ = some (.int .u8 f.saw) ∧ w.cell? ⟨b, o + 37, none⟩ = some (.int .u8 f.zero) ∧ b < w.heap.size := by
  obtain ⟨t, pre, post, ho, hg⟩ := h
  have hs : (pre ++ lA (limb f.V)).size = o + 36 := by simp [ho]
  refine ⟨?_, ?_, (Array.getElem?_eq_some_iff.1 hg).1⟩
  · rw [cell_of_row w b _ _ _ _ hg, Array.getElem?_append_right (by omega), hs, Nat.sub_self, Array.getElem?_append_left (by simp)]
    rfl
  · rw [cell_of_row w b _ _ _ _ hg, Array.getElem?_append_right (by omega), hs]
    have : o + 37 - (o + 36) = 1 := by omega
    rw [this, Array.getElem?_append_left (by simp)]; rfl
theorem FAt.fin {w : World} {b : Nat} {f : Facts} (h : FAt w b f) : FIn w b 0 f := ⟨87, #[], #[], rfl, by unfold FAt fA at h; simpa using h⟩
theorem AAt.fin {w : World} {b : Nat} {f : Facts} (h : AAt w b f) : FIn w b 1 f := ⟨89, #[.bool true], #[], rfl, by unfold AAt fA at h; simpa using h⟩
theorem FIn.keep {w w' : World} {b o : Nat} {f : Facts} (h : FIn w b o f) (hb : Below w.heap.size w w') : FIn w' b o f := by
  obtain ⟨t, pre, post, ho, hg⟩ := h
  exact ⟨t, pre, post, ho, (hb.block _ (Array.getElem?_eq_some_iff.1 hg).1).trans hg⟩

theorem value_any {w : World} {b o : Nat} {f : Facts} (h : FIn w b o f) (hs : f.saw < 8) (hV : f.V < big) (hfit : absN f.V < 2 ^ 2240) :
    Calls Tryz.prog 56 #[.pointer (some ⟨b, o, none⟩)] w fun e w' => e = .returned (.int .u64 (valueN f : Nat)) ∧ Below w.heap.size w w' := by
  obtain ⟨R, hR⟩ : ∃ R, R = valueN f := ⟨_, rfl⟩
  rw [← hR]
  obtain ⟨c1, c2, hb⟩ := h.cells
  obtain ⟨V, saw, zr⟩ := f
  obtain ⟨t, pre, post, ho, hg⟩ := h
  have HF := Lib.hid hg
  simp only at c1 c2 hs hV hfit
  have HR : Hid (R = valueN ⟨V, saw, zr⟩) := hR
  clear hg hR
  have hsaw : saw = 0 ∨ saw = 1 ∨ saw = 2 ∨ saw = 3 ∨ saw = 4 ∨ saw = 5 ∨ saw = 6 ∨ saw = 7 := by omega
  have HB := Lib.hid hfit
  have HVV := Lib.hid hV
  clear hs hV hfit
  go_enter Tryz.func56, Tryz.ntmps56
  rcases hsaw with rfl | rfl | rfl | rfl | rfl | rfl | rfl | rfl
  · have hbit : bits BinOp.and IntKind.u8 0 1 = 0 := by kernel_rfl
    by_cases hz : zr = 1
    · subst hz
      have HE : Hid (R = 9223372036854775808) := by show _ = _; rw [HR.out]; unfold valueN; simp
      clear HR
      go_wp2_with fail
      go_ret
      exact ⟨by rw [HE.out]; rfl, Below.refl _ _⟩
    · have hz1 : ((zr : Int) == 1) = false := beq_eq_false_iff_ne.2 (by omega)
      have HW : Hid (w.heap[b]? = some (.cells (pre ++ lA (limb V) ++ (#[.int .u8 (0 : Nat), .int .u8 zr] ++ post)) t (0, 0))) := HF.out
      have hneg := negative_any V w
      cases hn : negN V with
      | true =>
        rw [hn] at hneg
        have HE : Hid (R = nearN (opp V) + 9223372036854775808) := by show _ = _; rw [HR.out]; unfold valueN; simp [hz, hn]
        have HN := Lib.hid hneg
        have hfit : opp V < 2 ^ 2240 := by have := HB.out; unfold absN at this; rwa [if_pos hn] at this
        have HNR := Lib.hid (fun W => nearest_any (opp V) hfit W)
        have HOP := Lib.hid (fun W => opposite_any V HVV.out W)
        have hor := b_orsign (nearN (opp V)) (by have := nearN_le (opp V); omega)
        clear HR hneg hn hfit HB
        go_wp2_with (refine wpList_load_part rfl 85 _ rfl b o rfl t pre (lA (limb V)) (#[.int .u8 (0 : Nat), .int .u8 zr] ++ post) _ HW.out ho.symm und38 rfl (info38' _) ?_)
        refine HN.out.mono ?_
        rintro e X ⟨rfl, hbX⟩
        have HX : Hid (X.heap[b]? = some (.cells (pre ++ lA (limb V) ++ (#[.int .u8 (0 : Nat), .int .u8 zr] ++ post)) t (0, 0))) := (hbX.block _ hb).trans HW.out
        have HBX := Lib.hid hbX
        have hbX' : b < X.heap.size := Nat.lt_of_lt_of_le hb hbX.size
        clear hbX HN HW
        go_wp2_with (refine wpList_load_part rfl 85 _ rfl b o rfl t pre (lA (limb V)) (#[.int .u8 (0 : Nat), .int .u8 zr] ++ post) _ HX.out ho.symm und38 rfl (info38' _) ?_)
        refine (HOP.out X).mono ?_
        rintro e Y ⟨rfl, hbY⟩
        have HBY := Lib.hid (HBX.out.trans (hbY.mono HBX.out.size))
        clear hbY HBX HX HOP
        go_wp2_with (refine (HNR.out _).mono ?_; clear HNR; rintro e Z ⟨rfl, hbZ⟩)
        have HBZ := Lib.hid (HBY.out.trans (hbZ.mono HBY.out.size))
        clear hbZ HBY
        go_wp2_with fail
        go_ret
        exact ⟨by rw [HE.out]; rfl, HBZ.out⟩
      | false =>
        rw [hn] at hneg
        have HE : Hid (R = nearN V) := by show _ = _; rw [HR.out]; unfold valueN; simp [hz, hn]
        have HN := Lib.hid hneg
        have hfit : V < 2 ^ 2240 := by have := HB.out; unfold absN at this; rwa [if_neg (by rw [hn]; decide)] at this
        have HNR := Lib.hid (fun W => nearest_any V hfit W)
        clear HR hneg hn hfit HB
        go_wp2_with (refine wpList_load_part rfl 85 _ rfl b o rfl t pre (lA (limb V)) (#[.int .u8 (0 : Nat), .int .u8 zr] ++ post) _ HW.out ho.symm und38 rfl (info38' _) ?_)
        refine HN.out.mono ?_
        rintro e X ⟨rfl, hbX⟩
        have HX : Hid (X.heap[b]? = some (.cells (pre ++ lA (limb V) ++ (#[.int .u8 (0 : Nat), .int .u8 zr] ++ post)) t (0, 0))) := (hbX.block _ hb).trans HW.out
        have HBX := Lib.hid hbX
        have hbX' : b < X.heap.size := Nat.lt_of_lt_of_le hb hbX.size
        clear hbX HN HW
        go_wp2_with (refine wpList_load_part rfl 85 _ rfl b o rfl t pre (lA (limb V)) (#[.int .u8 (0 : Nat), .int .u8 zr] ++ post) _ HX.out ho.symm und38 rfl (info38' _) ?_)
        refine (HNR.out _).mono ?_
        rintro e Z ⟨rfl, hbZ⟩
        have HBZ := Lib.hid (HBX.out.trans (hbZ.mono HBX.out.size))
        clear hbZ HBX HX
        go_wp2_with fail
        go_ret
        exact ⟨by rw [HE.out]; rfl, HBZ.out⟩
  · have hbit : bits BinOp.and IntKind.u8 1 1 = 1 := by kernel_rfl
    have HE : Hid (R = 9221120237041090560) := by show _ = _; rw [HR.out]; unfold valueN; simp
    clear HR
    go_wp2_with fail
    go_ret
    exact ⟨by rw [HE.out]; rfl, Below.refl _ _⟩
  · have hbit : bits BinOp.and IntKind.u8 2 1 = 0 := by kernel_rfl
    have HE : Hid (R = 9218868437227405312) := by show _ = _; rw [HR.out]; unfold valueN; simp
    clear HR
    go_wp2_with fail
    go_ret
    exact ⟨by rw [HE.out]; rfl, Below.refl _ _⟩
  · have hbit : bits BinOp.and IntKind.u8 3 1 = 1 := by kernel_rfl
    have HE : Hid (R = 9221120237041090560) := by show _ = _; rw [HR.out]; unfold valueN; simp
    clear HR
    go_wp2_with fail
    go_ret
    exact ⟨by rw [HE.out]; rfl, Below.refl _ _⟩
  · have hbit : bits BinOp.and IntKind.u8 4 1 = 0 := by kernel_rfl
    have HE : Hid (R = 18442240474082181120) := by show _ = _; rw [HR.out]; unfold valueN; simp
    clear HR
    go_wp2_with fail
    go_ret
    exact ⟨by rw [HE.out]; rfl, Below.refl _ _⟩
  · have hbit : bits BinOp.and IntKind.u8 5 1 = 1 := by kernel_rfl
    have HE : Hid (R = 9221120237041090560) := by show _ = _; rw [HR.out]; unfold valueN; simp
    clear HR
    go_wp2_with fail
    go_ret
    exact ⟨by rw [HE.out]; rfl, Below.refl _ _⟩
  · have hbit : bits BinOp.and IntKind.u8 6 1 = 0 := by kernel_rfl
    have HE : Hid (R = 9221120237041090560) := by show _ = _; rw [HR.out]; unfold valueN; simp
    clear HR
    go_wp2_with fail
    go_ret
    exact ⟨by rw [HE.out]; rfl, Below.refl _ _⟩
  · have hbit : bits BinOp.and IntKind.u8 7 1 = 1 := by kernel_rfl
    have HE : Hid (R = 9221120237041090560) := by show _ = _; rw [HR.out]; unfold valueN; simp
    clear HR
    go_wp2_with fail
    go_ret
    exact ⟨by rw [HE.out]; rfl, Below.refl _ _⟩

/-- Value -/
theorem Value_any {w : World} {b : Nat} {f : Facts} (h : AAt w b f) (hs : f.saw < 8) (hV : f.V < big) (hfit : absN f.V < 2 ^ 2240) :
    Calls Tryz.prog 30 #[.pointer (some ⟨b, 0, none⟩)] w fun e w' => e = .returned (.int .u64 (valueN f : Nat)) ∧ Below w.heap.size w w' := by
  have hv := valid_any h
  have HV := Lib.hid (value_any h.fin hs hV hfit)
  clear h hs hV hfit
  generalize valueN f = R at *
  go_enter Tryz.func30, Tryz.ntmps30
  go_wp2_with (first | (with_reducible refine hv.mono ?_; clear hv; rintro e w1 ⟨rfl, rfl⟩) | (with_reducible refine HV.out.mono ?_; clear HV; rintro e w1 ⟨rfl, hb⟩))
  go_ret
  exact ⟨rfl, hb⟩
end Go.Proofs.YtjcdnaandbockaaGreat

namespace Go.Proofs.YtjcdnaandbockaaGreat
open Go.RowKit Go.Shelf
attribute [local go_sem] Oper.semAt_some
set_option maxRecDepth 100000
set_option maxHeartbeats 2000000

/-- the bytes of a number, the highest one first -/
def bytesN (V : Nat) : List Nat := (List.range ((blen V + 7) / 8)).map fun j => V / 2 ^ (8 * ((blen V + 7) / 8 - 1 - j)) % 256
theorem bytesN_len (V : Nat) : (bytesN V).length = (blen V + 7) / 8 := by simp [bytesN]
theorem bytesN_small (V : Nat) : ∀ x ∈ bytesN V, x < 256 := by
  intro x hx
  unfold bytesN at hx
  obtain ⟨j, _, rfl⟩ := List.mem_map.1 hx
  exact Nat.mod_lt _ (by decide)
theorem rev_bytesN (V : Nat) (j : Nat) (h : j < (blen V + 7) / 8) : rev (bytesN V) j = V / 2 ^ (8 * j) % 256 := by
  unfold rev
  rw [bytesN_len]
  have h1 : (blen V + 7) / 8 - 1 - j < (blen V + 7) / 8 := by omega
  unfold bytesN
  simp only [List.getD, List.getElem?_map, List.getElem?_range h1]
  have : (blen V + 7) / 8 - 1 - ((blen V + 7) / 8 - 1 - j) = j := by omega
  simp [this]
/-- what is written is read again -/
theorem wordsN_bytesN (V : Nat) : wordsN (bytesN V) = V := by
  unfold wordsN
  rw [valB_congr (g := fun j => V / 2 ^ (8 * j) % 256) (fun j hj => rev_bytesN V j (by rwa [bytesN_len] at hj)), valB_bytes, bytesN_len]
  have h1 := lt_blen V
  exact Nat.mod_eq_of_lt (Nat.lt_of_lt_of_le h1 (Nat.pow_le_pow_right (by decide) (by omega)))

def rowB (l : List Nat) : Array Value := (l.map fun x : Nat => Value.int .u8 (x : Int)).toArray
/-- a row of bytes -/
def BRow (w : World) (b : Nat) (l : List Nat) : Prop := w.heap[b]? = some (.cells (rowB l) 5 (0, 0))
theorem rowB_size (l : List Nat) : (rowB l).size = l.length := by simp [rowB]
theorem rowB_at (l : List Nat) (j : Nat) (h : j < l.length) : (rowB l)[j]? = some (.int .u8 (l[j] : Nat)) := by unfold rowB; simp [h]
theorem BRow.cell {w : World} {b : Nat} {l : List Nat} (h : BRow w b l) (j : Nat) (hj : j < l.length) : w.cell? ⟨b, j, none⟩ = some (.int .u8 (l[j] : Nat)) := by
  rw [cell_of_row w b _ _ _ _ h]; exact rowB_at l j hj
theorem BRow.open_ {w : World} {b : Nat} {l : List Nat} (h : BRow w b l) (j : Nat) : w.frozen? ⟨b, j, none⟩ = false := frozen_of_row w b j _ _ h
theorem BRow.set {w : World} {b : Nat} {l : List Nat} (h : BRow w b l) (x v : Nat) : BRow (w.setCell ⟨b, x, none⟩ (.int .u8 v)) b (l.set x v) := by
  unfold BRow
  rw [heap_setCell_same w b _ _ 5 _ h]
  congr 2
  unfold rowB
  apply Array.ext_getElem?
  intro j
  simp only [Array.getElem?_setIfInBounds, List.getElem?_toArray, List.getElem?_map, List.getElem?_set, Array.size, List.length_map]
  by_cases e : x = j
  · subst e
    by_cases h2 : x < l.length <;> simp [h2]
  · simp [e]
theorem BRow.lt {w : World} {b : Nat} {l : List Nat} (h : BRow w b l) : b < w.heap.size := (Array.getElem?_eq_some_iff.1 h).1
theorem BRow.bs {w : World} {b : Nat} {l : List Nat} (h : BRow w b l) (hl : l.length ≤ 17592186044416) (hs : ∀ x ∈ l, x < 256) : Bs w (some ⟨b, 0, none⟩) l :=
  ⟨hl, hs, fun _ => ⟨b, 0, rfl, fun j hj => by rw [Nat.zero_add]; exact h.cell j hj⟩⟩
end Go.Proofs.YtjcdnaandbockaaGreat

namespace Go.Proofs.YtjcdnaandbockaaGreat
open Go.RowKit Go.Shelf
attribute [local go_sem] Oper.semAt_some
set_option maxRecDepth 100000
set_option maxHeartbeats 2000000

theorem Tryz.info5 : (Tryz.prog.info? 5).map (fun i => (i.zero, i.size, i.bytes)) = some (some (.int .u8 0), 1, 1) := by kernel_rfl
theorem make_bytes (n : Nat) (hn : n ≤ 17592186044416) (w : World) : (Instr.makeSlice 46 (.int .i64 n) (.int .i64 n)).run Tryz.prog w = .ok (.slice (some ⟨w.heap.size, 0, none⟩) n n) (w.alloc (.cells (rowB (List.replicate n 0)) 5)) := by
  obtain ⟨i0, hi, hz0, hz1, hz2⟩ := info_parts Tryz.info5
  have := run_make (P := Tryz.prog) w 46 5 i0 (.int .u8 0) Tryz.underlying46 hi hz0 .i64 .i64 n n (by omega) (Int.le_refl _) (by rw [hz2]; omega) (by omega)
  rw [this, hz1]
  simp only [Int.toNat_natCast, Nat.mul_one]
  congr 3
  unfold rowB madeCells
  apply Array.ext
  · simp
  · intro i h1 h2
    simp [Value.cells, Nat.mod_one]

/-- the last k bytes are written -/
def bytesG (V n k : Nat) : List Nat := (List.range n).map fun j => if n - k ≤ j then V / 2 ^ (8 * (n - 1 - j)) % 256 else 0
theorem bytesG_len (V n k : Nat) : (bytesG V n k).length = n := by simp [bytesG]
theorem bytesG_zero (V n : Nat) : bytesG V n 0 = List.replicate n 0 := by
  unfold bytesG
  apply List.ext_getElem
  · simp
  · intro j h1 h2
    simp at h1
    simp; omega
theorem bytesG_all (V : Nat) : bytesG V ((blen V + 7) / 8) ((blen V + 7) / 8) = bytesN V := by
  unfold bytesG bytesN
  refine List.map_congr_left fun j hj => ?_
  rw [if_pos (by omega)]
theorem bytesG_set (V n k : Nat) (h : k < n) : (bytesG V n k).set (n - 1 - k) (V / 2 ^ (8 * k) % 256) = bytesG V n (k + 1) := by
  unfold bytesG
  apply List.ext_getElem
  · simp
  · intro j h1 h2
    simp at h1
    rw [List.getElem_set]
    simp only [List.getElem_map, List.getElem_range]
    by_cases e : n - 1 - k = j
    · rw [if_pos e, if_pos (by omega)]
      have : n - 1 - j = k := by omega
      rw [this]
    · rw [if_neg e]
      by_cases e2 : n - k ≤ j
      · rw [if_pos e2, if_pos (by omega)]
      · rw [if_neg e2, if_neg (by omega)]

theorem other_cell (w : World) (b x : Nat) (v : Value) (k : Nat) (h : b ≠ k) : (w.setCell ⟨b, x, none⟩ v).heap[k]? = w.heap[k]? := Below.heap_setCell _ _ _ _ (fun e => h e.symm)

theorem bytes_any (V : Nat) (hV : V < big) (w : World) : Calls Tryz.prog 77 #[.agg (lA (limb V))] w fun e w' => ∃ b, e = .returned (.slice (some ⟨b, 0, none⟩) (bytesN V).length (bytesN V).length) ∧ w.heap.size ≤ b ∧ BRow w' b (bytesN V) ∧ Below w.heap.size w w' := by
  have hbl : blen V ≤ 2304 := by rw [blen_le]; unfold big at hV; exact hV
  have HL := Lib.hid (fun W => length_any V hV W)
  have hb0 : Below w.heap.size w (w.alloc (.cells (lA (limb V)) 85)) := (Below.refl _ _).alloc (Nat.le_refl _) _
  have q0 := heap_alloc_new w (.cells (lA (limb V)) 85)
  have HB0 := Lib.hid hb0
  have HZ : Hid ((w.alloc (.cells (lA (limb V)) 85)).heap.size = w.heap.size + 1) := by show _ = _; simp
  have Q0 := Lib.hid q0
  obtain ⟨n, hn⟩ : ∃ n, n = (blen V + 7) / 8 := ⟨_, rfl⟩
  have HN := Lib.hid hn
  have hn2 : n ≤ 288 := by omega
  have hne : ((blen V : Int) + 7) / 8 = n := by omega
  clear hV hb0 q0 hn
  go_enter Tryz.func77, Tryz.ntmps77
  go_wp2_with (refine wpList_load_row rfl 85 _ rfl w.heap.size rfl 85 _ _ _ Q0.out und38 rfl (info38' _) ?_)
  refine (HL.out _).mono ?_
  rintro e X ⟨rfl, hbX⟩
  have R0 := Lib.hid (below_heapAt hbX ⟨by have := HZ.out; omega, Q0.out⟩)
  have HX := Lib.hid (HB0.out.trans (hbX.mono HB0.out.size))
  have hmk := make_bytes n (by omega) X
  clear hbX HL Q0 HB0 HZ
  go_wp2_with fail
  have B0 : Hid (BRow (X.alloc (.cells (rowB (List.replicate n 0)) 5)) X.heap.size (bytesG V n 0)) := by show BRow _ _ _; rw [bytesG_zero]; exact heap_alloc_new X _
  have hb1 : Below X.heap.size X (X.alloc (.cells (rowB (List.replicate n 0)) 5)) := (Below.refl _ _).alloc (Nat.le_refl _) _
  have HB1 := Lib.hid (HX.out.trans (hb1.mono HX.out.size))
  have R1 := Lib.hid (below_heapAt hb1 ⟨(Array.getElem?_eq_some_iff.1 R0.out).1, R0.out⟩)
  have hlt0 : Hid (w.heap.size < X.heap.size) := (Array.getElem?_eq_some_iff.1 R0.out).1
  generalize X.alloc (.cells (rowB (List.replicate n 0)) 5) = Y at *
  have hXs := X.heap.size
  obtain ⟨g, hg⟩ : ∃ g, g = X.heap.size := ⟨_, rfl⟩
  rw [← hg] at B0 hlt0 ⊢
  have HGW : Hid (w.heap.size ≤ g) := Nat.le_of_lt hlt0.out
  clear hb1 hmk HX R0 hg hXs
  rw [hne]
  clear hne
  go_loopw [5, 13] (fun _ i wr => ∃ k : Nat, k ≤ n ∧ i = .int .i64 k ∧ Hid (BRow wr g (bytesG V n k)) ∧ Hid (wr.heap[w.heap.size]? = some (.cells (lA (limb V)) 85 (0, 0))) ∧ Hid (Below w.heap.size w wr)) (fun _ i _ => n - (intOf i).toNat)
  case atStart => exact ⟨0, Nat.zero_le _, rfl, B0, R1, HB1⟩
  case round =>
    obtain ⟨k, hk, rfl, hB, hR, hW⟩ := hrel
    by_cases hkn : k < n
    · obtain ⟨q, hq⟩ : ∃ q, q = k / 8 := ⟨_, rfl⟩
      obtain ⟨m, hm⟩ : ∃ m, m = n - 1 - k := ⟨_, rfl⟩
      have pq1 : (0 : Int) ≤ (k : Int) / 8 := by omega
      have bq1 : (k : Int) / 8 < 36 := by omega
      have ea : ((n : Int) - 1 - k).toNat = m := by omega
      have pa : (0 : Int) ≤ (n : Int) - 1 - k := by omega
      have ba : (n : Int) - 1 - k < (n : Int) := by omega
      have hq36 : q < 36 := by omega
      have hqI : (q : Int) < 36 := by omega
      have hmn : m < n := by omega
      have c0 : wr.cell? ⟨w.heap.size, q, none⟩ = some (.int .u64 (limb V q)) := by rw [cell_of_row wr _ _ _ _ _ hR.out]; exact lA_at _ _ hq36
      have HBY : Hid (limb V q / 2 ^ (k % 8 * 8) % 256 = V / 2 ^ (8 * k) % 256) := by show _ = _; rw [hq]; exact byte_limb V k
      subst hq hm
      have hf := hB.out.open_ (n - 1 - k)
      have hd := hB.out.cell (n - 1 - k) (by rw [bytesG_len]; exact hmn)
      have hset := hB.out.set (n - 1 - k) (V / 2 ^ (8 * k) % 256)
      rw [bytesG_set V n k hkn] at hset
      have hgl := hB.out.lt
      have hne2 : g ≠ w.heap.size := by intro e; have h1 := hB.out; have h2 := hR.out; rw [e] at h1; unfold BRow at h1; rw [h1] at h2; simp at h2
      generalize limb V (k / 8) = L at *
      generalize (bytesG V n k)[n - 1 - k]'_ = z at *
      have HSET := Lib.hid hset
      clear hset hB
      go_wp2_with fail
      have hv : (L : Int) / 2 ^ (k % 8 * 8) % 256 = ((V / 2 ^ (8 * k) % 256 : Nat) : Int) := by
        rw [← HBY.out]; simp
      rw [hv]
      have hR2 : Hid ((wr.setCell ⟨g, n - 1 - k, none⟩ (.int .u8 ((V / 2 ^ (8 * k) % 256 : Nat) : Int))).heap[w.heap.size]? = some (.cells (lA (limb V)) 85 (0, 0))) := (Go.Proofs.YtjcdnaandbockaaGreat.other_cell wr g (n - 1 - k) _ w.heap.size hne2).trans hR.out
      have hW2 : Hid (Below w.heap.size w (wr.setCell ⟨g, n - 1 - k, none⟩ (.int .u8 ((V / 2 ^ (8 * k) % 256 : Nat) : Int)))) := hW.out.setCell HGW.out _
      clear hv
      go_roundw
      case rel => exact ⟨k + 1, by omega, by go_num, HSET, hR2, hW2⟩
      case measure => simp [intOf]; omega
    · have hk' : k = n := by omega
      subst hk'
      have HE : Hid (BRow wr g (bytesN V)) := by show BRow _ _ _; rw [← bytesG_all, ← HN.out]; exact hB.out
      have hlen : k = (bytesN V).length := by rw [bytesN_len]; exact HN.out
      have HLn := Lib.hid hlen
      clear hlen hB
      go_wp2_with fail
      go_ret
      exact ⟨g, by rw [← HLn.out]; rfl, HGW.out, HE.out, hW.out⟩
end Go.Proofs.YtjcdnaandbockaaGreat

namespace Go.Proofs.YtjcdnaandbockaaGreat
open Go.RowKit Go.Shelf
attribute [local go_sem] Oper.semAt_some
set_option maxRecDepth 100000
set_option maxHeartbeats 4000000

/-- the bytes of what a sum knows -/
def encN (f : Facts) : List Nat := (f.saw + 8 * f.zero) :: (if negN f.V = true then 1 else 0) :: bytesN (absN f.V)

def bvals (l : List Nat) : List Value := l.map fun x : Nat => Value.int .u8 (x : Int)
/-- a new slice of bytes -/
structure NewBs (B : Nat) (w : World) (v : Value) (l : List Nat) : Prop where
  own : w.ownsRow B 5 1 v l.length (bvals l)
  len : l.length ≤ 17592186044416
theorem own_keepB {B e s n : Nat} {w w' : World} {v : Value} {xs : List Value} (h : w.ownsRow B e s v n xs) (hb : Below w.heap.size w w') : w'.ownsRow B e s v n xs := by
  refine ⟨h.1, ?_⟩
  rcases h.2 with h | ⟨g, cap, cur, h1, h2, h3, h4⟩
  · exact .inl h
  · exact .inr ⟨g, cap, cur, h1, h2, (hb.block g (Array.getElem?_eq_some_iff.1 h3).1).trans h3, h4⟩
theorem own_base9 {B B' e s n : Nat} {w : World} {v : Value} {xs : List Value} (h : w.ownsRow B e s v n xs) (hb : B' ≤ B) : w.ownsRow B' e s v n xs := by
  refine ⟨h.1, ?_⟩
  rcases h.2 with h | ⟨g, cap, cur, h1, h2, h3, h4⟩
  · exact .inl h
  · exact .inr ⟨g, cap, cur, h1, Nat.le_trans hb h2, h3, h4⟩
theorem NewBs.keep {B : Nat} {w w' : World} {v : Value} {l : List Nat} (h : NewBs B w v l) (hb : Below w.heap.size w w') : NewBs B w' v l := ⟨own_keepB h.own hb, h.len⟩
theorem NewBs.base {B B' : Nat} {w : World} {v : Value} {l : List Nat} (h : NewBs B w v l) (hb : B' ≤ B) : NewBs B' w v l := ⟨own_base9 h.own hb, h.len⟩
theorem BRow.keep9 {w w' : World} {b : Nat} {l : List Nat} (h : BRow w b l) (hb : Below w.heap.size w w') : BRow w' b l := (hb.block b h.lt).trans h

theorem append_bytes {W : World} {base : Nat} {v : Value} {n : Nat} {xs : List Value} (hown : W.ownsRow base 5 1 v n xs) {g : Nat} {l : List Nat} (h : BRow W g l) (hn : n + l.length ≤ 17592186044416) (hbase : base ≤ W.heap.size) :
    ∃ v' w', (Builtin.append_ #[46, 46] 46 #[v, .slice (some ⟨g, 0, none⟩) l.length l.length]).run Tryz.prog W = .ok v' w' ∧ w'.ownsRow base 5 1 v' (n + l.length) (xs ++ bvals l) ∧ W.grownBy w' v.ownBlock := by
  obtain ⟨i0, hi, hz0, hz1, hz2⟩ := info_parts Tryz.info5
  obtain ⟨v', w', h1, h2, h3, _⟩ := run_append_own (P := Tryz.prog) (w := W) base 46 46 5 i0 (.int .u8 0) 1 1 Tryz.underlying46 hi hz0 hz1 hz2 rfl (by decide) v n xs hown ⟨g, 0, none⟩ l.length l.length (bvals l) (by simp [bvals])
    (fun j u hj => by
      have hjl : j < l.length := by have := (List.getElem?_eq_some_iff.1 hj).1; simpa [bvals] using this
      have e : (⟨g, 0, none⟩ : Addr).add j = ⟨g, j, none⟩ := by unfold Addr.add; split <;> simp_all
      rw [e, h.cell j hjl]
      simpa [bvals, hjl] using hj)
    (by intro u hu; obtain ⟨y, _, rfl⟩ := List.mem_map.1 hu; rfl) (by unfold maxLen; omega) (by omega) hbase
  exact ⟨v', w', h1, h2, h3⟩
theorem enc_new {B a s : Nat} {w : World} {v : Value} {l : List Nat} {f : Facts} (h : w.ownsRow B 5 1 v (2 + l.length) ([.int .u8 (a : Int), .int .u8 (s : Int)] ++ bvals l)) (hl : l.length ≤ 1000) (he : encN f = a :: s :: l) : NewBs B w v (encN f) := by
  rw [he]
  refine ⟨?_, by simp; omega⟩
  have e : (a :: s :: l).length = 2 + l.length := by simp; omega
  rw [e]
  exact h

theorem shl3 (z : Nat) (hz : z < 32) (w : World) : (binOp .shl 5 (.int .u8 z) (.int .u64 3)).run Tryz.prog w = .ok (.int .u8 ((8 * z : Nat) : Int)) w := by
  simp [go_sem]
  rw [IntKind.wrap_u8]; omega
theorem or8 (s z : Nat) (hs : s < 8) (hz : z < 32) (w : World) : (binOp .or 5 (.int .u8 s) (.int .u8 ((8 * z : Nat) : Int))).run Tryz.prog w = .ok (.int .u8 ((s + 8 * z : Nat) : Int)) w := by
  have h : bits .or .u8 s ((8 * z : Nat) : Int) = ((s ||| (8 * z) : Nat) : Int) := (bits_nat .u8 8 (by decide) (fun n h0 h1 => by rw [IntKind.wrap_u8]; omega) s (8 * z) (by omega) (by omega)).2
  have e : s ||| (8 * z) = s + 8 * z := by
    have := Nat.two_pow_add_eq_or_of_lt (i := 3) (b := s) (by simpa using hs) z
    rw [Nat.or_comm, show 8 * z = 2 ^ 3 * z from rfl, ← this]; omega
  rw [e] at h
  simp [go_sem]
  simpa using h

theorem sem_call1 {P : Program} {o : Oper} {a : Act} {w : World} {g : FuncId} {x : Operand} {ts : Array TypeId} {vx : Value} (hop : o.op = .call { callee := .value (.func g), args := #[x], argTypes := ts }) (hx : a.eval x = vx)
    (eg : ∀ args w, (callFunc g args).run P w = .ok (.enter g args) w) : (o.semAt none a.eval).run P w = .ok (.enter g #[vx]) w :=
  sem_call hop (by simp [hx]) eg

theorem encode_any {w : World} {b o : Nat} {f : Facts} (h : FIn w b o f) (hs : f.saw < 8) (hz : f.zero < 32) (hV : f.V < big) :
    Calls Tryz.prog 51 #[.pointer (some ⟨b, o, none⟩)] w fun e w' => ∃ v, e = .returned v ∧ NewBs w.heap.size w' v (encN f) ∧ Below w.heap.size w w' := by
  obtain ⟨c1, c2, hb⟩ := h.cells
  obtain ⟨V, saw, zer⟩ := f
  obtain ⟨t, pre, post, ho, hg⟩ := h
  have HF := Lib.hid hg
  have HB := Lib.hid (fun W => bytes_any (absN V) (absN_lt hV) W)
  have HA := Lib.hid (fun W => absolute_any V hV W)
  have HN := Lib.hid (fun W => negative_any V W)
  have HV := Lib.hid hV
  simp only at c1 c2 hs hz
  have HO := Lib.hid ho
  have HLN : Hid ((bytesN (absN V)).length ≤ 1000) := by
    show _ ≤ _
    rw [bytesN_len]
    have : blen (absN V) ≤ 2304 := by rw [blen_le]; have h9 := absN_lt hV; unfold big at h9; exact h9
    omega
  have HSHL := Lib.hid (fun W => shl3 zer hz W)
  have HORR := Lib.hid (fun W => or8 saw zer hs hz W)
  clear hg hV
  go_enter Tryz.func51, Tryz.ntmps51
  go_wp2_with (refine wpList_load_part rfl 85 _ rfl b o rfl t pre (lA (limb V)) (#[.int .u8 saw, .int .u8 zer] ++ post) _ HF.out ho.symm und38 rfl (info38' _) ?_)
  refine (HN.out _).mono ?_
  rintro e X ⟨rfl, hbX⟩
  have HX : Hid (X.heap[b]? = some (.cells (pre ++ lA (limb V) ++ (#[.int .u8 saw, .int .u8 zer] ++ post)) t (0, 0))) := (hbX.block _ hb).trans HF.out
  have HBX := Lib.hid hbX
  have HXF : Hid (FIn X b o ⟨V, saw, zer⟩) := ⟨t, pre, post, ho, HX.out⟩
  have HBL : Hid (b < X.heap.size) := HXF.out.cells.2.2
  clear hbX c1 c2
  cases hn : negN V with
  | true =>
    have HENC : Hid (encN ⟨V, saw, zer⟩ = (saw + 8 * zer) :: 1 :: bytesN (absN V)) := by show _ = _; unfold encN; simp [hn]
    clear hn
    go_wp2_with fail
    refine (wpIn_wide (n := 0)).1 ?_
    refine region_det (by kernel_rfl) (I := fun listed a' w' => ∃ (g g2 : Nat) (v : Value), Hid (Below X.heap.size X w') ∧ Hid (listed.getD 11 false = true → listed.getD 18 false = false → w'.ownsRow X.heap.size 5 1 (.slice (some ⟨g, 0, none⟩) 2 2) 2 [.int .u8 ((saw + 8 * zer : Nat) : Int), .int .u8 (1 : Int)]) ∧ Hid (listed.getD 17 false = true → listed.getD 18 false = false → BRow w' g2 (bytesN (absN V))) ∧ Hid (listed.getD 18 false = true → NewBs X.heap.size w' v (encN ⟨V, saw, zer⟩)) ∧ Hid (listed.getD 19 false = true → listed.getD 18 false = true) ∧ Hid (listed.getD 17 false = true → listed.getD 16 false = true) ∧ Hid (listed.getD 18 false = true → listed.getD 11 false = true ∧ listed.getD 17 false = true) ∧ a' = ⟨#[Value.pointer (some (Addr.mk b o none)), undef, (if listed.getD 19 false = true then v else Value.slice none 0 0), Value.int IntKind.u8 1, Value.pointer (some (Addr.mk b o none)), Value.pointer (some (Addr.mk b o none)), Value.pointer (some (Addr.mk b o none)), Value.agg (lA (limb V)), Value.bool true, (if listed.getD 0 false = true then Value.pointer (some ⟨b, o, none⟩) else undef), (if listed.getD 1 false = true then Value.pointer (some ⟨b, o, none⟩) else undef), (if listed.getD 2 false = true then Value.pointer (some ⟨b, (o + 36), none⟩) else undef), (if listed.getD 3 false = true then Value.int IntKind.u8 ↑saw else undef), (if listed.getD 4 false = true then Value.pointer (some ⟨b, o, none⟩) else undef), (if listed.getD 5 false = true then Value.pointer (some ⟨b, o, none⟩) else undef), (if listed.getD 6 false = true then Value.pointer (some ⟨b, (o + 37), none⟩) else undef), (if listed.getD 7 false = true then Value.int IntKind.u8 ↑zer else undef), (if listed.getD 8 false = true then Value.int IntKind.u8 ((8 * zer : Nat) : Int) else undef), (if listed.getD 9 false = true then Value.int IntKind.u8 ((saw + 8 * zer : Nat) : Int) else undef), (if listed.getD 10 false = true then Value.int IntKind.u8 1 else undef), (if listed.getD 11 false = true then Value.slice (some ⟨g, 0, none⟩) 2 2 else undef), (if listed.getD 12 false = true then Value.pointer (some ⟨b, o, none⟩) else undef), (if listed.getD 13 false = true then Value.pointer (some ⟨b, o, none⟩) else undef), (if listed.getD 14 false = true then Value.pointer (some ⟨b, o, none⟩) else undef), (if listed.getD 15 false = true then Value.agg (lA (limb V)) else undef), (if listed.getD 16 false = true then Value.agg (lA (limb (absN V))) else undef), (if listed.getD 17 false = true then Value.slice (some ⟨g2, 0, none⟩) (bytesN (absN V)).length (bytesN (absN V)).length else undef), (if listed.getD 18 false = true then v else undef)], []⟩) (hup_check (by kernel_rfl)) ?h0 ?step ?fin
    case h0 => exact ⟨0, 0, .slice none 0 0, (Below.refl _ _).drew, (fun h => by simp at h), (fun h => by simp at h), (fun h => by simp at h), (fun h => by simp at h), (fun h => by simp at h), (fun h => by simp at h), rfl⟩
    case step =>
      intro listed a' w' i hs hbi hdep hi ⟨g, g2, v, IB, IO, IR, IV, J19, J17, J18, ha⟩
      obtain ⟨ls⟩ := listed
      match ls, hs with
      | [x0, x1, x2, x3, x4, x5, x6, x7, x8, x9, x10, x11, x12, x13, x14, x15, x16, x17, x18, x19], _ =>
      subst ha
      have hi' : i = 0 ∨ i = 1 ∨ i = 2 ∨ i = 3 ∨ i = 4 ∨ i = 5 ∨ i = 6 ∨ i = 7 ∨ i = 8 ∨ i = 9 ∨ i = 10 ∨ i = 11 ∨ i = 12 ∨ i = 13 ∨ i = 14 ∨ i = 15 ∨ i = 16 ∨ i = 17 ∨ i = 18 ∨ i = 19 := by simp at hi; omega
      have bx : FIn w' b o ⟨V, saw, zer⟩ := HXF.out.keep IB.out
      obtain ⟨c1, c2, cl⟩ := bx.cells
      simp only at c1 c2
      have hsz : X.heap.size ≤ w'.heap.size := IB.out.size
      rcases hi' with rfl | rfl | rfl | rfl | rfl | rfl | rfl | rfl | rfl | rfl | rfl | rfl | rfl | rfl | rfl | rfl | rfl | rfl | rfl | rfl
      · obtain rfl : x0 = false := by simpa using hbi
        refine wpOpIn_plain rfl rfl rfl ?_
        exact ⟨g, g2, v, IB, IO, IR, IV, J19, J17, J18, rfl⟩
      · obtain rfl : x1 = false := by simpa using hbi
        obtain rfl : x0 = true := hdep _ rfl ⟨0, .data⟩ (by simp) rfl
        refine wpOpIn_plain (v := Value.pointer (some ⟨b, o, none⟩)) (w' := w') rfl rfl (by simp [Oper.semAt, execOp, go_sem]) ?_
        exact ⟨g, g2, v, IB, IO, IR, IV, J19, J17, J18, rfl⟩
      · obtain rfl : x2 = false := by simpa using hbi
        obtain rfl : x1 = true := hdep _ rfl ⟨1, .data⟩ (by simp) rfl
        refine wpOpIn_plain (v := Value.pointer (some ⟨b, (o + 36), none⟩)) (w' := w') rfl rfl (by simp [Oper.semAt, execOp, go_sem]) ?_
        exact ⟨g, g2, v, IB, IO, IR, IV, J19, J17, J18, rfl⟩
      · obtain rfl : x3 = false := by simpa using hbi
        obtain rfl : x2 = true := hdep _ rfl ⟨2, .data⟩ (by simp) rfl
        refine wpOpIn_plain (v := Value.int IntKind.u8 ↑saw) (w' := w') rfl rfl (by simp [Oper.semAt, execOp, go_sem, c1]) ?_
        exact ⟨g, g2, v, IB, IO, IR, IV, J19, J17, J18, rfl⟩
      · obtain rfl : x4 = false := by simpa using hbi
        refine wpOpIn_plain rfl rfl rfl ?_
        exact ⟨g, g2, v, IB, IO, IR, IV, J19, J17, J18, rfl⟩
      · obtain rfl : x5 = false := by simpa using hbi
        obtain rfl : x4 = true := hdep _ rfl ⟨4, .data⟩ (by simp) rfl
        refine wpOpIn_plain (v := Value.pointer (some ⟨b, o, none⟩)) (w' := w') rfl rfl (by simp [Oper.semAt, execOp, go_sem]) ?_
        exact ⟨g, g2, v, IB, IO, IR, IV, J19, J17, J18, rfl⟩
      · obtain rfl : x6 = false := by simpa using hbi
        obtain rfl : x5 = true := hdep _ rfl ⟨5, .data⟩ (by simp) rfl
        refine wpOpIn_plain (v := Value.pointer (some ⟨b, (o + 37), none⟩)) (w' := w') rfl rfl (by simp [Oper.semAt, execOp, go_sem]) ?_
        exact ⟨g, g2, v, IB, IO, IR, IV, J19, J17, J18, rfl⟩
      · obtain rfl : x7 = false := by simpa using hbi
        obtain rfl : x6 = true := hdep _ rfl ⟨6, .data⟩ (by simp) rfl
        refine wpOpIn_plain (v := Value.int IntKind.u8 ↑zer) (w' := w') rfl rfl (by simp [Oper.semAt, execOp, go_sem, c2]) ?_
        exact ⟨g, g2, v, IB, IO, IR, IV, J19, J17, J18, rfl⟩
      · obtain rfl : x8 = false := by simpa using hbi
        obtain rfl : x7 = true := hdep _ rfl ⟨7, .data⟩ (by simp) rfl
        refine wpOpIn_plain (v := Value.int IntKind.u8 ((8 * zer : Nat) : Int)) (w' := w') rfl rfl (sem_bin (vx := Value.int IntKind.u8 ↑zer) (vy := Value.int IntKind.u64 3) rfl rfl rfl rfl (HSHL.out w')) ?_
        exact ⟨g, g2, v, IB, IO, IR, IV, J19, J17, J18, rfl⟩
      · obtain rfl : x9 = false := by simpa using hbi
        obtain rfl : x3 = true := hdep _ rfl ⟨3, .data⟩ (by simp) rfl
        obtain rfl : x8 = true := hdep _ rfl ⟨8, .data⟩ (by simp) rfl
        refine wpOpIn_plain (v := Value.int IntKind.u8 ((saw + 8 * zer : Nat) : Int)) (w' := w') rfl rfl (sem_bin (vx := Value.int IntKind.u8 ↑saw) (vy := Value.int IntKind.u8 ((8 * zer : Nat) : Int)) rfl rfl rfl rfl (HORR.out w')) ?_
        exact ⟨g, g2, v, IB, IO, IR, IV, J19, J17, J18, rfl⟩
      · obtain rfl : x10 = false := by simpa using hbi
        refine wpOpIn_plain rfl rfl rfl ?_
        exact ⟨g, g2, v, IB, IO, IR, IV, J19, J17, J18, rfl⟩
      · obtain rfl : x11 = false := by simpa using hbi
        obtain rfl : x9 = true := hdep _ rfl ⟨9, .data⟩ (by simp) rfl
        obtain rfl : x10 = true := hdep _ rfl ⟨10, .data⟩ (by simp) rfl
        obtain rfl : x18 = false := Bool.eq_false_iff.2 fun h => by have := (J18.out h).1; cases this
        refine wpOpIn_plain (v := Value.slice (some ⟨w'.heap.size, 0, none⟩) 2 2) (w' := w'.alloc (.cells #[Value.int IntKind.u8 ((saw + 8 * zer : Nat) : Int), Value.int IntKind.u8 1] 5)) rfl rfl (by simp [Oper.semAt, execOp, go_sem]) ?_
        have hb9 : Below w'.heap.size w' (w'.alloc (.cells #[Value.int IntKind.u8 ((saw + 8 * zer : Nat) : Int), Value.int IntKind.u8 1] 5)) := (Below.refl _ _).alloc (Nat.le_refl _) _
        exact ⟨w'.heap.size, g2, v, (IB.out.trans (hb9.mono hsz)), (fun _ _ => own_base9 (World.ownsRow_lit (base := w'.heap.size) w' #[Value.int IntKind.u8 ((saw + 8 * zer : Nat) : Int), Value.int IntKind.u8 1] 2 (Nat.le_refl _) (by unfold maxLen; omega) rfl) hsz), (fun h h' => (IR.out h h').keep9 hb9), (fun h => (IV.out h).keep hb9), J19, J17, (fun h => ⟨rfl, (J18.out h).2⟩), rfl⟩
      · obtain rfl : x12 = false := by simpa using hbi
        refine wpOpIn_plain rfl rfl rfl ?_
        exact ⟨g, g2, v, IB, IO, IR, IV, J19, J17, J18, rfl⟩
      · obtain rfl : x13 = false := by simpa using hbi
        obtain rfl : x12 = true := hdep _ rfl ⟨12, .data⟩ (by simp) rfl
        refine wpOpIn_plain (v := Value.pointer (some ⟨b, o, none⟩)) (w' := w') rfl rfl (by simp [Oper.semAt, execOp, go_sem]) ?_
        exact ⟨g, g2, v, IB, IO, IR, IV, J19, J17, J18, rfl⟩
      · obtain rfl : x14 = false := by simpa using hbi
        obtain rfl : x13 = true := hdep _ rfl ⟨13, .data⟩ (by simp) rfl
        refine wpOpIn_plain (v := Value.pointer (some ⟨b, o, none⟩)) (w' := w') rfl rfl (by simp [Oper.semAt, execOp, go_sem]) ?_
        exact ⟨g, g2, v, IB, IO, IR, IV, J19, J17, J18, rfl⟩
      · obtain rfl : x15 = false := by simpa using hbi
        obtain rfl : x14 = true := hdep _ rfl ⟨14, .data⟩ (by simp) rfl
        refine wpOpIn_load_part rfl rfl 85 _ rfl b o rfl t pre (lA (limb V)) (#[.int .u8 saw, .int .u8 zer] ++ post) _ ((IB.out.block _ HBL.out).trans HX.out) HO.out.symm und38 rfl (info38' _) ?_
        exact ⟨g, g2, v, IB, IO, IR, IV, J19, J17, J18, rfl⟩
      · obtain rfl : x16 = false := by simpa using hbi
        obtain rfl : x15 = true := hdep _ rfl ⟨15, .data⟩ (by simp) rfl
        obtain rfl : x17 = false := Bool.eq_false_iff.2 fun h => by have := J17.out h; cases this
        refine wpOpIn_call (args := #[Value.agg (lA (limb V))]) rfl rfl (sem_call1 rfl rfl (enters_of Tryz.func76 (by kernel_rfl) rfl)) (HA.out w') ?_
        rintro e W ⟨rfl, hb⟩
        exact ⟨_, rfl, g, g2, v, (IB.out.trans (hb.mono hsz)), (fun h h' => own_keepB (IO.out h h') hb), (fun h h' => (IR.out h h').keep9 hb), (fun h => (IV.out h).keep hb), J19, (fun _ => rfl), J18, rfl⟩
      · obtain rfl : x17 = false := by simpa using hbi
        obtain rfl : x16 = true := hdep _ rfl ⟨16, .data⟩ (by simp) rfl
        obtain rfl : x18 = false := Bool.eq_false_iff.2 fun h => by have := (J18.out h).2; cases this
        refine wpOpIn_call (args := #[Value.agg (lA (limb (absN V)))]) rfl rfl (sem_call1 rfl rfl (enters_of Tryz.func77 (by kernel_rfl) rfl)) (HB.out w') ?_
        rintro e W ⟨gn, rfl, hgn, hrow, hb⟩
        exact ⟨_, rfl, g, gn, v, (IB.out.trans (hb.mono hsz)), (fun h h' => own_keepB (IO.out h h') hb), (fun _ _ => hrow), (fun h => (IV.out h).keep hb), J19, (fun _ => rfl), (fun h => ⟨(J18.out h).1, rfl⟩), rfl⟩
      · obtain rfl : x18 = false := by simpa using hbi
        obtain rfl : x11 = true := hdep _ rfl ⟨11, .data⟩ (by simp) rfl
        obtain rfl : x17 = true := hdep _ rfl ⟨17, .data⟩ (by simp) rfl
        obtain rfl : x19 = false := Bool.eq_false_iff.2 fun h => by have := J19.out h; cases this
        have hown := IO.out rfl rfl
        have hrow := IR.out rfl rfl
        obtain ⟨v', w2, hrun, hown2, hgr⟩ := append_bytes hown hrow (by have := HLN.out; omega) hsz
        refine wpOpIn_append rfl rfl _ _ 46 rfl rfl rfl hrun ?_
        exact ⟨g, g2, v', ((IB.out).grown hgr hsz (fun k hk => by cases hk; exact (hown.lt _ rfl).1)), (fun _ h => by cases h), (fun _ h => by cases h), (fun _ => enc_new hown2 HLN.out HENC.out), (fun _ => rfl), J17, (fun _ => ⟨rfl, rfl⟩), rfl⟩
      · obtain rfl : x19 = false := by simpa using hbi
        obtain rfl : x18 = true := hdep _ rfl ⟨18, .data⟩ (by simp) rfl
        refine wpOpIn_plain rfl rfl rfl ?_
        exact ⟨g, g2, v, IB, IO, IR, IV, (fun _ => rfl), J17, J18, rfl⟩
    case fin =>
    intro listed a' Z hs hall ⟨g, g2, v, IB, IO, IR, IV, J19, J17, J18, ha⟩
    obtain ⟨ls⟩ := listed
    match ls, hs with
    | [x0, x1, x2, x3, x4, x5, x6, x7, x8, x9, x10, x11, x12, x13, x14, x15, x16, x17, x18, x19], _ =>
    obtain rfl : x0 = true := hall 0 (by simp)
    obtain rfl : x1 = true := hall 1 (by simp)
    obtain rfl : x2 = true := hall 2 (by simp)
    obtain rfl : x3 = true := hall 3 (by simp)
    obtain rfl : x4 = true := hall 4 (by simp)
    obtain rfl : x5 = true := hall 5 (by simp)
    obtain rfl : x6 = true := hall 6 (by simp)
    obtain rfl : x7 = true := hall 7 (by simp)
    obtain rfl : x8 = true := hall 8 (by simp)
    obtain rfl : x9 = true := hall 9 (by simp)
    obtain rfl : x10 = true := hall 10 (by simp)
    obtain rfl : x11 = true := hall 11 (by simp)
    obtain rfl : x12 = true := hall 12 (by simp)
    obtain rfl : x13 = true := hall 13 (by simp)
    obtain rfl : x14 = true := hall 14 (by simp)
    obtain rfl : x15 = true := hall 15 (by simp)
    obtain rfl : x16 = true := hall 16 (by simp)
    obtain rfl : x17 = true := hall 17 (by simp)
    obtain rfl : x18 = true := hall 18 (by simp)
    obtain rfl : x19 = true := hall 19 (by simp)
    subst ha
    have hv := IV.out rfl
    have hb := HBX.out.trans (IB.out.mono HBX.out.size)
    clear J17 J18 J19 IO IR IV IB hall hs
    dsimp only [Exit.then, Exit.inBlock]
    go_wp2_with fail
    go_ret
    exact ⟨v, rfl, hv.base HBX.out.size, hb⟩
  | false =>
    have HENC : Hid (encN ⟨V, saw, zer⟩ = (saw + 8 * zer) :: 0 :: bytesN (absN V)) := by show _ = _; unfold encN; simp [hn]
    clear hn
    go_wp2_with fail
    refine (wpIn_wide (n := 0)).1 ?_
    refine region_det (by kernel_rfl) (I := fun listed a' w' => ∃ (g g2 : Nat) (v : Value), Hid (Below X.heap.size X w') ∧ Hid (listed.getD 11 false = true → listed.getD 18 false = false → w'.ownsRow X.heap.size 5 1 (.slice (some ⟨g, 0, none⟩) 2 2) 2 [.int .u8 ((saw + 8 * zer : Nat) : Int), .int .u8 (0 : Int)]) ∧ Hid (listed.getD 17 false = true → listed.getD 18 false = false → BRow w' g2 (bytesN (absN V))) ∧ Hid (listed.getD 18 false = true → NewBs X.heap.size w' v (encN ⟨V, saw, zer⟩)) ∧ Hid (listed.getD 19 false = true → listed.getD 18 false = true) ∧ Hid (listed.getD 17 false = true → listed.getD 16 false = true) ∧ Hid (listed.getD 18 false = true → listed.getD 11 false = true ∧ listed.getD 17 false = true) ∧ a' = ⟨#[Value.pointer (some (Addr.mk b o none)), undef, (if listed.getD 19 false = true then v else Value.slice none 0 0), Value.int IntKind.u8 0, Value.pointer (some (Addr.mk b o none)), Value.pointer (some (Addr.mk b o none)), Value.pointer (some (Addr.mk b o none)), Value.agg (lA (limb V)), Value.bool false, (if listed.getD 0 false = true then Value.pointer (some ⟨b, o, none⟩) else undef), (if listed.getD 1 false = true then Value.pointer (some ⟨b, o, none⟩) else undef), (if listed.getD 2 false = true then Value.pointer (some ⟨b, (o + 36), none⟩) else undef), (if listed.getD 3 false = true then Value.int IntKind.u8 ↑saw else undef), (if listed.getD 4 false = true then Value.pointer (some ⟨b, o, none⟩) else undef), (if listed.getD 5 false = true then Value.pointer (some ⟨b, o, none⟩) else undef), (if listed.getD 6 false = true then Value.pointer (some ⟨b, (o + 37), none⟩) else undef), (if listed.getD 7 false = true then Value.int IntKind.u8 ↑zer else undef), (if listed.getD 8 false = true then Value.int IntKind.u8 ((8 * zer : Nat) : Int) else undef), (if listed.getD 9 false = true then Value.int IntKind.u8 ((saw + 8 * zer : Nat) : Int) else undef), (if listed.getD 10 false = true then Value.int IntKind.u8 0 else undef), (if listed.getD 11 false = true then Value.slice (some ⟨g, 0, none⟩) 2 2 else undef), (if listed.getD 12 false = true then Value.pointer (some ⟨b, o, none⟩) else undef), (if listed.getD 13 false = true then Value.pointer (some ⟨b, o, none⟩) else undef), (if listed.getD 14 false = true then Value.pointer (some ⟨b, o, none⟩) else undef), (if listed.getD 15 false = true then Value.agg (lA (limb V)) else undef), (if listed.getD 16 false = true then Value.agg (lA (limb (absN V))) else undef), (if listed.getD 17 false = true then Value.slice (some ⟨g2, 0, none⟩) (bytesN (absN V)).length (bytesN (absN V)).length else undef), (if listed.getD 18 false = true then v else undef)], []⟩) (hup_check (by kernel_rfl)) ?h0 ?step ?fin
    case h0 => exact ⟨0, 0, .slice none 0 0, (Below.refl _ _).drew, (fun h => by simp at h), (fun h => by simp at h), (fun h => by simp at h), (fun h => by simp at h), (fun h => by simp at h), (fun h => by simp at h), rfl⟩
    case step =>
      intro listed a' w' i hs hbi hdep hi ⟨g, g2, v, IB, IO, IR, IV, J19, J17, J18, ha⟩
      obtain ⟨ls⟩ := listed
      match ls, hs with
      | [x0, x1, x2, x3, x4, x5, x6, x7, x8, x9, x10, x11, x12, x13, x14, x15, x16, x17, x18, x19], _ =>
      subst ha
      have hi' : i = 0 ∨ i = 1 ∨ i = 2 ∨ i = 3 ∨ i = 4 ∨ i = 5 ∨ i = 6 ∨ i = 7 ∨ i = 8 ∨ i = 9 ∨ i = 10 ∨ i = 11 ∨ i = 12 ∨ i = 13 ∨ i = 14 ∨ i = 15 ∨ i = 16 ∨ i = 17 ∨ i = 18 ∨ i = 19 := by simp at hi; omega
      have bx : FIn w' b o ⟨V, saw, zer⟩ := HXF.out.keep IB.out
      obtain ⟨c1, c2, cl⟩ := bx.cells
      simp only at c1 c2
      have hsz : X.heap.size ≤ w'.heap.size := IB.out.size
      rcases hi' with rfl | rfl | rfl | rfl | rfl | rfl | rfl | rfl | rfl | rfl | rfl | rfl | rfl | rfl | rfl | rfl | rfl | rfl | rfl | rfl
      · obtain rfl : x0 = false := by simpa using hbi
        refine wpOpIn_plain rfl rfl rfl ?_
        exact ⟨g, g2, v, IB, IO, IR, IV, J19, J17, J18, rfl⟩
      · obtain rfl : x1 = false := by simpa using hbi
        obtain rfl : x0 = true := hdep _ rfl ⟨0, .data⟩ (by simp) rfl
        refine wpOpIn_plain (v := Value.pointer (some ⟨b, o, none⟩)) (w' := w') rfl rfl (by simp [Oper.semAt, execOp, go_sem]) ?_
        exact ⟨g, g2, v, IB, IO, IR, IV, J19, J17, J18, rfl⟩
      · obtain rfl : x2 = false := by simpa using hbi
        obtain rfl : x1 = true := hdep _ rfl ⟨1, .data⟩ (by simp) rfl
        refine wpOpIn_plain (v := Value.pointer (some ⟨b, (o + 36), none⟩)) (w' := w') rfl rfl (by simp [Oper.semAt, execOp, go_sem]) ?_
        exact ⟨g, g2, v, IB, IO, IR, IV, J19, J17, J18, rfl⟩
      · obtain rfl : x3 = false := by simpa using hbi
        obtain rfl : x2 = true := hdep _ rfl ⟨2, .data⟩ (by simp) rfl
        refine wpOpIn_plain (v := Value.int IntKind.u8 ↑saw) (w' := w') rfl rfl (by simp [Oper.semAt, execOp, go_sem, c1]) ?_
        exact ⟨g, g2, v, IB, IO, IR, IV, J19, J17, J18, rfl⟩
      · obtain rfl : x4 = false := by simpa using hbi
        refine wpOpIn_plain rfl rfl rfl ?_
        exact ⟨g, g2, v, IB, IO, IR, IV, J19, J17, J18, rfl⟩
      · obtain rfl : x5 = false := by simpa using hbi
        obtain rfl : x4 = true := hdep _ rfl ⟨4, .data⟩ (by simp) rfl
        refine wpOpIn_plain (v := Value.pointer (some ⟨b, o, none⟩)) (w' := w') rfl rfl (by simp [Oper.semAt, execOp, go_sem]) ?_
        exact ⟨g, g2, v, IB, IO, IR, IV, J19, J17, J18, rfl⟩
      · obtain rfl : x6 = false := by simpa using hbi
        obtain rfl : x5 = true := hdep _ rfl ⟨5, .data⟩ (by simp) rfl
        refine wpOpIn_plain (v := Value.pointer (some ⟨b, (o + 37), none⟩)) (w' := w') rfl rfl (by simp [Oper.semAt, execOp, go_sem]) ?_
        exact ⟨g, g2, v, IB, IO, IR, IV, J19, J17, J18, rfl⟩
      · obtain rfl : x7 = false := by simpa using hbi
        obtain rfl : x6 = true := hdep _ rfl ⟨6, .data⟩ (by simp) rfl
        refine wpOpIn_plain (v := Value.int IntKind.u8 ↑zer) (w' := w') rfl rfl (by simp [Oper.semAt, execOp, go_sem, c2]) ?_
        exact ⟨g, g2, v, IB, IO, IR, IV, J19, J17, J18, rfl⟩
      · obtain rfl : x8 = false := by simpa using hbi
        obtain rfl : x7 = true := hdep _ rfl ⟨7, .data⟩ (by simp) rfl
        refine wpOpIn_plain (v := Value.int IntKind.u8 ((8 * zer : Nat) : Int)) (w' := w') rfl rfl (sem_bin (vx := Value.int IntKind.u8 ↑zer) (vy := Value.int IntKind.u64 3) rfl rfl rfl rfl (HSHL.out w')) ?_
        exact ⟨g, g2, v, IB, IO, IR, IV, J19, J17, J18, rfl⟩
      · obtain rfl : x9 = false := by simpa using hbi
        obtain rfl : x3 = true := hdep _ rfl ⟨3, .data⟩ (by simp) rfl
        obtain rfl : x8 = true := hdep _ rfl ⟨8, .data⟩ (by simp) rfl
        refine wpOpIn_plain (v := Value.int IntKind.u8 ((saw + 8 * zer : Nat) : Int)) (w' := w') rfl rfl (sem_bin (vx := Value.int IntKind.u8 ↑saw) (vy := Value.int IntKind.u8 ((8 * zer : Nat) : Int)) rfl rfl rfl rfl (HORR.out w')) ?_
        exact ⟨g, g2, v, IB, IO, IR, IV, J19, J17, J18, rfl⟩
      · obtain rfl : x10 = false := by simpa using hbi
        refine wpOpIn_plain rfl rfl rfl ?_
        exact ⟨g, g2, v, IB, IO, IR, IV, J19, J17, J18, rfl⟩
      · obtain rfl : x11 = false := by simpa using hbi
        obtain rfl : x9 = true := hdep _ rfl ⟨9, .data⟩ (by simp) rfl
        obtain rfl : x10 = true := hdep _ rfl ⟨10, .data⟩ (by simp) rfl
        obtain rfl : x18 = false := Bool.eq_false_iff.2 fun h => by have := (J18.out h).1; cases this
        refine wpOpIn_plain (v := Value.slice (some ⟨w'.heap.size, 0, none⟩) 2 2) (w' := w'.alloc (.cells #[Value.int IntKind.u8 ((saw + 8 * zer : Nat) : Int), Value.int IntKind.u8 0] 5)) rfl rfl (by simp [Oper.semAt, execOp, go_sem]) ?_
        have hb9 : Below w'.heap.size w' (w'.alloc (.cells #[Value.int IntKind.u8 ((saw + 8 * zer : Nat) : Int), Value.int IntKind.u8 0] 5)) := (Below.refl _ _).alloc (Nat.le_refl _) _
        exact ⟨w'.heap.size, g2, v, (IB.out.trans (hb9.mono hsz)), (fun _ _ => own_base9 (World.ownsRow_lit (base := w'.heap.size) w' #[Value.int IntKind.u8 ((saw + 8 * zer : Nat) : Int), Value.int IntKind.u8 0] 2 (Nat.le_refl _) (by unfold maxLen; omega) rfl) hsz), (fun h h' => (IR.out h h').keep9 hb9), (fun h => (IV.out h).keep hb9), J19, J17, (fun h => ⟨rfl, (J18.out h).2⟩), rfl⟩
      · obtain rfl : x12 = false := by simpa using hbi
        refine wpOpIn_plain rfl rfl rfl ?_
        exact ⟨g, g2, v, IB, IO, IR, IV, J19, J17, J18, rfl⟩
      · obtain rfl : x13 = false := by simpa using hbi
        obtain rfl : x12 = true := hdep _ rfl ⟨12, .data⟩ (by simp) rfl
        refine wpOpIn_plain (v := Value.pointer (some ⟨b, o, none⟩)) (w' := w') rfl rfl (by simp [Oper.semAt, execOp, go_sem]) ?_
        exact ⟨g, g2, v, IB, IO, IR, IV, J19, J17, J18, rfl⟩
      · obtain rfl : x14 = false := by simpa using hbi
        obtain rfl : x13 = true := hdep _ rfl ⟨13, .data⟩ (by simp) rfl
        refine wpOpIn_plain (v := Value.pointer (some ⟨b, o, none⟩)) (w' := w') rfl rfl (by simp [Oper.semAt, execOp, go_sem]) ?_
        exact ⟨g, g2, v, IB, IO, IR, IV, J19, J17, J18, rfl⟩
      · obtain rfl : x15 = false := by simpa using hbi
        obtain rfl : x14 = true := hdep _ rfl ⟨14, .data⟩ (by simp) rfl
        refine wpOpIn_load_part rfl rfl 85 _ rfl b o rfl t pre (lA (limb V)) (#[.int .u8 saw, .int .u8 zer] ++ post) _ ((IB.out.block _ HBL.out).trans HX.out) HO.out.symm und38 rfl (info38' _) ?_
        exact ⟨g, g2, v, IB, IO, IR, IV, J19, J17, J18, rfl⟩
      · obtain rfl : x16 = false := by simpa using hbi
        obtain rfl : x15 = true := hdep _ rfl ⟨15, .data⟩ (by simp) rfl
        obtain rfl : x17 = false := Bool.eq_false_iff.2 fun h => by have := J17.out h; cases this
        refine wpOpIn_call (args := #[Value.agg (lA (limb V))]) rfl rfl (sem_call1 rfl rfl (enters_of Tryz.func76 (by kernel_rfl) rfl)) (HA.out w') ?_
        rintro e W ⟨rfl, hb⟩
        exact ⟨_, rfl, g, g2, v, (IB.out.trans (hb.mono hsz)), (fun h h' => own_keepB (IO.out h h') hb), (fun h h' => (IR.out h h').keep9 hb), (fun h => (IV.out h).keep hb), J19, (fun _ => rfl), J18, rfl⟩
      · obtain rfl : x17 = false := by simpa using hbi
        obtain rfl : x16 = true := hdep _ rfl ⟨16, .data⟩ (by simp) rfl
        obtain rfl : x18 = false := Bool.eq_false_iff.2 fun h => by have := (J18.out h).2; cases this
        refine wpOpIn_call (args := #[Value.agg (lA (limb (absN V)))]) rfl rfl (sem_call1 rfl rfl (enters_of Tryz.func77 (by kernel_rfl) rfl)) (HB.out w') ?_
        rintro e W ⟨gn, rfl, hgn, hrow, hb⟩
        exact ⟨_, rfl, g, gn, v, (IB.out.trans (hb.mono hsz)), (fun h h' => own_keepB (IO.out h h') hb), (fun _ _ => hrow), (fun h => (IV.out h).keep hb), J19, (fun _ => rfl), (fun h => ⟨(J18.out h).1, rfl⟩), rfl⟩
      · obtain rfl : x18 = false := by simpa using hbi
        obtain rfl : x11 = true := hdep _ rfl ⟨11, .data⟩ (by simp) rfl
        obtain rfl : x17 = true := hdep _ rfl ⟨17, .data⟩ (by simp) rfl
        obtain rfl : x19 = false := Bool.eq_false_iff.2 fun h => by have := J19.out h; cases this
        have hown := IO.out rfl rfl
        have hrow := IR.out rfl rfl
        obtain ⟨v', w2, hrun, hown2, hgr⟩ := append_bytes hown hrow (by have := HLN.out; omega) hsz
        refine wpOpIn_append rfl rfl _ _ 46 rfl rfl rfl hrun ?_
        exact ⟨g, g2, v', ((IB.out).grown hgr hsz (fun k hk => by cases hk; exact (hown.lt _ rfl).1)), (fun _ h => by cases h), (fun _ h => by cases h), (fun _ => enc_new hown2 HLN.out HENC.out), (fun _ => rfl), J17, (fun _ => ⟨rfl, rfl⟩), rfl⟩
      · obtain rfl : x19 = false := by simpa using hbi
        obtain rfl : x18 = true := hdep _ rfl ⟨18, .data⟩ (by simp) rfl
        refine wpOpIn_plain rfl rfl rfl ?_
        exact ⟨g, g2, v, IB, IO, IR, IV, (fun _ => rfl), J17, J18, rfl⟩
    case fin =>
    intro listed a' Z hs hall ⟨g, g2, v, IB, IO, IR, IV, J19, J17, J18, ha⟩
    obtain ⟨ls⟩ := listed
    match ls, hs with
    | [x0, x1, x2, x3, x4, x5, x6, x7, x8, x9, x10, x11, x12, x13, x14, x15, x16, x17, x18, x19], _ =>
    obtain rfl : x0 = true := hall 0 (by simp)
    obtain rfl : x1 = true := hall 1 (by simp)
    obtain rfl : x2 = true := hall 2 (by simp)
    obtain rfl : x3 = true := hall 3 (by simp)
    obtain rfl : x4 = true := hall 4 (by simp)
    obtain rfl : x5 = true := hall 5 (by simp)
    obtain rfl : x6 = true := hall 6 (by simp)
    obtain rfl : x7 = true := hall 7 (by simp)
    obtain rfl : x8 = true := hall 8 (by simp)
    obtain rfl : x9 = true := hall 9 (by simp)
    obtain rfl : x10 = true := hall 10 (by simp)
    obtain rfl : x11 = true := hall 11 (by simp)
    obtain rfl : x12 = true := hall 12 (by simp)
    obtain rfl : x13 = true := hall 13 (by simp)
    obtain rfl : x14 = true := hall 14 (by simp)
    obtain rfl : x15 = true := hall 15 (by simp)
    obtain rfl : x16 = true := hall 16 (by simp)
    obtain rfl : x17 = true := hall 17 (by simp)
    obtain rfl : x18 = true := hall 18 (by simp)
    obtain rfl : x19 = true := hall 19 (by simp)
    subst ha
    have hv := IV.out rfl
    have hb := HBX.out.trans (IB.out.mono HBX.out.size)
    clear J17 J18 J19 IO IR IV IB hall hs
    dsimp only [Exit.then, Exit.inBlock]
    go_wp2_with fail
    go_ret
    exact ⟨v, rfl, hv.base HBX.out.size, hb⟩
end Go.Proofs.YtjcdnaandbockaaGreat
