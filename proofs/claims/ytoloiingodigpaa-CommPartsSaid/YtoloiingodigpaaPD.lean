import Derived.Test.YtoloiingodigpaaPC
import Derived.Test.YtoloiingodigpaaAF
import Derived.BigRegion
import Derived.Deep.RegionLaw
namespace Go.Proofs.Ytoloiingodigpaa
open Go.RowKit Go.Shelf
attribute [local go_sem] Oper.semAt_some
set_option maxRecDepth 100000
set_option maxHeartbeats 4000000

theorem Try.infob : (Try.prog.info? 4).map (fun i => (i.zero, i.size, i.bytes)) = some (some (.bool false), 1, 1) := by kernel_rfl

theorem append_bool {W : World} {base : Nat} {v : Value} {n : Nat} {xs : List Value} (hown : W.ownsRow base 4 1 v n xs) (b : Bool) (x : Addr) (hx : W.cell? (x.add 0) = some (.bool b)) (hn : n + 1 ≤ 1000) (hbase : base ≤ W.heap.size) :
    ∃ v' w', (Builtin.append_ #[40, 40] 40 #[v, .slice (some x) 1 1]).run Try.prog W = .ok v' w' ∧ w'.ownsRow base 4 1 v' (n + 1) (xs ++ [.bool b]) ∧ W.grownBy w' v.ownBlock := by
  obtain ⟨i0, hi, hz0, hz1, hz2⟩ := info_parts Try.infob
  obtain ⟨v', w', h1, h2, h3, _⟩ := run_append_own (P := Try.prog) (w := W) base 40 40 4 i0 (.bool false) 1 1 Try.underlying40 hi hz0 hz1 hz2 rfl (by decide) v n xs hown x 1 1 [.bool b] (by simp) (fun j u hj => by match j, hj with | 0, hj => simp at hj; subst hj; exact hx)
    (by intro u hu; simp at hu; subst hu; rfl) (by unfold maxLen; omega) (by omega) hbase
  exact ⟨v', w', h1, h2, h3⟩

theorem neighF_at (sizes : List Int) (wrap : List Bool) (r : Int) : ∀ (k i : Nat), i < k → (neighF sizes wrap r k)[2 * i]? = some (shiftP sizes wrap r i 1) ∧ (neighF sizes wrap r k)[2 * i + 1]? = some (shiftQ sizes wrap r i 1)
  | 0, i, h => by omega
  | k + 1, i, h => by
    have hl := neighF_len sizes wrap r k
    unfold neighF
    by_cases e : i = k
    · subst e
      rw [List.getElem?_append_right (by omega), List.getElem?_append_right (by omega), hl]
      simp
    · obtain ⟨h1, h2⟩ := neighF_at sizes wrap r k i (by omega)
      rw [List.getElem?_append_left (by omega), List.getElem?_append_left (by omega)]
      exact ⟨h1, h2⟩

theorem step_append_run {P : Program} {ops : Array Oper} {o : Oper} {a : Act} {w : World} {K : Act → World → Prop} {Q : Exit → Act → World → Prop} {E : Prop}
    (hg : o.guard = none) (s x : Operand) (t : TypeId) (hop : o.op = Op.call { callee := Callee.builtin Builtin.append, args := #[s, x], argTypes := #[t, t] })
    (vs vx : Value) (hs : a.eval s = vs) (hx : a.eval x = vx) (v' : Value) (w' : World) (hrun : (Builtin.append_ #[t, t] o.type #[vs, vx]).run P w = .ok v' w') (hK : K (a.put o.dst v') w') :
    if Region.wanted o (yielded ops a.tmps) = true then Oper.wp P o a w K Q else E := by
  have hw : Region.wanted o (yielded ops a.tmps) = true := by simp [Region.wanted, hg]
  rw [if_pos hw]
  unfold Oper.wp
  simp [execOp, hop, resolve, invoke, builtin, hs, hx, hrun, Result.andThen]
  exact hK

theorem grow_below4 {B : Nat} {w wr w1 : World} {v : Value} {n : Nat} {xs : List Value} (hb : Below B w wr) (hown : wr.ownsRow B 4 1 v n xs) (hg : wr.grownBy w1 v.ownBlock) (hB : B ≤ wr.heap.size) : Below B w w1 :=
  hb.grown hg hB fun k hk => (hown.lt k hk).1

theorem CommPlaces_walk (n : Int) (hn : (Lit.int .u8 n).wf = true) (m : Int) (hm : (Lit.int .u8 m).wf = true) (rg : Int) (hrg : (Lit.int .u8 rg).wf = true) (by' : Int) (hby : (Lit.int .i64 by').wf = true) {w : World} :
    Calls Try.prog 11 #[.int .u8 n, .int .u8 m, .int .u8 rg, .int .i64 by'] w fun e w' => e = .returned (.bool true) ∧ Below w.heap.size w w' := by
  have hn' : 0 ≤ n ∧ n ≤ 255 := by simp only [Lit.wf, Bool.and_eq_true, decide_eq_true_eq] at hn; exact hn
  have hm' : 0 ≤ m ∧ m ≤ 255 := by simp only [Lit.wf, Bool.and_eq_true, decide_eq_true_eq] at hm; exact hm
  have hr' : 0 ≤ rg ∧ rg ≤ 255 := by simp only [Lit.wf, Bool.and_eq_true, decide_eq_true_eq] at hrg; exact hrg
  have hb' : -9223372036854775808 ≤ by' ∧ by' ≤ 9223372036854775807 := by simp only [Lit.wf, Bool.and_eq_true, decide_eq_true_eq] at hby; exact hby
  obtain ⟨n0, n1⟩ := hn'
  obtain ⟨m0, m1⟩ := hm'
  obtain ⟨r0, r1⟩ := hr'
  obtain ⟨sz, hsz⟩ : ∃ sz : Int, sz = 1 + n % 64 := ⟨_, rfl⟩
  obtain ⟨dn, hdn⟩ : ∃ dn : Nat, (dn : Int) = 1 + m % 4 := ⟨(1 + m % 4).toNat, by omega⟩
  have s1 : 1 ≤ sz ∧ sz ≤ 64 := by omega
  have d1 : 1 ≤ dn ∧ dn ≤ 4 := by omega
  have HSZ := Lib.hid hsz
  have HDN := Lib.hid hdn
  obtain ⟨s1, s2⟩ := s1
  obtain ⟨d1, d2⟩ := d1
  clear hn hm hrg hby hsz hdn
  have HBY := Lib.hid hb'
  clear hb'
  go_enter Try.func11, Try.ntmps11
  go_wp2_with fail
  rw [← HSZ.out, ← HDN.out]
  obtain ⟨f1, f2, f3, f4, f5⟩ := factor_facts sz dn s1 s2 d1 d2
  refine (Factor_any sz dn w).mono ?_
  rintro e W1 ⟨v, rfl, n1', b1⟩
  rw [f1]
  obtain ⟨a, c, rfl, i1⟩ := n1'.ints
  obtain ⟨L, hL⟩ : ∃ L, L = factorR sz dn := ⟨_, rfl⟩
  rw [← hL] at f2 f3 f4 f5 i1 ⊢
  rw [f2]
  have HI := Lib.hid i1
  have HF2 := Lib.hid f2
  have HF3 := Lib.hid f3
  have HF4 := Lib.hid f4
  have HF5 := Lib.hid f5
  have HB1 := Lib.hid b1
  clear n1' i1 f1 f2 f3 f4 f5 hL b1 HSZ HDN
  go_wp2_with fail
  have hb2 : Below W1.heap.size W1 (W1.alloc (.cells #[.slice a dn c, .slice none 0 0] 42)) := (Below.refl _ _).alloc (Nat.le_refl _) _
  have hbox : (W1.alloc (.cells #[.slice a dn c, .slice none 0 0] 42)).heap[W1.heap.size]? = some (.cells #[.slice a dn c, .slice none 0 0] 42 (0, 0)) := heap_alloc_new W1 _
  generalize W1.alloc (.cells #[.slice a dn c, .slice none 0 0] 42) = W2 at *
  have HBOX := Lib.hid hbox
  have HB2 := Lib.hid hb2
  clear hbox hb2
  go_loopw [54, 13] (fun i p wr => ∃ (k : Nat) (pr : Int) (v : Value) (bl : List Bool), k ≤ dn ∧ i = .int .i64 k ∧ p = .int .i64 pr ∧ Hid (pr * prodL (L.drop k) = sz) ∧ 1 ≤ pr ∧ pr ≤ 64 ∧ Hid (bl.length = k) ∧ Hid (wr.heap[W1.heap.size]? = some (.cells #[.slice a dn c, v] 42 (0, 0))) ∧ Hid (wr.ownsRow W1.heap.size 4 1 v k (bl.map Value.bool)) ∧ Hid (Below W1.heap.size W1 wr)) (fun i _ _ => dn - (intOf i).toNat)
  case atStart => exact ⟨0, 1, _, [], Nat.zero_le _, rfl, rfl, by show _ = _; rw [List.drop_zero, HF4.out]; omega, by omega, by omega, rfl, HBOX.out, World.ownsRow_nil _ _ _ _, HB2.out⟩
  case round =>
    obtain ⟨k, pr, v, bl, hk, rfl, rfl, HPR, p1, p2, HBL, HBX, HOW, HBW⟩ := hrel
    by_cases hlt : k < dn
    · have hkl : k < L.length := by rw [HF2.out]; exact hlt
      obtain ⟨g, o, rfl, hc⟩ := (HI.out.keep HBW.out).at_ (ne_nil_of_lt hkl)
      have c0 := hc k hkl
      have hx1 := HF3.out L[k] (List.getElem_mem hkl)
      have HPN : Hid (pr * L[k] * prodL (L.drop (k + 1)) = sz) := by
        show _ = _
        rw [← HPR.out, List.drop_eq_getElem_cons hkl, Int.mul_assoc]; rfl
      have hpp := prodL_pos (L.drop (k + 1)) (fun y hy => HF3.out y (List.mem_of_mem_drop hy))
      have hpl : 1 ≤ pr * L[k] ∧ pr * L[k] ≤ 64 := by
        have h5 : 1 * 1 ≤ pr * L[k] := Int.mul_le_mul p1 hx1 (by omega) (by omega)
        have h6 := Int.mul_le_mul_of_nonneg_left hpp (show 0 ≤ pr * L[k] by omega)
        have h7 := HPN.out
        omega
      have hdown : Hid (∀ h0 : 0 < k, L[k] ≤ L[k - 1]'(by omega)) := fun h0 => by
        have := Down.at_ HF5.out (k - 1) (by omega)
        simpa [show k - 1 + 1 = k by omega] using this
      have hbx0 := cell_of_row wr W1.heap.size 0 _ _ _ HBX.out
      have hbx1 : wr.cell? ⟨W1.heap.size, 1, none⟩ = some v := (cell_of_row wr W1.heap.size 1 _ _ _ HBX.out).trans rfl
      have hz := HBW.out.size
      have hap : ∀ bit : Bool, ∃ y : (Option Addr × Nat × Nat) × World, (Builtin.append_ #[40, 40] 40 #[v, .slice (some ⟨wr.heap.size, 0, none⟩) 1 1]).run Try.prog (wr.alloc (.cells #[.bool bit] 4)).drew = .ok (.slice y.1.1 y.1.2.1 y.1.2.2) y.2 ∧ y.2.ownsRow W1.heap.size 4 1 (.slice y.1.1 y.1.2.1 y.1.2.2) (k + 1) ((bl ++ [bit]).map Value.bool) ∧ y.2.heap[W1.heap.size]? = some (.cells #[.slice (some ⟨g, o, none⟩) dn c, v] 42 (0, 0)) ∧ Below W1.heap.size W1 y.2 := fun bit => by
        have hw0 : (wr.alloc (.cells #[.bool bit] 4)).drew.ownsRow W1.heap.size 4 1 v k (bl.map Value.bool) := HOW.out.alloc _
        have hcl : (wr.alloc (.cells #[.bool bit] 4)).drew.cell? ((⟨wr.heap.size, 0, none⟩ : Addr).add 0) = some (.bool bit) := by
          rw [Addr.add_lit]
          exact (cell_of_row (wr.alloc (.cells #[.bool bit] 4)).drew wr.heap.size 0 _ _ _ (heap_alloc_new wr _)).trans rfl
        have hsz9 : (wr.alloc (.cells #[.bool bit] 4)).drew.heap.size = wr.heap.size + 1 := by
          show (wr.alloc (.cells #[.bool bit] 4)).heap.size = _
          simp
        obtain ⟨v', w', h1, h2, h3⟩ := append_bool hw0 bit ⟨wr.heap.size, 0, none⟩ hcl (by omega) (by omega)
        obtain ⟨qa, qm, qc, rfl⟩ : ∃ qa qm qc, v' = .slice qa qm qc := by
          rcases h2.2 with ⟨e0, _⟩ | ⟨g', cap', cur, e0, _⟩
          · exact ⟨_, _, _, e0⟩
          · exact ⟨_, _, _, e0⟩
        refine ⟨((qa, qm, qc), w'), h1, by simpa using h2, ?_, ?_⟩
        · have hB0 : (wr.alloc (.cells #[.bool bit] 4)).drew.heap[W1.heap.size]? = some (.cells #[.slice (some ⟨g, o, none⟩) dn c, v] 42 (0, 0)) := by
            show (wr.alloc (.cells #[.bool bit] 4)).heap[W1.heap.size]? = _
            rw [Below.heap_alloc _ _ _ (Array.getElem?_eq_some_iff.1 HBX.out).1]
            exact HBX.out
          rw [h3.block W1.heap.size (Array.getElem?_eq_some_iff.1 hB0).1 ?_]
          · exact hB0
          · intro e
            rcases hw0.2 with ⟨e0, _⟩ | ⟨g', cap', cur, e0, _, hg', _⟩
            · rw [e0] at e; cases e
            · rw [e0] at e
              injection e with e
              rw [show g' = W1.heap.size from e.symm] at hg'
              rw [hB0] at hg'
              cases hg'
        · exact grow_below4 ((HBW.out.alloc hz _).drew) hw0 h3 (by omega)
      obtain ⟨F, hF⟩ := Classical.axiomOfChoice hap
      have hr9 : ∀ bit, (Builtin.append_ #[40, 40] 40 #[v, .slice (some ⟨wr.heap.size, 0, none⟩) 1 1]).run Try.prog (wr.alloc (.cells #[.bool bit] 4)).drew = .ok (.slice (F bit).1.1 (F bit).1.2.1 (F bit).1.2.2) (F bit).2 := fun bit => (hF bit).1
      have hc8 : ∀ bit : Bool, (wr.alloc (.cells #[.bool bit] 4)).drew.cell? ⟨W1.heap.size, 1, none⟩ = some v := fun bit => by
        refine (cell_of_row (wr.alloc (.cells #[.bool bit] 4)).drew W1.heap.size 1 #[.slice (some ⟨g, o, none⟩) dn c, v] 42 (0, 0) ?_).trans rfl
        show (wr.alloc (.cells #[.bool bit] 4)).heap[W1.heap.size]? = _
        rw [Below.heap_alloc _ _ _ (Array.getElem?_eq_some_iff.1 HBX.out).1]
        exact HBX.out
      have hc9 : ∀ bit, (F bit).2.cell? ⟨W1.heap.size, 1, none⟩ = some v := fun bit => (cell_of_row _ W1.heap.size 1 _ _ _ (hF bit).2.2.1).trans rfl
      have hz9 : ∀ bit, (F bit).2.frozen? ⟨W1.heap.size, 1, none⟩ = false := fun bit => frozen_of_row _ W1.heap.size 1 _ _ (hF bit).2.2.1
      have hl9 : ∀ bit, W1.heap.size < (F bit).2.heap.size := fun bit => (Array.getElem?_eq_some_iff.1 (hF bit).2.2.1).1
      have HF9 := Lib.hid hF
      have HX1 := Lib.hid hx1
      clear hF hap hbx0 hc
      generalize L[k] = x at *
      clear hx1
      have hc7 : ∀ bit : Bool, (wr.drew.alloc (.cells #[.bool bit] 4)).cell? ⟨W1.heap.size, 1, none⟩ = some v := hc8
      have hr7 : ∀ bit, (Builtin.append_ #[40, 40] 40 #[v, .slice (some ⟨wr.heap.size, 0, none⟩) 1 1]).run Try.prog (wr.drew.alloc (.cells #[.bool bit] 4)) = .ok (.slice (F bit).1.1 (F bit).1.2.1 (F bit).1.2.2) (F bit).2 := hr9
      go_wp2_with fail
      go_region_law (refine step_append_run rfl (.tmp 63) (.tmp 69) 40 rfl v (.slice (some ⟨wr.heap.size, 0, none⟩) 1 1) (by simp [Act.eval, Act.put]) (by simp [Act.eval, Act.put]) _ _ (hr7 _) ?_)
      all_goals (
        generalize (bits BinOp.and IntKind.u8 (rg / 2 ^ k) 1 == 1) = bit
        obtain ⟨_, ho, hbx, hbw⟩ := HF9.out bit
        clear HF9 hr9 hc8 hc9 hz9 hl9 hc7 hr7
        generalize F bit = fb at *
        obtain ⟨⟨qa, qm, qc⟩, w2⟩ := fb
        simp only at ho hbx hbw
        have hbx3 : (w2.setCell ⟨W1.heap.size, 1, none⟩ (.slice qa qm qc)).heap[W1.heap.size]? = some (.cells #[.slice (some ⟨g, o, none⟩) dn c, .slice qa qm qc] 42 (0, 0)) := by
          rw [heap_setCell_same w2 W1.heap.size 1 _ 42 _ hbx]; rfl
        have ho3 : (w2.setCell ⟨W1.heap.size, 1, none⟩ (.slice qa qm qc)).ownsRow W1.heap.size 4 1 (.slice qa qm qc) (k + 1) ((bl ++ [bit]).map Value.bool) := by
          refine ⟨ho.1, ?_⟩
          rcases ho.2 with h9 | ⟨g', cap', cur, e0, h5, hg', h6⟩
          · exact .inl h9
          · refine .inr ⟨g', cap', cur, e0, h5, ?_, h6⟩
            rw [heap_setCell_other _ _ _ _ (fun e => by subst e; rw [hbx] at hg'; cases hg')]
            exact hg'
        have hb3 : Below W1.heap.size W1 (w2.setCell ⟨W1.heap.size, 1, none⟩ (.slice qa qm qc)) := hbw.setCell (Nat.le_refl _) _
        generalize w2.setCell ⟨W1.heap.size, 1, none⟩ (.slice qa qm qc) = w3 at *
        have HBX3 := Lib.hid hbx3
        have HO3 := Lib.hid ho3
        have HB3 := Lib.hid hb3
        have HBL3 : Hid ((bl ++ [bit]).length = k + 1) := by show _ = _; simp; exact HBL.out
        have hx9 : ¬ x < 1 := by have := HX1.out; omega
        obtain ⟨g2, o2, e2, hc2⟩ := (HI.out.keep hb3).at_ (ne_nil_of_lt hkl)
        cases e2
        clear ho hbx hbw hbx3 ho3 hb3 hbx1 hz
        by_cases hk0 : k = 0
        · subst hk0
          clear hc2 hdown
          go_wp2_with fail
          go_roundw
          case rel => exact ⟨1, _, _, bl ++ [bit], by omega, rfl, rfl, HPN, hpl.1, hpl.2, HBL3, HBX3.out, HO3.out, HB3.out⟩
          case measure => simp [intOf]; omega
        · have hkp : 0 < k := by omega
          have c5 := hc2 (k - 1) (by omega)
          have hle5 := hdown.out hkp
          generalize L[k - 1]'(by omega) = y at *
          obtain ⟨k1, rfl⟩ : ∃ k1, k = k1 + 1 := ⟨k - 1, by omega⟩
          rw [show k1 + 1 - 1 = k1 by omega] at c5
          have hle6 : ¬ y < x := by omega
          clear hc2 hdown hk0
          go_wp2_with fail
          go_roundw
          case rel => exact ⟨k1 + 1 + 1, _, _, bl ++ [bit], by omega, by go_num, rfl, HPN, hpl.1, hpl.2, HBL3, HBX3.out, HO3.out, HB3.out⟩
          case measure => simp [intOf]; omega)
    · have hkd : k = dn := by omega
      subst hkd
      have hpr : pr = sz := by
        have := HPR.out
        rw [List.drop_of_length_le (by rw [HF2.out]; exact Nat.le_refl _)] at this
        show pr = sz
        unfold prodL at this
        omega
      subst hpr
      rcases HOW.out.2 with ⟨_, e0⟩ | ⟨gw, cw, cur, rfl, hgw, hcur, hcw, hcm, hcs, hct⟩
      · omega
      have PG : Hid (PGrid L bl pr) := ⟨HF3.out, HF4.out, p2, by rw [HBL.out, HF2.out]⟩
      have HBO : Hid (Bools wr (some ⟨gw, 0, none⟩) bl) := ⟨by rw [HBL.out]; omega, fun _ => ⟨gw, 0, rfl, fun j hj => by
        have hj2 : j < k := by rw [← HBL.out]; exact hj
        rw [cell_of_row wr gw _ cur _ _ hcur]
        have h8 : (cur.toList.take (k * 1))[j]? = (bl.map Value.bool)[j]? := by rw [hct]
        rw [List.getElem?_take, if_pos (by omega)] at h8
        simpa [hj] using h8⟩⟩
      have HIW := Lib.hid (HI.out.keep HBW.out)
      have hx0 : wr.cell? ⟨W1.heap.size, 0, none⟩ = some (.slice a k c) := (cell_of_row wr W1.heap.size 0 _ _ _ HBX.out).trans rfl
      have hx1 : wr.cell? ⟨W1.heap.size, 1, none⟩ = some (.slice (some ⟨gw, 0, none⟩) k cw) := (cell_of_row wr W1.heap.size 1 _ _ _ HBX.out).trans rfl
      have HX0 := Lib.hid hx0
      have HX1 := Lib.hid hx1
      have HQ : Hid (Below w.heap.size w wr) := HB1.out.trans (HBW.out.mono HB1.out.size)
      have HKL : Hid (bl.length = k) := HBL
      clear hcur hcw hcm hcs hct hgw HOW HBX HPR HBL hx0 hx1 HI HB1 HB2 HBOX HF3 HF4 HF5
      obtain ⟨N, hN⟩ : ∃ N : Nat, pr = N := ⟨pr.toNat, by omega⟩
      subst hN
      go_wp2_with fail
      obtain ⟨wo, rfl⟩ : ∃ wo : World, wo = wr := ⟨_, rfl⟩
      go_loopw [92] (fun i w2 => ∃ r : Nat, r ≤ N ∧ i = .int .i64 r ∧ Hid (Below wo.heap.size wo w2)) (fun i _ => N - (intOf i).toNat)
      case atStart => exact ⟨0, Nat.zero_le _, rfl, Below.refl _ _⟩
      case round =>
        obtain ⟨r, hr, rfl, HB5⟩ := hrel
        by_cases hrN : r < N
        · have k0 := (HB5.out.cell (block_lt_of_cell HX0.out)).trans HX0.out
          have k1 := (HB5.out.cell (block_lt_of_cell HX1.out)).trans HX1.out
          have HI5 := Lib.hid (HIW.out.keep HB5.out)
          have HO5 := Lib.hid (HBO.out.keep HB5.out)
          have hL1 : 1 ≤ L.length := by rw [HF2.out]; omega
          have hL4 : L.length ≤ 4 := by rw [HF2.out]; omega
          have HL1 := Lib.hid hL1
          have HL4 := Lib.hid hL4
          clear hL1 hL4
          have hco := Coords_ok (wa := some ⟨gw, 0, none⟩) PG.out HL1.out HL4.out HI5.out c cw r (by omega) (by omega)
          rw [HF2.out, HKL.out] at hco
          go_wp2_with fail
          refine hco.mono ?_
          clear hco
          rintro e W6 ⟨v6, rfl, n6, b6⟩
          obtain ⟨a6, c6, rfl, i6⟩ := n6.ints
          have HLC : Hid ((coordsL L (r : Int)).length = k) := by show _ = _; rw [coordsL_len, HF2.out]
          rw [HLC.out]
          have H6 := Lib.hid i6
          have HI6 := Lib.hid (HI5.out.keep b6)
          have HO6 := Lib.hid (HO5.out.keep b6)
          have k0' := (b6.cell (block_lt_of_cell k0)).trans k0
          have k1' := (b6.cell (block_lt_of_cell k1)).trans k1
          have HB6 : Hid (Below wo.heap.size wo W6) := HB5.out.trans (b6.mono HB5.out.size)
          clear n6 i6 b6 k0 k1 HI5 HO5
          have hrk := Rank_ok PG.out HL1.out HL4.out HI6.out HO6.out H6.out c cw c6 (by rw [coordsL_len]) r (PG.out.rank_coords (by omega) (by omega)) (by omega)
          rw [HF2.out, HKL.out] at hrk
          go_wp2_with fail
          refine hrk.mono ?_
          clear hrk
          rintro e W7 ⟨rfl, b7⟩
          have HI7 := Lib.hid (HI6.out.keep b7)
          have HO7 := Lib.hid (HO6.out.keep b7)
          have k0 := (b7.cell (block_lt_of_cell k0')).trans k0'
          have k1 := (b7.cell (block_lt_of_cell k1')).trans k1'
          have HB7 : Hid (Below wo.heap.size wo W7) := HB6.out.trans (b7.mono HB6.out.size)
          clear b7 k0' k1' HI6 HO6 H6 HB6
          have hne := Neighbors_any HI7.out HO7.out c cw (r : Int)
          rw [PG.out.gerr HL1.out HL4.out (by omega) (by omega), if_pos rfl, HF2.out, HKL.out] at hne
          go_wp2_with fail
          refine hne.mono ?_
          clear hne
          rintro e W8 ⟨v8, rfl, n8, b8⟩
          obtain ⟨a8, c8, rfl, i8⟩ := n8.ints
          have HLN := Lib.hid (neighF_len L bl (r : Int) k)
          have HAT := Lib.hid (neighF_at L bl (r : Int) k)
          obtain ⟨E, hE⟩ : ∃ E, E = neighF L bl (r : Int) k := ⟨_, rfl⟩
          rw [← hE] at HLN HAT i8 ⊢
          rw [HLN.out]
          have H8 := Lib.hid i8
          have HI8 := Lib.hid (HI7.out.keep b8)
          have HO8 := Lib.hid (HO7.out.keep b8)
          have k0' := (b8.cell (block_lt_of_cell k0)).trans k0
          have k1' := (b8.cell (block_lt_of_cell k1)).trans k1
          have HB8 : Hid (Below wo.heap.size wo W8) := HB7.out.trans (b8.mono HB7.out.size)
          clear n8 i8 b8 k0 k1 HI7 HO7 HB7 hE
          have K0 := Lib.hid k0'
          have K1 := Lib.hid k1'
          clear k0' k1'
          go_wp2_with fail
          go_loopw [136] (fun i w3 => ∃ d : Nat, d ≤ k ∧ i = .int .i64 d ∧ Hid (Below W8.heap.size W8 w3)) (fun i _ => k - (intOf i).toNat)
          case atStart => exact ⟨0, Nat.zero_le _, rfl, Below.refl _ _⟩
          case round =>
            obtain ⟨d, hd, rfl, HB9⟩ := hrel
            by_cases hdk : d < k
            · have k0 := (HB9.out.cell (block_lt_of_cell K0.out)).trans K0.out
              have k1 := (HB9.out.cell (block_lt_of_cell K1.out)).trans K1.out
              have HI9 := Lib.hid (HI8.out.keep HB9.out)
              have HO9 := Lib.hid (HO8.out.keep HB9.out)
              have H9 := Lib.hid (H8.out.keep HB9.out)
              have hdl : d < L.length := by rw [HF2.out]; exact hdk
              have HDL := Lib.hid hdl
              clear hdl
              have hsh := Shift_ok PG.out HL1.out HL4.out HI9.out HO9.out c cw (r : Int) (by omega) (by omega) d HDL.out 1
              rw [HF2.out, HKL.out] at hsh
              obtain ⟨t1, t2⟩ := HAT.out d hdk
              obtain ⟨p9, hp9⟩ : ∃ p9, p9 = shiftP L bl (r : Int) d 1 := ⟨_, rfl⟩
              obtain ⟨q9, hq9⟩ : ∃ q9, q9 = shiftQ L bl (r : Int) d 1 := ⟨_, rfl⟩
              rw [← hp9] at t1 hsh
              rw [← hq9] at t2 hsh
              have T1 := Lib.hid t1
              have T2 := Lib.hid t2
              clear hp9 hq9 t1 t2
              go_wp2_with fail
              refine hsh.mono ?_
              clear hsh
              rintro e X1 ⟨rfl, b9⟩
              have k0' := (b9.cell (block_lt_of_cell k0)).trans k0
              have k1' := (b9.cell (block_lt_of_cell k1)).trans k1
              have HI10 := Lib.hid (HI9.out.keep b9)
              have HO10 := Lib.hid (HO9.out.keep b9)
              have HB10 : Hid (Below W8.heap.size W8 X1) := HB9.out.trans (b9.mono HB9.out.size)
              have H10 := Lib.hid (H9.out.keep b9)
              obtain ⟨ge, oe, rfl, hce⟩ := H10.out.at_ (by intro e; have := HLN.out; rw [e] at this; simp at this; omega)
              have z1 := hce (2 * d) (by rw [HLN.out]; omega)
              have z2 := hce (2 * d + 1) (by rw [HLN.out]; omega)
              rw [(List.getElem?_eq_some_iff.1 T1.out).2] at z1
              rw [(List.getElem?_eq_some_iff.1 T2.out).2] at z2
              clear hce b9 k0 k1 HI9 HO9 H9
              have hld := leads_true PG.out HL1.out HL4.out HI10.out HO10.out c cw (r : Int) (by omega) (by omega) d HDL.out by' HBY.out
              rw [HF2.out, HKL.out] at hld
              go_wp2_with fail
              refine hld.mono ?_
              clear hld
              rintro e X2 ⟨rfl, b11⟩
              have HB11 : Hid (Below W8.heap.size W8 X2) := HB10.out.trans (b11.mono HB10.out.size)
              clear b11 z1 z2 k0' k1'
              go_wp2_with fail
              go_roundw
              case rel => exact ⟨d + 1, by omega, by go_num, HB11⟩
              case measure => simp [intOf]; omega
            · have HB12 : Hid (Below wo.heap.size wo _) := HB8.out.trans (HB9.out.mono HB8.out.size)
              go_wp2_with fail
              go_roundw
              case rel => exact ⟨r + 1, by omega, by go_num, HB12⟩
              case measure => simp [intOf]; omega
        · have HQ2 : Hid (Below w.heap.size w _) := HQ.out.trans (HB5.out.mono HQ.out.size)
          go_wp2_with fail
          refine (works_true _).mono ?_
          rintro e w9 ⟨rfl, b9⟩
          go_wp2_with fail
          go_ret
          exact ⟨rfl, HQ2.out.trans (b9.mono HQ2.out.size)⟩
end Go.Proofs.Ytoloiingodigpaa
