import Derived.Test.YtoloiingodigpaaAD
namespace Go.Proofs.Ytoloiingodigpaa
open Go.RowKit Go.Shelf Go.Lib
attribute [local go_sem] Oper.semAt_some
set_option maxRecDepth 100000
set_option maxHeartbeats 2000000

theorem KeepP.mono {ex ex' : Nat → Prop} {w w' : World} (h : KeepP ex w w') (he : ∀ b, ex b → ex' b) : KeepP ex' w w' :=
  ⟨h.os, h.tape, h.output, h.size, fun k o hk ho hn => h.block k o hk ho fun hx => hn (he _ hx)⟩
theorem KeepP.row {ex : Nat → Prop} {w w' : World} {b : Nat} {l : List Int} (h : RowAt w b l) (hk : KeepP ex w w') (hb : ¬ ex b) : RowAt w' b l := hk.block _ _ h rfl hb

/-- numbers that lie in no block of ex -/
def IntsX (ex : Nat → Prop) (w : World) (a : Option Addr) (l : List Int) : Prop := Ints w a l ∧ ∀ x, a = some x → l ≠ [] → ¬ ex x.block
theorem IntsX.keep {ex : Nat → Prop} {w w' : World} {a : Option Addr} {l : List Int} (h : IntsX ex w a l) (hk : KeepP ex w w') : IntsX ex w' a l :=
  ⟨⟨h.1.len, fun hl => by
    obtain ⟨b, off, ha, hc⟩ := h.1.at_ hl
    exact ⟨b, off, ha, fun j hj => hk.cell (hc j hj) (h.2 ⟨b, off, none⟩ ha hl)⟩⟩, h.2⟩
/-- what was there is in no later block -/
theorem Ints.toX {ex : Nat → Prop} {w w' : World} {a : Option Addr} {l : List Int} (h : Ints w a l) (hb : Below w.heap.size w w') (hex : ∀ b, ex b → w.heap.size ≤ b) : IntsX ex w' a l :=
  ⟨h.keep hb, fun x hx hl he => by
    obtain ⟨b, off, ha, hc⟩ := h.at_ hl
    have := block_lt_of_cell (hc 0 (by cases l with | nil => exact absurd rfl hl | cons _ _ => simp))
    have h2 := hex _ he
    rw [hx] at ha
    cases ha
    simp at this h2
    omega⟩

theorem KeepP.later {w a c : World} {go : Nat} (h : KeepP NoB w a) (k : KeepP (fun b => b = go) a c) (hg : w.heap.size ≤ go) : KeepP NoB w c :=
  ⟨k.os.trans h.os, k.tape.trans h.tape, k.output.trans h.output, Nat.le_trans h.size k.size, fun i o hi ho _ => k.block i o (h.block i o hi ho fun x => x) ho (fun e => by
    have := (Array.getElem?_eq_some_iff.1 hi).1
    omega)⟩

theorem NewInts.toX {ex : Nat → Prop} {B : Nat} {w : World} {v : Value} {l : List Int} (h : NewInts B w v l) (hex : ∀ b, B ≤ b → ¬ ex b) : ∃ a cap, v = .slice a l.length cap ∧ IntsX ex w a l := by
  obtain ⟨a, cap, e, hi⟩ := h.ints
  refine ⟨a, cap, e, hi, fun x hx hl => ?_⟩
  rcases h.own.2 with ⟨_, h0⟩ | ⟨g, cap2, cur, e2, hB, _⟩
  · exact absurd (List.length_eq_zero_iff.1 h0) hl
  · rw [e, hx] at e2
    cases e2
    exact hex _ hB

def ranksOf (colors order : List Int) (color : Int) : List Int := order.filter fun r => colors.getD r.toNat 0 == color
def setAll (out rs : List Int) (v : Int) : List Int := rs.foldl (fun o r => o.set r.toNat v) out
@[simp] theorem setAll_len (v : Int) : ∀ (rs out : List Int), (setAll out rs v).length = out.length
  | [], out => rfl
  | r :: rs, out => by
    have := setAll_len v rs (out.set r.toNat v)
    simpa [setAll] using this
def splitStep (colors order g : List Int) (s : List (List Int) × List Int) (color : Int) : List (List Int) × List Int :=
  (s.1 ++ [takeL g (ranksOf colors order color)], setAll s.2 (ranksOf colors order color) s.1.length)
/-- the colors, each once, in order -/
def colorsOf (colors : List Int) : List Int := Lib.compact (sortL (colors.filter fun x => x != -2))
def splitF (colors keys g : List Int) (gs : List (List Int)) : List (List Int) × List Int :=
  (colorsOf colors).foldl (splitStep colors (orderL keys) g) (gs, List.replicate g.length (-2))

/-- a new box with a value -/
theorem box_any (w : World) (t : TypeId) (v : Value) : Below w.heap.size w (w.alloc (.cells #[v] t)) ∧ (w.alloc (.cells #[v] t)).cell? ⟨w.heap.size, 0, none⟩ = some v ∧ (w.alloc (.cells #[v] t)).heap.size = w.heap.size + 1 :=
  ⟨(Below.refl _ _).alloc (Nat.le_refl _) _, by simp, by simp⟩

theorem sortL_pos (l : List Int) (h : ∀ x ∈ l, 0 ≤ x) : ∀ x ∈ sortL l, 0 ≤ x := fun x hx => h x (by unfold sortL at hx; simpa using hx)

theorem Split_ok {w : World} {sp m : Nat} {gs : List (List Int)} (h : SpaceAt NoB w sp m gs) (c : Nat) (g : List Int) (hg : gs[c]? = some g) (hgs : 1 ≤ gs.length) {a b : Option Addr} {colors keys : List Int} (hc : Ints w a colors) (hk : Ints w b keys) (cap cap' : Nat)
    (hcl : colors.length = g.length) (hkl : keys.length = g.length) (h1 : 1 ≤ g.length) (hn : g.length < 20) (hpos : ∀ x ∈ colors, x = -2 ∨ 0 ≤ x) (hroom : gs.length + (colorsOf colors).length ≤ 64) :
    Calls Try.prog 51 #[.pointer (some ⟨sp, 0, none⟩), .int .i64 c, .slice a colors.length cap, .slice b keys.length cap'] w fun e w' =>
      ∃ go, e = .returned (.tuple #[.slice (some ⟨go, 0, none⟩) g.length g.length, .int .i64 0]) ∧ w.heap.size ≤ go ∧ RowAt w' go (splitF colors keys g gs).2 ∧ SpaceAt NoB w' sp m (splitF colors keys g gs).1 ∧ KP w w' ∧ BelowU m w.heap.size w w' := by
  have hb0 : Below w.heap.size w (w.alloc (.cells #[.slice a colors.length cap] 22)) := (Below.refl _ _).alloc (Nat.le_refl _) _
  have hc0 : (w.alloc (.cells #[.slice a colors.length cap] 22)).cell? ⟨w.heap.size, 0, none⟩ = some (.slice a colors.length cap) := by simp
  have hz0 : w.heap.size < (w.alloc (.cells #[.slice a colors.length cap] 22)).heap.size := by simp
  have HC := Lib.hid (hc.keep hb0)
  have HK := Lib.hid (hk.keep hb0)
  have HS := Lib.hid (h.keep hb0)
  have HPOS := Lib.hid hpos
  have HROOM := Lib.hid hroom
  have HCL := Lib.hid hcl
  have HKL := Lib.hid hkl
  clear h hc hk hpos hroom hcl hkl
  go_enter Try.func51, Try.ntmps51
  go_wp2_with fail
  generalize hW0 : w.alloc (.cells #[.slice a colors.length cap] 22) = W0 at *
  clear hW0
  refine (find_ok HS.out c g hg).mono ?_
  rintro e W ⟨v, rfl, ⟨ag, capg, rfl, hIg, _⟩, rfl⟩
  have HG := Lib.hid hIg
  clear hIg
  have e1 : (colors.length : Int) = g.length := by have := HCL.out; omega
  have e2 : (keys.length : Int) = g.length := by have := HKL.out; omega
  go_wp2_with fail
  clear e1 e2
  have hch := choose_any HC.out cap (fun i => colors.getD i 0 != -2) 98 #[.pointer (some ⟨w.heap.size, 0, none⟩)] (enters_of Try.func98 (by kernel_rfl) rfl) (fun i hi W hb => split1 HC.out cap w.heap.size hc0 i hi W hb)
  rw [pickF_filter _ (fun x => x != -2) colors 0 (fun i _ => by simp)] at hch
  refine hch.mono ?_
  clear hch
  rintro e W1 ⟨v1, rfl, hn1, hb1⟩
  have hso := sort_new hn1 (by exact hb1.size)
  obtain ⟨a1, cap1, hv1, -⟩ := hn1.ints
  have HV1 := Lib.hid hv1
  clear hv1
  go_wp2_with fail
  refine hso.mono ?_
  clear hso hn1
  rintro e W2 ⟨rfl, hn2, hb2⟩
  have b2 : Below W0.heap.size W0 W2 := hb1.trans hb2
  have hco := compact_new hn2 (by exact b2.size)
  have hps := sortL_pos (colors.filter fun x => x != -2) (fun x hx => by
    have h3 := HPOS.out x (List.mem_filter.1 hx).1
    have h4 := (List.mem_filter.1 hx).2
    simp at h4
    omega)
  clear hb1 hb2
  obtain ⟨D, hD⟩ : ∃ D, D = colorsOf colors := ⟨_, rfl⟩
  have HD := Lib.hid hD
  rw [show Lib.compact (sortL (colors.filter fun x => x != -2)) = D from hD.symm] at hco
  clear hD
  generalize sortL (colors.filter fun x => x != -2) = L2 at *
  obtain ⟨a2, cap2, hv2, hi2⟩ := hn2.ints
  have hlen2 := hi2.len
  have HL2 : Hid (L2 = [] ∨ ∃ x L3 b2 o2, L2 = x :: L3 ∧ 0 ≤ x ∧ a2 = some ⟨b2, o2, none⟩ ∧ W2.cell? ⟨b2, o2, none⟩ = some (.int .i64 x)) := by
    cases L2 with
    | nil => exact .inl rfl
    | cons x L3 =>
      obtain ⟨b2, o2, ha, hcc⟩ := hi2.at_ (by simp)
      exact .inr ⟨x, L3, b2, o2, rfl, hps x (by simp), ha, hcc 0 (by simp)⟩
  clear hps hi2 hn2
  subst hv2
  have hreg : True := trivial
  have HCO := Lib.hid hco
  have HB2 := Lib.hid b2
  have HC0 := Lib.hid hc0
  clear hco b2 hlen2 hc0 hreg
  rcases HL2.out with rfl | ⟨x, L3, b2', o2, rfl, hx, rfl, hcx⟩
  all_goals clear HL2
  all_goals go_wp2_with fail
  all_goals (
    refine HCO.out.mono ?_
    rintro e W3 ⟨v3, rfl, hn3, hb3⟩
    obtain ⟨a3, cap3, rfl, hi3⟩ := hn3.ints
    have b3 : Below W0.heap.size W0 W3 := HB2.out.trans hb3
    clear hb3 hn3
    have HI3 := Lib.hid hi3
    clear hi3
    have hfu := full_any (HS.out.keep b3) (by have := HROOM.out; omega) D.length (by have := HROOM.out; rw [← HD.out] at this; omega)
    rw [show decide (64 < gs.length + D.length) = false from by have := HROOM.out; rw [← HD.out] at this; simp; omega] at hfu
    go_wp2_with fail
    refine hfu.mono ?_
    rintro e W ⟨rfl, rfl⟩
    clear hfu
    go_wp2_with fail
    have hbA : Below W3.heap.size W3 (W3.alloc (.cells #[.int .i64 (-2)] 3)) := (Below.refl _ _).alloc (Nat.le_refl _) _
    refine (repeat_one (w := W3.alloc (.cells #[.int .i64 (-2)] 3)) W3.heap.size (-2) (by simp) g.length h1 (by omega)).mono ?_
    rintro e W4 ⟨go, rfl, hgo, hR4, hb4⟩
    have b34 : Below W3.heap.size W3 W4 := hbA.trans (hb4.mono (by simp))
    have hgo3 : W3.heap.size < go := by simp at hgo; omega
    clear hbA hb4 hgo
    have HR4 := Lib.hid hR4
    have b4 : Below W0.heap.size W0 W4 := b3.trans (b34.mono b3.size)
    clear hR4
    have hrk := ranks_by_key (HK.out.keep b4) cap' (by have := HKL.out; omega) (by have := HKL.out; omega)
    go_wp2_with fail
    refine hrk.mono ?_
    clear hrk
    rintro e W5 ⟨go2, rfl, hgo2, hR5, hb5⟩
    have HR5 := Lib.hid hR5
    clear hR5
    go_wp2_with fail
    obtain ⟨hx1, hx2, hx3⟩ := box_any W5 22 (.slice (some ⟨go2, 0, none⟩) keys.length keys.length)
    generalize W5.alloc (.cells #[.slice (some ⟨go2, 0, none⟩) keys.length keys.length] 22) = W6 at *
    have hlt4 := HR4.out.lt
    have hz3 := b3.size
    have hz4 := b34.size
    have hz5 := hb5.size
    have b46 : Below W4.heap.size W4 W6 := hb5.trans (hx1.mono hz5)
    have b06 : Below W0.heap.size W0 W6 := b4.trans (b46.mono (by omega))
    have C6 := Lib.hid (HC.out.toX (ex := fun b => b = go) b06 (by rintro b rfl; omega))
    have G6 := Lib.hid (HG.out.toX (ex := fun b => b = go) b06 (by rintro b rfl; omega))
    have D6 := Lib.hid (HI3.out.toX (ex := fun b => b = go) (b34.trans (b46.mono (by omega))) (by rintro b rfl; omega))
    have hol := orderL_len keys (by have := HKL.out; omega)
    have O6 : Hid (IntsX (fun b => b = go) W6 (some ⟨go2, 0, none⟩) (orderL keys)) := ⟨(HR5.out.ints (by rw [hol]; have := HKL.out; omega)).keep hx1, by rintro x hx0 _ hx; cases hx0; simp at hx; omega⟩
    have S6 := Lib.hid (((HS.out.fresh).keep b06).mono (ex' := fun b => b = go) (by rintro b rfl; omega))
    have R6 := Lib.hid (HR4.out.keep b46)
    have cB := (b06.cell (p := ⟨w.heap.size, 0, none⟩) hz0).trans HC0.out
    have K6 := Lib.hid ((KeepP.of_below (ex := NoB) hb0).trans (KeepP.of_below b06))
    have U6 : Hid (BelowU m w.heap.size w W6) := BelowU.of (hb0.trans (b06.mono (by omega))) (Nat.le_refl _)
    have Z1 : Hid (w.heap.size ≠ go) := by show _ ≠ _; omega
    have Z2 : Hid (W5.heap.size ≠ go) := by show _ ≠ _; omega
    have Z3 : Hid (w.heap.size ≤ go) := by show _ ≤ _; omega
    have Z4 : Hid (w.heap.size < W6.heap.size ∧ W5.heap.size < W6.heap.size ∧ go < W6.heap.size) := ⟨by omega, by omega, by omega⟩
    obtain ⟨bO, hbO⟩ : ∃ bO, bO = W5.heap.size := ⟨_, rfl⟩
    rw [← hbO] at Z2 Z4 hx2 ⊢
    have CB := Lib.hid cB
    have CO := Lib.hid hx2
    obtain ⟨N, hN⟩ : ∃ N, N = orderL keys := ⟨_, rfl⟩
    have HO2 : Hid (N.length = keys.length) := by show _ = _; rw [hN]; exact hol
    have HOL : Hid (∀ x ∈ N, 0 ≤ x ∧ x < colors.length) := by
      show ∀ x ∈ N, _
      rw [hN, HCL.out, ← HKL.out]
      exact orderL_lt keys (by have := HKL.out; omega)
    rw [← hN] at O6
    have HNE := Lib.hid hN
    clear hx1 hx2 hx3 cB b06 b46 b4 b3 b34 hb5 hz3 hz4 hz5 hlt4 hgo2 hgo3 hb0 hz0 hbO hol hN
    clear HR4 HR5 HS HC HG HI3 HK HB2 HCO HPOS HC0
    go_loopw [73] (fun i wr => ∃ (k : Nat) (s : List (List Int) × List Int), k ≤ D.length ∧ i = .int .i64 k ∧ Hid ((D.drop k).foldl (splitStep colors N g) s = splitF colors keys g gs) ∧ Hid (s.1.length = gs.length + k) ∧ Hid (s.2.length = g.length) ∧ Hid (SpaceAt (fun b => b = go) wr sp m s.1) ∧ Hid (RowAt wr go s.2) ∧ KeepP (fun b => b = go) W6 wr ∧ Hid (BelowU m w.heap.size W6 wr)) (fun i _ => D.length - (intOf i).toNat)
    case atStart =>
      refine ⟨0, (gs, List.replicate g.length (-2)), Nat.zero_le _, rfl, ?_, by show _ = _; simp, by show _ = _; simp, S6.out, R6.out, KeepP.refl _ _, BelowU.refl _ _ _⟩
      show _ = _
      rw [List.drop_zero, HD.out, HNE.out]
      rfl
    case round =>
      obtain ⟨k, s, hk, rfl, HF, HL1, HL3, HSk, HRk, hkp, HUk⟩ := hrel
      by_cases hlt : k < D.length
      · obtain ⟨gd, od, rfl, hcd⟩ := (D6.out.keep hkp).1.at_ (ne_nil_of_lt hlt)
        have c0 := hcd k hlt
        have dO := hkp.cell CO.out Z2.out
        have dB := hkp.cell CB.out Z1.out
        have hz6 := hkp.size
        obtain ⟨q1, q2, q3⟩ := Z4.out
        obtain ⟨y1, y2, y3⟩ := box_any wr 3 (.int .i64 D[k])
        have HDk : Hid ((D.drop (k + 1)).foldl (splitStep colors N g) (splitStep colors N g s D[k]) = splitF colors keys g gs) := by
          show _ = _
          rw [← HF.out, List.drop_eq_getElem_cons hlt]
          rfl
        have hlenD := (D6.out).1.len
        generalize D[k] = color at *
        have eO := (y1.cell (p := ⟨bO, 0, none⟩) (show bO < wr.heap.size by omega)).trans dO
        have eB := (y1.cell (p := ⟨w.heap.size, 0, none⟩) (show w.heap.size < wr.heap.size by omega)).trans dB
        clear hcd
        go_wp2_with fail
        generalize wr.alloc (.cells #[.int .i64 color] 3) = Wb at *
        have hkb : KeepP (fun b => b = go) W6 Wb := hkp.trans (KeepP.of_below y1)
        have hch := choose_draw (O6.out.keep hkb).1 keys.length (fun i => colors.getD (N.getD i 0).toNat 0 == color) 103 #[.pointer (some ⟨w.heap.size, 0, none⟩), .pointer (some ⟨bO, 0, none⟩), .pointer (some ⟨wr.heap.size, 0, none⟩)] (enters_of Try.func103 (by kernel_rfl) rfl)
          (fun i hi W hb => split2 (C6.out.keep hkb).1 (O6.out.keep hkb).1 HOL.out cap keys.length w.heap.size bO wr.heap.size color eB (by rw [HO2.out]; exact eO) y2 i hi W hb)
        rw [HO2.out, pickF_filter _ (fun r => colors.getD r.toNat 0 == color) N 0 (fun i _ => by simp)] at hch
        obtain ⟨R, hR⟩ : ∃ R, R = ranksOf colors N color := ⟨_, rfl⟩
        rw [show N.filter (fun r => colors.getD r.toNat 0 == color) = R from hR.symm] at hch
        have HRin : Hid (∀ x ∈ R, 0 ≤ x ∧ x < g.length) := by
          show ∀ x ∈ R, _
          intro x hx
          rw [hR] at hx
          have := HOL.out x (List.mem_filter.1 hx).1
          rw [HCL.out] at this
          exact this
        have HRe := Lib.hid hR
        clear hR eO eB y2
        refine hch.mono ?_
        clear hch
        rintro e W7 ⟨v7, rfl, hn7, hb7⟩
        obtain ⟨a7, cap7, rfl, hi7⟩ := hn7.toX (ex := fun b => b = go) (by rintro b hb rfl; omega)
        have hk7 : KeepP (fun b => b = go) W6 W7 := hkb.trans (KeepP.of_below hb7)
        have hwr := with_ranks (G6.out.keep hk7).1 hi7.1 capg cap7 HRin.out
        have HI7 := Lib.hid hi7
        clear hn7 hi7
        have hlen7 := HI7.out.1.len
        go_wp2_with fail
        refine hwr.mono ?_
        clear hwr
        rintro e W8 ⟨g3, rfl, hg3, hR8, hb8⟩
        have b8 : Below wr.heap.size wr W8 := (y1.trans (hb7.mono (by omega))).trans (hb8.mono (by have := hb7.size; omega))
        have hs7 := hb7.size
        have hgv : GrpVal (fun b => b = go) W8 (.slice (some ⟨g3, 0, none⟩) R.length R.length) (takeL g R) := by
          have := GrpVal.of_row (ex := fun b => b = go) hR8 (by simpa using hlen7) (by omega)
          rwa [takeL_len] at this
        have had := add_any (HSk.out.keep b8) (by have := HL1.out; omega) (by have := HL1.out; have := HROOM.out; rw [← HD.out] at this; omega) hgv
        have HR8 := Lib.hid (HRk.out.keep b8)
        clear hgv hR8
        have HB8 := Lib.hid b8
        go_wp2_with fail
        refine had.mono ?_
        clear had
        rintro e W9 ⟨rfl, hS9, hk9, hz9, hbm9⟩
        have HU9 : Hid (BelowU m w.heap.size W6 W9) := (HUk.out.trans (BelowU.of HB8.out (by omega))).trans (BelowU.ofM hbm9)
        clear hbm9
        have HS9 := Lib.hid hS9
        have HR9 := Lib.hid (KeepP.row HR8.out hk9 (fun x => x))
        have HI9 := Lib.hid ((HI7.out.keep (KeepP.of_below hb8)).keep (hk9.mono (fun _ h => h.elim)))
        have HK9 : Hid (KeepP (fun b => b = go) W6 W9) := (hkp.trans (KeepP.of_below b8)).trans (hk9.mono (fun _ h => h.elim))
        clear hS9 HR8 HI7 hb7 hb8 b8 hk9 hk7 hkb hkp HB8
        obtain ⟨M, hM⟩ : ∃ M, M = s.1.length := ⟨_, rfl⟩
        rw [← hM]
        have HM := Lib.hid hM
        clear hM
        go_wp2_with fail
        go_loopw [87] (fun i wi => ∃ (j : Nat) (o : List Int), j ≤ R.length ∧ i = .int .i64 j ∧ Hid (setAll o (R.drop j) M = setAll s.2 R M) ∧ Hid (o.length = g.length) ∧ Hid (SpaceAt (fun b => b = go) wi sp m (s.1 ++ [takeL g R])) ∧ Hid (RowAt wi go o) ∧ KeepP (fun b => b = go) W9 wi ∧ Hid (BelowU m w.heap.size W6 wi)) (fun i _ => R.length - (intOf i).toNat)
        case atStart => exact ⟨0, s.2, Nat.zero_le _, rfl, rfl, HL3, HS9, HR9, KeepP.refl _ _, HU9⟩
        case round =>
          obtain ⟨j, o, hj, rfl, HFo, HLo, HSo, HRo, hko, HUo⟩ := hrel
          have hlo := HLo.out
          have hltg := HRo.out.lt
          by_cases hjl : j < R.length
          · obtain ⟨gr, or, rfl, hcr⟩ := (HI9.out.keep hko).1.at_ (ne_nil_of_lt hjl)
            have c1 := hcr j hjl
            obtain ⟨hx0, hx1⟩ := HRin.out R[j] (List.getElem_mem hjl)
            have HFj : Hid (setAll (o.set (R[j]).toNat M) (R.drop (j + 1)) M = setAll s.2 R M) := by
              show _ = _
              rw [← HFo.out, List.drop_eq_getElem_cons hjl]
              rfl
            generalize R[j] = r at *
            obtain ⟨rn, rfl⟩ := Int.eq_ofNat_of_zero_le hx0
            rw [Int.toNat_natCast] at HFj
            have hrn : rn < o.length := by omega
            have c2 := HRo.out.cell rn hrn
            have hfz := HRo.out.open_ rn
            have HR2 := Lib.hid (HRo.out.set rn (M : Int))
            have HS2 := Lib.hid (HSo.out.setCell go rn (.int .i64 M) rfl HRo.out)
            have hk2 : KeepP (fun b => b = go) W9 (World.setCell _ ⟨go, rn, none⟩ (.int .i64 M)) := hko.setCell go rn rfl _
            have HU2 := Lib.hid (HUo.out.setCell go rn Z3.out (.int .i64 M))
            have HL2 : Hid ((o.set rn (M : Int)).length = g.length) := by show _ = _; simpa using hlo
            generalize o[rn] = z at *
            clear hcr hlo
            go_wp2_with fail
            go_roundw
            case rel => exact ⟨j + 1, _, by omega, by go_num, HFj, HL2, HS2, HR2, hk2, HU2⟩
            case measure => simp [intOf]; omega
          · have HFe : Hid (o = setAll s.2 R M) := by
              show _ = _
              have := HFo.out
              rw [drop_end hjl] at this
              exact this
            clear hlo
            go_wp2_with fail
            go_roundw
            case rel =>
              refine ⟨k + 1, (s.1 ++ [takeL g R], o), by omega, by go_num, ?_, by show _ = _; simp; have := HL1.out; omega, HLo, HSo, HRo, HK9.out.trans hko, HUo⟩
              have := HDk.out
              unfold splitStep at this
              rw [← HRe.out, ← HM.out] at this
              rw [HFe.out]
              exact this
            case measure => simp [intOf]; omega
      · have HE : Hid (s = splitF colors keys g gs) := by
          show _ = _
          have := HF.out
          rw [drop_end hlt] at this
          exact this
        go_wp2_with fail
        go_ret2
        refine ⟨go, rfl, Z3.out, by rw [← HE.out]; exact HRk.out, by rw [← HE.out]; exact HSk.out.mono (fun _ h => h.elim), K6.out.later hkp Z3.out, U6.out.trans HUk.out⟩
    )
end Go.Proofs.Ytoloiingodigpaa
