import Derived.Test.YtbhkenphcahifaaQD
namespace Go.Proofs.Ytbhkenphcahifaa
open Go.RowKit Go.Shelf
attribute [local go_sem] Oper.semAt_some
set_option maxRecDepth 100000
set_option maxHeartbeats 4000000

theorem appN {w : World} {lo : Nat} {v : Value} {R : List Int} (h : NewInts lo w v R) (s : Int) (hl : R.length ≤ 1000000) (hs : lo ≤ w.heap.size) :
    ∃ v' w2, (Builtin.append_ #[22, 22] 22 #[v, .slice (some ⟨w.heap.size, 0, none⟩) 1 1]).run Try.prog (w.alloc (.cells #[.int .i64 s] 3)) = .ok v' w2 ∧ NewInts lo w2 v' (R ++ [s]) ∧ Below lo w w2 := by
  obtain ⟨g, cap, w2, hr, hn, hg, hat, hz⟩ := app_one h s hl hs
  exact ⟨_, w2, hr, hn, ((Below.refl lo w).alloc hs _).trans ⟨hg.os, hg.tape, hg.output, hg.size, fun k hk => hg.block k (by simp; omega) (fun e => by have := (h.own.lt k e.symm).1; omega)⟩⟩
theorem NewInts.keep {w w' : World} {lo : Nat} {v : Value} {R : List Int} (h : NewInts lo w v R) (hb : Below w.heap.size w w') : NewInts lo w' v R := ⟨ownsRow_bl h.own hb, h.len⟩

/-- the path so far, and what does not change -/
structure TrS (B lo : Nat) (X : World) (cs : Obj) (pv : Value) (P : List Int) (w : World) : Prop where
  pp : NewInts lo w pv P
  bl : Below B X w
  bx : w.heap[B]? = some cs
  sz : lo ≤ w.heap.size
  hB : B < lo
theorem TrS.keep {B lo : Nat} {X : World} {cs : Obj} {pv : Value} {P : List Int} {w w' : World} (h : TrS B lo X cs pv P w) (hb : Below w.heap.size w w') : TrS B lo X cs pv P w' :=
  ⟨h.pp.keep hb, h.bl.trans (hb.mono (by have := h.hB; have := h.sz; omega)), (hb.block _ (by have := h.hB; have := h.sz; omega)).trans h.bx, by have := hb.size; have := h.sz; omega, h.hB⟩
theorem TrS.app {B lo : Nat} {X : World} {cs : Obj} {pv : Value} {P : List Int} {w : World} (h : TrS B lo X cs pv P w) (s : Int) (hl : P.length ≤ 1000000) :
    ∃ v' w2, (Builtin.append_ #[22, 22] 22 #[pv, .slice (some ⟨w.heap.size, 0, none⟩) 1 1]).run Try.prog (w.alloc (.cells #[.int .i64 s] 3)) = .ok v' w2 ∧ TrS B lo X cs v' (P ++ [s]) w2 := by
  obtain ⟨v', w2, hr, hn, hb⟩ := appN h.pp s hl h.sz
  exact ⟨v', w2, hr, hn, h.bl.trans (hb.mono (by have := h.hB; omega)), (hb.block _ h.hB).trans h.bx, by have := hb.size; have := h.sz; omega, h.hB⟩

theorem rTree_any {w : World} {g o : Nat} (k lv : Nat) (hk : 1 ≤ k) (hk2 : k ≤ 16) (hlv : 1 ≤ lv) (hlv2 : lv ≤ 5) (hww2 : k ^ (lv - 1) ≤ 1000) (ht : Two w g o k lv) (sc : Nat) (kind hosts x y : Int) (hx : 0 ≤ x) (hx2 : x < (lv : Int) * ((k ^ (lv - 1) : Nat) : Int)) (hy : 0 ≤ y) (hy2 : y < ((k ^ (lv - 1) : Nat) : Int)) :
    Calls Try.prog 54 #[.agg #[.int .i64 kind, .slice (some ⟨g, o, none⟩) 2 sc, .int .i64 hosts], .int .i64 x, .int .i64 y] w fun e w' => ∃ pv, e = .returned pv ∧ NewInts w.heap.size w' pv (x :: (treeL k lv x y).map (·.1)) ∧ Below w.heap.size w w' := by
  have hw1 : 1 ≤ k ^ (lv - 1) := pow_pos' hk
  have HWI := Lib.hid (fun (i : Nat) (wd d : Int) (h1 : i < lv - 1) (h2 : 0 ≤ wd) (h3 : wd < ((k ^ (lv - 1) : Nat) : Int)) (h4 : 0 ≤ d) (h5 : d < k) => wth_in (k := k) (i := i) (m := lv - 1) (x := wd) (d := d) hk h1 h2 h3 h4 h5)
  have HDB := Lib.hid (fun (i : Nat) => dig_bound (k := k) (i := i) (x := y) hk)
  have HW0 : Hid (∀ W, Below w.heap.size w W → Calls Try.prog 50 #[.agg #[.int .i64 kind, .slice (some ⟨g, o, none⟩) 2 sc, .int .i64 hosts]] W fun e w' => e = .returned (.int .i64 ((k ^ (lv - 1) : Nat) : Int)) ∧ Below W.heap.size W w') := fun W hb => rWords_any k lv hk2 hlv hlv2 (ht.keep hb) sc kind hosts
  have HDG : Hid (∀ W, Below w.heap.size w W → ∀ i : Nat, i ≤ 5 → Calls Try.prog 69 #[.agg #[.int .i64 kind, .slice (some ⟨g, o, none⟩) 2 sc, .int .i64 hosts], .int .i64 y, .int .i64 i] W fun e w' => e = .returned (.int .i64 (digI k i y)) ∧ Below W.heap.size W w') := fun W hb i hi => rDigit_any k i lv hk hk2 hi (ht.keep hb) sc kind hosts y hy (by omega)
  have HWT : Hid (∀ W, Below w.heap.size w W → ∀ (i : Nat) (v d : Int), i ≤ 5 → 0 ≤ v → v ≤ 1000 → 0 ≤ d → d ≤ 16 → Calls Try.prog 68 #[.agg #[.int .i64 kind, .slice (some ⟨g, o, none⟩) 2 sc, .int .i64 hosts], .int .i64 v, .int .i64 i, .int .i64 d] W fun e w' => e = .returned (.int .i64 (wthI k i v d)) ∧ Below W.heap.size W w') := fun W hb i v d hi h0 h1 h2 h3 => rWith_any k i lv hk hk2 hi (ht.keep hb) sc kind hosts v d h0 h1 h2 h3
  have HPW := Lib.hid (fun (i : Nat) (hi : i ≤ 5) => same_of (fun W => rpower_any k i hk2 hi W))
  have HPQ : Hid (∀ i : Nat, i ≤ 5 → (1 : Int) ≤ ((k ^ i : Nat) : Int)) := fun i _ => by have := pow_pos' (i := i) hk; omega
  have HTOP : Hid (∀ (i : Nat) (wd : Int), lv - 1 ≤ i → 0 ≤ wd → wd < ((k ^ (lv - 1) : Nat) : Int) → wd / ((k ^ i : Nat) : Int) = 0) := fun i wd hi h0 h1 => by
    have := Nat.pow_le_pow_right hk hi
    exact Int.ediv_eq_zero_of_lt h0 (by omega)
  have HDL : Hid (treeL k lv x y = upL k ((k ^ (lv - 1) : Nat) : Int) y lv (x / ((k ^ (lv - 1) : Nat) : Int)).toNat (x % ((k ^ (lv - 1) : Nat) : Int))) := rfl
  have HLEN : Hid ((treeL k lv x y).length ≤ 100000) := by
    have h1 := upL_len k ((k ^ (lv - 1) : Nat) : Int) y lv (x / ((k ^ (lv - 1) : Nat) : Int)).toNat (x % ((k ^ (lv - 1) : Nat) : Int))
    have h2 : x / ((k ^ (lv - 1) : Nat) : Int) < lv := Int.ediv_lt_of_lt_mul (by omega) hx2
    show (upL k ((k ^ (lv - 1) : Nat) : Int) y lv (x / ((k ^ (lv - 1) : Nat) : Int)).toNat (x % ((k ^ (lv - 1) : Nat) : Int))).length ≤ 100000
    omega
  obtain ⟨ww, hww⟩ : ∃ ww : Int, ww = ((k ^ (lv - 1) : Nat) : Int) := ⟨_, rfl⟩
  have hwa : 1 ≤ ww := by omega
  have hwb : ww ≤ 1000 := by omega
  rw [← hww] at hx2 hy2 HWI HW0 HTOP HDL
  have hlx2 : x / ww < lv := Int.ediv_lt_of_lt_mul (by omega) hx2
  have hlx0 := Int.ediv_nonneg hx (show 0 ≤ ww by omega)
  have hwx0 := Int.emod_nonneg x (show ww ≠ 0 by omega)
  have hwx1 := Int.emod_lt_of_pos x (show 0 < ww by omega)
  have hne : ww ≠ 0 := by omega
  have E1 : wrap64 (x.tdiv ww) = x / ww := by rw [Int.tdiv_eq_ediv_of_nonneg hx]; unfold wrap64; omega
  have E2 : x.tmod ww = x % ww := Int.tmod_eq_emod_of_nonneg hx
  have HT2 : Hid (∀ W, Below w.heap.size w W → Two W g o k lv) := fun W hb => ht.keep hb
  have HBD := Lib.hid (And.intro hk (And.intro hk2 (And.intro hlv (And.intro hlv2 (And.intro hy hy2)))))
  have HB := Lib.hid ((Below.refl w.heap.size w).alloc (Nat.le_refl _) (.cells #[.int .i64 kind, .slice (some ⟨g, o, none⟩) 2 sc, .int .i64 hosts] 30))
  have Q0 := Lib.hid (heap_alloc_new w (.cells #[.int .i64 kind, .slice (some ⟨g, o, none⟩) 2 sc, .int .i64 hosts] 30))
  have hsX : (w.alloc (.cells #[.int .i64 kind, .slice (some ⟨g, o, none⟩) 2 sc, .int .i64 hosts] 30)).heap.size = w.heap.size + 1 := by simp
  have c0 := cellR 0 Q0.out rfl
  have c1 := cellR 1 Q0.out rfl
  have c2 := cellR 2 Q0.out rfl
  have HW1 := Lib.hid (HW0.out _ HB.out)
  generalize treeL k lv x y = TL at *
  clear HW0 ht hww hx2 hww2 hw1 hk hk2 hlv hlv2 hy hy2
  obtain ⟨l0, hl0⟩ := Int.eq_ofNat_of_zero_le hlx0
  rw [hl0] at E1 HDL hlx2
  rw [Int.toNat_natCast] at HDL
  generalize x % ww = wx at *
  clear hl0 hlx0
  go_enter Try.func54, Try.ntmps54
  go_wp2_with fail
  generalize w.alloc (.cells #[.int .i64 kind, .slice (some ⟨g, o, none⟩) 2 sc, .int .i64 hosts] 30) = X at *
  refine HW1.out.mono ?_
  rintro e w1 ⟨rfl, hb1⟩
  have HX1 : Hid (TrS w.heap.size (w.heap.size + 1) w (.cells #[.int .i64 kind, .slice (some ⟨g, o, none⟩) 2 sc, .int .i64 hosts] 30 (0, 0)) (.slice none 0 0) [] w1) := by
    refine ⟨⟨World.ownsRow_nil _ _ _ _, by simp⟩, HB.out.trans (hb1.mono HB.out.size), (hb1.block _ (by omega)).trans Q0.out, by have := hb1.size; omega, by omega⟩
  clear HB Q0 HW1 hb1 c0 c1 c2 hsX
  go_wp2_with fail
  go_quiet (fail)
  have HX2 : Hid (TrS w.heap.size (w.heap.size + 1) w (.cells #[.int .i64 kind, .slice (some ⟨g, o, none⟩) 2 sc, .int .i64 hosts] 30 (0, 0)) (.slice none 0 0) [] (w1.drewN nq)) := HX1.out.keep (below_drewN (Below.refl _ _) _)
  generalize w1.drewN nq = w2 at *
  clear HX1
  have HX3 : Hid (TrS w.heap.size (w.heap.size + 1) w (.cells #[.int .i64 kind, .slice (some ⟨g, o, none⟩) 2 sc, .int .i64 hosts] 30 (0, 0)) (.slice (some ⟨w2.heap.size, 0, none⟩) 1 1) [x] (w2.alloc (.cells #[.int .i64 x] 3))) := by
    obtain ⟨h1, h2, h3, h4, h5⟩ := HX2.out
    have hr : RowAt (w2.alloc (.cells #[.int .i64 x] 3)) w2.heap.size [x] := by
      have : rowA [x] = #[.int .i64 x] := by unfold rowA; rfl
      show _ = _
      rw [this]; exact heap_alloc_new w2 _
    refine ⟨hr.own h4 (by simp), h2.alloc (by omega) _, (Below.heap_alloc _ _ _ (by omega)).trans h3, by simp; omega, h5⟩
  clear HX2
  rw [E1, E2] at *
  clear E1 E2
  go_wp2_with fail
  generalize Value.slice (some ⟨w2.heap.size, 0, none⟩) 1 1 = pv0 at *
  generalize w2.alloc (.cells #[.int .i64 x] 3) = Y at *
  go_loopw [8, 9, 10] (fun lvv vv av wr => ∃ (pv : Value) (f m : Nat) (wd : Int) (P : List Int), pv = av ∧ lvv = .int .i64 (m : Int) ∧ vv = .int .i64 wd ∧ m < lv ∧ 0 ≤ wd ∧ wd < ww ∧ Hid (TrS w.heap.size (w.heap.size + 1) w (.cells #[.int .i64 kind, .slice (some ⟨g, o, none⟩) 2 sc, .int .i64 hosts] 30 (0, 0)) pv P wr ∧ P ++ (upL k ww y f m wd).map (·.1) = x :: TL.map (·.1) ∧ lv - m ≤ f)) (fun lvv _ _ _ => lv - (intOf lvv).toNat)
  case atStart => exact ⟨_, lv, l0, wx, [x], rfl, rfl, rfl, by omega, hwx0, hwx1, HX3.out, by rw [HDL.out]; rfl, by omega⟩
  case round =>
    clear HX3 HDL hlx2 hwx0 hwx1
    obtain ⟨pv', f, m, wd, P, rfl, rfl, rfl, hm, hwd0, hwd1, HI⟩ := hrel
    have hmi : m ≤ 5 := by have := HBD.out.2.2.2.1; omega
    have HP := Lib.hid (HPW.out m hmi)
    have hpq := HPQ.out m hmi
    have hyy := HBD.out.2.2.2.2
    obtain ⟨Q1, hQ1⟩ : ∃ q, q = wd / ((k ^ m : Nat) : Int) := ⟨_, rfl⟩
    obtain ⟨Q2, hQ2⟩ : ∃ q, q = y / ((k ^ m : Nat) : Int) := ⟨_, rfl⟩
    have F1 : wrap64 (wd.tdiv ((k ^ m : Nat) : Int)) = Q1 := by
      have h1 := Int.ediv_nonneg hwd0 (show 0 ≤ ((k ^ m : Nat) : Int) by omega)
      have h2 := Int.ediv_le_self ((k ^ m : Nat) : Int) hwd0
      rw [Int.tdiv_eq_ediv_of_nonneg hwd0, hQ1]; unfold wrap64; omega
    have F2 : wrap64 (y.tdiv ((k ^ m : Nat) : Int)) = Q2 := by
      have h1 := Int.ediv_nonneg hyy.1 (show 0 ≤ ((k ^ m : Nat) : Int) by omega)
      have h2 := Int.ediv_le_self ((k ^ m : Nat) : Int) hyy.1
      rw [Int.tdiv_eq_ediv_of_nonneg hyy.1, hQ2]; unfold wrap64; omega
    have HQ1 := Lib.hid hQ1
    have HQ2 := Lib.hid hQ2
    obtain ⟨hT0, hT1⟩ := HT2.out wr HI.out.1.bl
    have b1 := cellR 1 HI.out.1.bx rfl
    have hpn : ((k ^ m : Nat) : Int) ≠ 0 := by omega
    have HPP : Hid (∃ p : Int, p = ((k ^ m : Nat) : Int)) := ⟨_, rfl⟩
    obtain ⟨p, hp⟩ := HPP.out
    have HPE := Lib.hid hp
    rw [← hp] at HP F1 F2 hpn
    clear hQ1 hQ2 hpq hyy hp HPP
    by_cases hq : Q1 = Q2
    · have hqb : (Q1 != Q2) = false := by simp [hq]
      obtain ⟨wo, rfl⟩ : ∃ wo, wo = wr := ⟨_, rfl⟩
      go_wp2_with fail
      go_quiet (first | (go_at_call 46; refine Calls.quiet_of_same (HP.out _)))
      have HI2 : Hid (TrS w.heap.size (w.heap.size + 1) w (.cells #[.int .i64 kind, .slice (some ⟨g, o, none⟩) 2 sc, .int .i64 hosts] 30 (0, 0)) pv' P (wo.drewN nq) ∧ P ++ (downL k ww y m wd).map (·.1) = x :: TL.map (·.1)) := by
        refine ⟨HI.out.1.keep (below_drewN (Below.refl _ _) _), ?_⟩
        have e : upL k ww y f m wd = downL k ww y m wd := by
          cases f with
          | zero => rw [upL]
          | succ f => rw [upL, if_neg (by rw [← HQ1.out, ← HQ2.out, hq]; exact fun h => h rfl)]
        rw [← e]; exact HI.out.2.1
      generalize wo.drewN nq = w3 at *
      clear HI HP HPE HQ1 HQ2 F1 F2 hT0 hT1 b1 hpn hq
      go_wp2_with fail
      clear hqb
      go_loopw [8, 9, 10] (fun lvv vv av wr => ∃ (pv : Value) (m : Nat) (wd : Int) (P : List Int), pv = av ∧ lvv = .int .i64 (m : Int) ∧ vv = .int .i64 wd ∧ m < lv ∧ 0 ≤ wd ∧ wd < ww ∧ Hid (TrS w.heap.size (w.heap.size + 1) w (.cells #[.int .i64 kind, .slice (some ⟨g, o, none⟩) 2 sc, .int .i64 hosts] 30 (0, 0)) pv P wr ∧ P ++ (downL k ww y m wd).map (·.1) = x :: TL.map (·.1))) (fun lvv _ _ _ => (intOf lvv).toNat)
      case atStart => exact ⟨_, m, wd, P, rfl, rfl, rfl, hm, hwd0, hwd1, HI2⟩
      case round =>
        clear HI2
        obtain ⟨pv2, mm, wv, P2, rfl, rfl, rfl, hm2, hwv0, hwv1, HI⟩ := hrel
        cases mm with
        | zero =>
          have HR : Hid (NewInts w.heap.size wr pv2 (x :: TL.map (·.1)) ∧ Below w.heap.size w wr) := by
            obtain ⟨⟨h1, h2, _, _, _⟩, h6⟩ := HI.out
            simp only [downL, List.map_nil, List.append_nil] at h6
            subst h6
            exact ⟨⟨own_lower h1.own (by omega), h1.len⟩, h2⟩
          clear HI
          go_wp2_with fail
          go_ret
          exact ⟨_, rfl, HR.out.1, HR.out.2⟩
        | succ mm =>
          have hpos : decide (((mm + 1 : Nat) : Int) > 0) = true := decide_eq_true (by omega)
          have hcm : wrap64 (((mm + 1 : Nat) : Int) - 1) = (mm : Int) := by rw [show ((mm + 1 : Nat) : Int) - 1 = (mm : Int) by omega]; exact wrap_small _ (by omega) (by have := HBD.out.2.2.2.1; omega)
          have HCM := Lib.hid hcm
          obtain ⟨wo, rfl⟩ : ∃ wo, wo = wr := ⟨_, rfl⟩
          go_wp2_with fail
          clear hcm hpos
          have HD2 : Hid (P2 ++ ((mm : Int) * ww + wthI k mm wv (digI k mm y)) :: (downL k ww y mm (wthI k mm wv (digI k mm y))).map (·.1) = x :: TL.map (·.1)) := HI.out.2
          have hlv5 := HBD.out.2.2.2.1
          have HWM := Lib.hid (wrap_small (mm : Int) (by omega) (by omega))
          rw [HWM.out]
          clear HWM
          have hdb := HDB.out mm
          have HD1 : Hid (∀ W, Below w.heap.size w W → Calls Try.prog 69 #[.agg #[.int .i64 kind, .slice (some ⟨g, o, none⟩) 2 sc, .int .i64 hosts], .int .i64 y, .int .i64 mm] W fun e w' => e = .returned (.int .i64 (digI k mm y)) ∧ Below W.heap.size W w') := fun W hb => HDG.out W hb mm (by omega)
          have HT1 : Hid (∀ W, Below w.heap.size w W → Calls Try.prog 68 #[.agg #[.int .i64 kind, .slice (some ⟨g, o, none⟩) 2 sc, .int .i64 hosts], .int .i64 wv, .int .i64 mm, .int .i64 (digI k mm y)] W fun e w' => e = .returned (.int .i64 (wthI k mm wv (digI k mm y))) ∧ Below W.heap.size W w') := fun W hb => HWT.out W hb mm wv _ (by omega) (by omega) (by omega) hdb.1 (by have := HBD.out.2.1; omega)
          obtain ⟨v0, v1⟩ := HWI.out mm wv (digI k mm y) (by omega) (by omega) (by omega) hdb.1 hdb.2
          generalize wthI k mm wv (digI k mm y) = wd2 at *
          generalize digI k mm y = dg at *
          clear hdb
          refine (wpIn_wide (n := 0)).1 ?_
          refine region_det (by kernel_rfl) (I := fun listed a' w' => Hid (Below wo.heap.size wo w') ∧ Hid (listed.getD 8 false = true → listed.getD 1 false = true) ∧ a' = ⟨#[Value.agg #[Value.int IntKind.i64 kind, Value.slice (some (⟨g, o, none⟩)) 2 sc, Value.int IntKind.i64 hosts], Value.int IntKind.i64 x, Value.int IntKind.i64 y, Value.pointer (some (⟨w.heap.size, 0, none⟩)), undef, undef, Value.slice none 0 0, Value.int IntKind.i64 ww, Value.int IntKind.i64 ((mm : Int)), (if listed.getD 8 false = true then Value.int IntKind.i64 (wd2) else Value.int IntKind.i64 wv), pv2, Value.agg #[Value.int IntKind.i64 kind, Value.slice (some (⟨g, o, none⟩)) 2 sc, Value.int IntKind.i64 hosts], Value.int IntKind.i64 ww, Value.int IntKind.i64 x, Value.int IntKind.i64 ww, Value.int IntKind.i64 (l0 : Int), Value.int IntKind.i64 x, Value.int IntKind.i64 ww, Value.int IntKind.i64 wx, Value.int IntKind.i64 x, pv0, Value.int IntKind.i64 wd, Value.pointer (some (⟨w.heap.size, 1, none⟩)), Value.slice (some (⟨g, o, none⟩)) 2 sc, Value.pointer (some (⟨g, o, none⟩)), Value.int IntKind.i64 (k : Int), Value.int IntKind.i64 (m : Int), Value.int IntKind.i64 p, Value.int IntKind.i64 (wrap64 (wd.tdiv p)), Value.int IntKind.i64 y, Value.pointer (some (⟨w.heap.size, 1, none⟩)), Value.slice (some (⟨g, o, none⟩)) 2 sc, Value.pointer (some (⟨g, o, none⟩)), Value.int IntKind.i64 (k : Int), Value.int IntKind.i64 (m : Int), Value.int IntKind.i64 p, Value.int IntKind.i64 (wrap64 (y.tdiv p)), Value.bool false, u38, u39, u40, u41, u42, u43, u44, u45, u46, u47, u48, u49, u50, u51, u52, u53, u54, u55, Value.int IntKind.i64 ((mm : Int) + 1), Value.bool true, Value.int IntKind.i64 ((mm : Int) + 1), Value.int IntKind.i64 ((mm : Int)), (if listed.getD 0 false = true then Value.agg #[.int .i64 kind, .slice (some ⟨g, o, none⟩) 2 sc, .int .i64 hosts] else u60), (if listed.getD 1 false = true then Value.int IntKind.i64 (wv) else u61), (if listed.getD 2 false = true then Value.int IntKind.i64 ((mm : Int)) else u62), (if listed.getD 3 false = true then Value.agg #[.int .i64 kind, .slice (some ⟨g, o, none⟩) 2 sc, .int .i64 hosts] else u63), (if listed.getD 4 false = true then Value.int IntKind.i64 (y) else u64), (if listed.getD 5 false = true then Value.int IntKind.i64 ((mm : Int)) else u65), (if listed.getD 6 false = true then Value.int IntKind.i64 (dg) else u66), (if listed.getD 7 false = true then Value.int IntKind.i64 (wd2) else u67), u68, u69, u70, u71, u72, u73, u74, u75, undef], []⟩) (hup_check (by kernel_rfl)) ?h0 ?step ?fin
          case h0 => exact ⟨(Below.refl _ _).drew, (fun h => by simp at h), rfl⟩
          case step =>
            intro listed a' w' i hs hbi hdep hi ⟨IB, J8, ha⟩
            obtain ⟨ls⟩ := listed
            match ls, hs with
            | [x0, x1, x2, x3, x4, x5, x6, x7, x8], _ =>
            subst ha
            have hi' : i = 0 ∨ i = 1 ∨ i = 2 ∨ i = 3 ∨ i = 4 ∨ i = 5 ∨ i = 6 ∨ i = 7 ∨ i = 8 := by simp at hi; omega
            rcases hi' with rfl | rfl | rfl | rfl | rfl | rfl | rfl | rfl | rfl
            · obtain rfl : x0 = false := by simpa using hbi
              refine wpOpIn_load_row rfl rfl 30 _ rfl w.heap.size rfl 30 _ _ _ (heapB IB.out HI.out.1.bx) Try.underlying30 rfl info30 ?_
              exact ⟨IB, J8, rfl⟩
            · obtain rfl : x1 = false := by simpa using hbi
              obtain rfl : x8 = false := Bool.eq_false_iff.2 fun h => by have := J8.out h; cases this
              refine wpOpIn_plain rfl rfl rfl ?_
              exact ⟨IB, (fun _ => rfl), rfl⟩
            · obtain rfl : x2 = false := by simpa using hbi
              refine wpOpIn_plain rfl rfl rfl ?_
              exact ⟨IB, J8, rfl⟩
            · obtain rfl : x3 = false := by simpa using hbi
              refine wpOpIn_load_row rfl rfl 30 _ rfl w.heap.size rfl 30 _ _ _ (heapB IB.out HI.out.1.bx) Try.underlying30 rfl info30 ?_
              exact ⟨IB, J8, rfl⟩
            · obtain rfl : x4 = false := by simpa using hbi
              refine wpOpIn_plain rfl rfl rfl ?_
              exact ⟨IB, J8, rfl⟩
            · obtain rfl : x5 = false := by simpa using hbi
              refine wpOpIn_plain rfl rfl rfl ?_
              exact ⟨IB, J8, rfl⟩
            · obtain rfl : x6 = false := by simpa using hbi
              obtain rfl : x3 = true := hdep _ rfl ⟨3, .data⟩ (by simp) rfl
              obtain rfl : x4 = true := hdep _ rfl ⟨4, .data⟩ (by simp) rfl
              obtain rfl : x5 = true := hdep _ rfl ⟨5, .data⟩ (by simp) rfl
              refine wpOpIn_call (args := #[Value.agg #[.int .i64 kind, .slice (some ⟨g, o, none⟩) 2 sc, .int .i64 hosts], Value.int IntKind.i64 (y), Value.int IntKind.i64 ((mm : Int))]) rfl rfl (sem_call3 rfl rfl rfl rfl (enters_of Try.func69 (by kernel_rfl) rfl)) (HD1.out w' (HI.out.1.bl.trans (IB.out.mono (by have := HI.out.1.hB; have := HI.out.1.sz; omega)))) ?_
              rintro e V ⟨rfl, hb⟩
              exact ⟨_, rfl, (IB.out.trans (hb.mono IB.out.size)), J8, rfl⟩
            · obtain rfl : x7 = false := by simpa using hbi
              obtain rfl : x0 = true := hdep _ rfl ⟨0, .data⟩ (by simp) rfl
              obtain rfl : x1 = true := hdep _ rfl ⟨1, .data⟩ (by simp) rfl
              obtain rfl : x2 = true := hdep _ rfl ⟨2, .data⟩ (by simp) rfl
              obtain rfl : x6 = true := hdep _ rfl ⟨6, .data⟩ (by simp) rfl
              refine wpOpIn_call (args := #[Value.agg #[.int .i64 kind, .slice (some ⟨g, o, none⟩) 2 sc, .int .i64 hosts], Value.int IntKind.i64 (wv), Value.int IntKind.i64 ((mm : Int)), Value.int IntKind.i64 (dg)]) rfl rfl (sem_call4 rfl rfl rfl rfl rfl (enters_of Try.func68 (by kernel_rfl) rfl)) (HT1.out w' (HI.out.1.bl.trans (IB.out.mono (by have := HI.out.1.hB; have := HI.out.1.sz; omega)))) ?_
              rintro e V ⟨rfl, hb⟩
              exact ⟨_, rfl, (IB.out.trans (hb.mono IB.out.size)), J8, rfl⟩
            · obtain rfl : x8 = false := by simpa using hbi
              obtain rfl : x7 = true := hdep _ rfl ⟨7, .data⟩ (by simp) rfl
              obtain rfl : x1 = true := hdep _ rfl ⟨1, .phase⟩ (by simp) rfl
              refine wpOpIn_plain rfl rfl rfl ?_
              exact ⟨IB, (fun _ => rfl), rfl⟩
          case fin =>
          intro listed a' Z hs hall ⟨IB, J8, ha⟩
          obtain ⟨ls⟩ := listed
          match ls, hs with
          | [x0, x1, x2, x3, x4, x5, x6, x7, x8], _ =>
          obtain rfl : x0 = true := hall 0 (by simp)
          obtain rfl : x1 = true := hall 1 (by simp)
          obtain rfl : x2 = true := hall 2 (by simp)
          obtain rfl : x3 = true := hall 3 (by simp)
          obtain rfl : x4 = true := hall 4 (by simp)
          obtain rfl : x5 = true := hall 5 (by simp)
          obtain rfl : x6 = true := hall 6 (by simp)
          obtain rfl : x7 = true := hall 7 (by simp)
          obtain rfl : x8 = true := hall 8 (by simp)
          subst ha
          have HZ : Hid (Below wo.heap.size wo Z) := IB
          clear IB hall hs
          dsimp only [Exit.then, Exit.inBlock]
          have hw1 : wrap64 ((mm : Int) * ww) = (mm : Int) * ww := wrap_small _ (by have := Int.mul_nonneg (show (0 : Int) ≤ (mm : Int) by omega) (show 0 ≤ ww by omega); omega) (by have := Int.mul_le_mul (show (mm : Int) ≤ 6 by omega) hwb (by omega) (by decide); omega)
          have hw2 : wrap64 ((mm : Int) * ww + wd2) = (mm : Int) * ww + wd2 := wrap_small _ (by have := Int.mul_nonneg (show (0 : Int) ≤ (mm : Int) by omega) (show 0 ≤ ww by omega); omega) (by have := Int.mul_le_mul (show (mm : Int) ≤ 6 by omega) hwb (by omega) (by decide); omega)
          obtain ⟨pv3, W5, hr1, hT5⟩ := (HI.out.1.keep HZ.out).app ((mm : Int) * ww + wd2) (by have := congrArg List.length HI.out.2; have := HLEN.out; simp at *; omega)
          have HR1 := Lib.hid hr1
          have HF := Lib.hid hT5
          clear hr1 hT5 HZ HD1 HT1
          go_wp2_with (at_builtin; refine Lib.wpList_append_run _ rfl (.tmp 68) (.tmp 74) 22 22 rfl _ _ rfl rfl _ _ HR1.out ?_)
          go_roundw
          case rel => 
            exact ⟨pv3, mm, wd2, P2 ++ [(mm : Int) * ww + wd2], rfl, rfl, rfl, by omega, v0, v1, HF.out, by rw [List.append_assoc]; exact HD2.out⟩
          case measure => simp [intOf]
    · have hqb : (Q1 != Q2) = true := by simp [hq]
      obtain ⟨wo, rfl⟩ : ∃ wo, wo = wr := ⟨_, rfl⟩
      go_wp2_with fail
      go_quiet (first | (go_at_call 46; refine Calls.quiet_of_same (HP.out _)))
      have hml : m < lv - 1 := by
        by_cases h : m < lv - 1
        · exact h
        · exfalso
          have hyy := HBD.out.2.2.2.2
          exact hq (by rw [HQ1.out, HQ2.out, HTOP.out m wd (by omega) hwd0 hwd1, HTOP.out m y (by omega) hyy.1 hyy.2])
      have HI2 : Hid (TrS w.heap.size (w.heap.size + 1) w (.cells #[.int .i64 kind, .slice (some ⟨g, o, none⟩) 2 sc, .int .i64 hosts] 30 (0, 0)) pv' P (wo.drewN nq) ∧ ∃ f2, P ++ (((m + 1 : Nat) : Int) * ww + wthI k m wd (digI k m y)) :: (upL k ww y f2 (m + 1) (wthI k m wd (digI k m y))).map (·.1) = x :: TL.map (·.1) ∧ lv - (m + 1) ≤ f2) := by
        refine ⟨HI.out.1.keep (below_drewN (Below.refl _ _) _), ?_⟩
        obtain ⟨f2, rfl⟩ : ∃ f2, f = f2 + 1 := ⟨f - 1, by have := HI.out.2.2; omega⟩
        refine ⟨f2, ?_, by have := HI.out.2.2; omega⟩
        have h := HI.out.2.1
        rw [upL, if_pos (by rw [← HQ1.out, ← HQ2.out]; exact hq)] at h
        exact h
      generalize wo.drewN nq = w3 at *
      clear HI HP HPE HQ1 HQ2 F1 F2 hT0 hT1 b1 hpn hq
      go_wp2_with fail
      clear hqb
      have hlv5 := HBD.out.2.2.2.1
      have hdb := HDB.out m
      have HD1 : Hid (∀ W, Below w.heap.size w W → Calls Try.prog 69 #[.agg #[.int .i64 kind, .slice (some ⟨g, o, none⟩) 2 sc, .int .i64 hosts], .int .i64 y, .int .i64 m] W fun e w' => e = .returned (.int .i64 (digI k m y)) ∧ Below W.heap.size W w') := fun W hb => HDG.out W hb m (by omega)
      have HT1 : Hid (∀ W, Below w.heap.size w W → Calls Try.prog 68 #[.agg #[.int .i64 kind, .slice (some ⟨g, o, none⟩) 2 sc, .int .i64 hosts], .int .i64 wd, .int .i64 m, .int .i64 (digI k m y)] W fun e w' => e = .returned (.int .i64 (wthI k m wd (digI k m y))) ∧ Below W.heap.size W w') := fun W hb => HWT.out W hb m wd _ (by omega) (by omega) (by omega) hdb.1 (by have := HBD.out.2.1; omega)
      obtain ⟨v0, v1⟩ := HWI.out m wd (digI k m y) (by omega) (by omega) (by omega) hdb.1 hdb.2
      generalize wthI k m wd (digI k m y) = wd2 at *
      generalize digI k m y = dg at *
      clear hdb
      refine (wpIn_wide (n := 0)).1 ?_
      refine region_det (by kernel_rfl) (I := fun listed a' w' => Hid (Below w3.heap.size w3 w') ∧ Hid (listed.getD 8 false = true → listed.getD 1 false = true) ∧ a' = ⟨#[Value.agg #[Value.int IntKind.i64 kind, Value.slice (some (⟨g, o, none⟩)) 2 sc, Value.int IntKind.i64 hosts], Value.int IntKind.i64 x, Value.int IntKind.i64 y, Value.pointer (some (⟨w.heap.size, 0, none⟩)), undef, undef, Value.slice none 0 0, Value.int IntKind.i64 ww, Value.int IntKind.i64 (m : Int), (if listed.getD 8 false = true then Value.int IntKind.i64 (wd2) else Value.int IntKind.i64 wd), pv', Value.agg #[Value.int IntKind.i64 kind, Value.slice (some (⟨g, o, none⟩)) 2 sc, Value.int IntKind.i64 hosts], Value.int IntKind.i64 ww, Value.int IntKind.i64 x, Value.int IntKind.i64 ww, Value.int IntKind.i64 (l0 : Int), Value.int IntKind.i64 x, Value.int IntKind.i64 ww, Value.int IntKind.i64 wx, Value.int IntKind.i64 x, pv0, Value.int IntKind.i64 wd, Value.pointer (some (⟨w.heap.size, 1, none⟩)), Value.slice (some (⟨g, o, none⟩)) 2 sc, Value.pointer (some (⟨g, o, none⟩)), Value.int IntKind.i64 (k : Int), Value.int IntKind.i64 (m : Int), Value.int IntKind.i64 p, Value.int IntKind.i64 (wrap64 (wd.tdiv p)), Value.int IntKind.i64 y, Value.pointer (some (⟨w.heap.size, 1, none⟩)), Value.slice (some (⟨g, o, none⟩)) 2 sc, Value.pointer (some (⟨g, o, none⟩)), Value.int IntKind.i64 (k : Int), Value.int IntKind.i64 (m : Int), Value.int IntKind.i64 p, Value.int IntKind.i64 (wrap64 (y.tdiv p)), Value.bool true, (if listed.getD 0 false = true then Value.agg #[.int .i64 kind, .slice (some ⟨g, o, none⟩) 2 sc, .int .i64 hosts] else u38), (if listed.getD 1 false = true then Value.int IntKind.i64 (wd) else u39), (if listed.getD 2 false = true then Value.int IntKind.i64 ((m : Int)) else u40), (if listed.getD 3 false = true then Value.agg #[.int .i64 kind, .slice (some ⟨g, o, none⟩) 2 sc, .int .i64 hosts] else u41), (if listed.getD 4 false = true then Value.int IntKind.i64 (y) else u42), (if listed.getD 5 false = true then Value.int IntKind.i64 ((m : Int)) else u43), (if listed.getD 6 false = true then Value.int IntKind.i64 (dg) else u44), (if listed.getD 7 false = true then Value.int IntKind.i64 (wd2) else u45), u46, u47, u48, u49, u50, u51, u52, u53, u54, u55, undef, undef, undef, undef, undef, undef, undef, undef, undef, undef, undef, undef, undef, undef, undef, undef, undef, undef, undef, undef, undef], []⟩) (hup_check (by kernel_rfl)) ?h0 ?step ?fin
      case h0 => exact ⟨(Below.refl _ _).drew, (fun h => by simp at h), rfl⟩
      case step =>
        intro listed a' w' i hs hbi hdep hi ⟨IB, J8, ha⟩
        obtain ⟨ls⟩ := listed
        match ls, hs with
        | [x0, x1, x2, x3, x4, x5, x6, x7, x8], _ =>
        subst ha
        have hi' : i = 0 ∨ i = 1 ∨ i = 2 ∨ i = 3 ∨ i = 4 ∨ i = 5 ∨ i = 6 ∨ i = 7 ∨ i = 8 := by simp at hi; omega
        rcases hi' with rfl | rfl | rfl | rfl | rfl | rfl | rfl | rfl | rfl
        · obtain rfl : x0 = false := by simpa using hbi
          refine wpOpIn_load_row rfl rfl 30 _ rfl w.heap.size rfl 30 _ _ _ (heapB IB.out HI2.out.1.bx) Try.underlying30 rfl info30 ?_
          exact ⟨IB, J8, rfl⟩
        · obtain rfl : x1 = false := by simpa using hbi
          obtain rfl : x8 = false := Bool.eq_false_iff.2 fun h => by have := J8.out h; cases this
          refine wpOpIn_plain rfl rfl rfl ?_
          exact ⟨IB, (fun _ => rfl), rfl⟩
        · obtain rfl : x2 = false := by simpa using hbi
          refine wpOpIn_plain rfl rfl rfl ?_
          exact ⟨IB, J8, rfl⟩
        · obtain rfl : x3 = false := by simpa using hbi
          refine wpOpIn_load_row rfl rfl 30 _ rfl w.heap.size rfl 30 _ _ _ (heapB IB.out HI2.out.1.bx) Try.underlying30 rfl info30 ?_
          exact ⟨IB, J8, rfl⟩
        · obtain rfl : x4 = false := by simpa using hbi
          refine wpOpIn_plain rfl rfl rfl ?_
          exact ⟨IB, J8, rfl⟩
        · obtain rfl : x5 = false := by simpa using hbi
          refine wpOpIn_plain rfl rfl rfl ?_
          exact ⟨IB, J8, rfl⟩
        · obtain rfl : x6 = false := by simpa using hbi
          obtain rfl : x3 = true := hdep _ rfl ⟨3, .data⟩ (by simp) rfl
          obtain rfl : x4 = true := hdep _ rfl ⟨4, .data⟩ (by simp) rfl
          obtain rfl : x5 = true := hdep _ rfl ⟨5, .data⟩ (by simp) rfl
          refine wpOpIn_call (args := #[Value.agg #[.int .i64 kind, .slice (some ⟨g, o, none⟩) 2 sc, .int .i64 hosts], Value.int IntKind.i64 (y), Value.int IntKind.i64 ((m : Int))]) rfl rfl (sem_call3 rfl rfl rfl rfl (enters_of Try.func69 (by kernel_rfl) rfl)) (HD1.out w' (HI2.out.1.bl.trans (IB.out.mono (by have := HI2.out.1.hB; have := HI2.out.1.sz; omega)))) ?_
          rintro e V ⟨rfl, hb⟩
          exact ⟨_, rfl, (IB.out.trans (hb.mono IB.out.size)), J8, rfl⟩
        · obtain rfl : x7 = false := by simpa using hbi
          obtain rfl : x0 = true := hdep _ rfl ⟨0, .data⟩ (by simp) rfl
          obtain rfl : x1 = true := hdep _ rfl ⟨1, .data⟩ (by simp) rfl
          obtain rfl : x2 = true := hdep _ rfl ⟨2, .data⟩ (by simp) rfl
          obtain rfl : x6 = true := hdep _ rfl ⟨6, .data⟩ (by simp) rfl
          refine wpOpIn_call (args := #[Value.agg #[.int .i64 kind, .slice (some ⟨g, o, none⟩) 2 sc, .int .i64 hosts], Value.int IntKind.i64 (wd), Value.int IntKind.i64 ((m : Int)), Value.int IntKind.i64 (dg)]) rfl rfl (sem_call4 rfl rfl rfl rfl rfl (enters_of Try.func68 (by kernel_rfl) rfl)) (HT1.out w' (HI2.out.1.bl.trans (IB.out.mono (by have := HI2.out.1.hB; have := HI2.out.1.sz; omega)))) ?_
          rintro e V ⟨rfl, hb⟩
          exact ⟨_, rfl, (IB.out.trans (hb.mono IB.out.size)), J8, rfl⟩
        · obtain rfl : x8 = false := by simpa using hbi
          obtain rfl : x7 = true := hdep _ rfl ⟨7, .data⟩ (by simp) rfl
          obtain rfl : x1 = true := hdep _ rfl ⟨1, .phase⟩ (by simp) rfl
          refine wpOpIn_plain rfl rfl rfl ?_
          exact ⟨IB, (fun _ => rfl), rfl⟩
      case fin =>
      intro listed a' Z hs hall ⟨IB, J8, ha⟩
      obtain ⟨ls⟩ := listed
      match ls, hs with
      | [x0, x1, x2, x3, x4, x5, x6, x7, x8], _ =>
      obtain rfl : x0 = true := hall 0 (by simp)
      obtain rfl : x1 = true := hall 1 (by simp)
      obtain rfl : x2 = true := hall 2 (by simp)
      obtain rfl : x3 = true := hall 3 (by simp)
      obtain rfl : x4 = true := hall 4 (by simp)
      obtain rfl : x5 = true := hall 5 (by simp)
      obtain rfl : x6 = true := hall 6 (by simp)
      obtain rfl : x7 = true := hall 7 (by simp)
      obtain rfl : x8 = true := hall 8 (by simp)
      subst ha
      have HZ : Hid (Below w3.heap.size w3 Z) := IB
      clear IB hall hs
      dsimp only [Exit.then, Exit.inBlock]
      have hw1 : wrap64 (((m + 1 : Nat) : Int) * ww) = ((m + 1 : Nat) : Int) * ww := wrap_small _ (by have := Int.mul_nonneg (show (0 : Int) ≤ ((m + 1 : Nat) : Int) by omega) (show 0 ≤ ww by omega); omega) (by have := Int.mul_le_mul (show ((m + 1 : Nat) : Int) ≤ 6 by omega) hwb (by omega) (by decide); omega)
      have hw2 : wrap64 (((m + 1 : Nat) : Int) * ww + wd2) = ((m + 1 : Nat) : Int) * ww + wd2 := wrap_small _ (by have := Int.mul_nonneg (show (0 : Int) ≤ ((m + 1 : Nat) : Int) by omega) (show 0 ≤ ww by omega); omega) (by have := Int.mul_le_mul (show ((m + 1 : Nat) : Int) ≤ 6 by omega) hwb (by omega) (by decide); omega)
      have hcs : ((m + 1 : Nat) : Int) = (m : Int) + 1 := by omega
      rw [hcs] at hw1 hw2
      clear hcs
      obtain ⟨pv3, W5, hr1, hT5⟩ := (HI2.out.1.keep HZ.out).app (((m + 1 : Nat) : Int) * ww + wd2) (by obtain ⟨f2, m1, _⟩ := HI2.out.2; have := congrArg List.length m1; have := HLEN.out; simp at *; omega)
      have HR1 := Lib.hid hr1
      have HF := Lib.hid hT5
      rw [show ((m + 1 : Nat) : Int) = (m : Int) + 1 by omega] at HR1
      clear hr1 hT5 HZ HD1 HT1
      go_wp2_with (at_builtin; refine Lib.wpList_append_run _ rfl (.tmp 48) (.tmp 54) 22 22 rfl _ _ rfl rfl _ _ HR1.out ?_)
      go_roundw
      case rel => 
        obtain ⟨f2, m1, m2⟩ := HI2.out.2
        exact ⟨pv3, f2, m + 1, wd2, P ++ [((m + 1 : Nat) : Int) * ww + wd2], rfl, by go_num, rfl, by omega, v0, v1, HF.out, by rw [List.append_assoc]; exact m1, m2⟩
      case measure => simp [intOf]; omega
end Go.Proofs.Ytbhkenphcahifaa
