import Derived.Test.YtbhkenphcahifaaQF
namespace Go.Proofs.Ytbhkenphcahifaa
open Go.RowKit Go.Shelf
attribute [local go_sem] Oper.semAt_some
set_option maxRecDepth 100000
set_option maxHeartbeats 4000000

theorem NewInts.fresh4 {B : Nat} {w : World} {v : Value} {l : List Int} (h : NewInts B w v l) : ∃ a cap, v = .slice a l.length cap ∧ Ints w a l ∧ ∀ b, a.map (·.block) = some b → B ≤ b := by
  obtain ⟨a, cap, rfl, hi⟩ := h.ints
  refine ⟨a, cap, rfl, hi, fun b hb => ?_⟩
  cases a with
  | none => cases hb
  | some ad =>
    have := h.own.lt ad.block rfl
    have e : ad.block = b := by simpa using hb
    omega
theorem get_getD {l : List Int} {j : Nat} (h : j < l.length) : l[j] = l.getD j 0 := by simp [List.getD, h]
/-- an append of one number, wherever that lies -/
theorem appG {w : World} {lo : Nat} {v : Value} {R : List Int} (h : NewInts lo w v R) {s : Int} {b : Nat} (hb : w.heap[b]? = some (.cells #[.int .i64 s] 3 (0, 0))) (hl : R.length ≤ 1000000) (hs : lo ≤ w.heap.size) :
    ∃ v' w2, (Builtin.append_ #[22, 22] 22 #[v, .slice (some ⟨b, 0, none⟩) 1 1]).run Try.prog w = .ok v' w2 ∧ NewInts lo w2 v' (R ++ [s]) ∧ Below lo w w2 := by
  obtain ⟨i0, hi, hz0, hz1, hz2⟩ := info_parts Try.info3
  obtain ⟨g, cap, w2, hr, hown, hg, hat, hlt⟩ := run_append_lies (P := Try.prog) w 22 22 lo 3 i0 (.int .i64 0) 1 8 Try.underlying22 hi hz0 hz1 hz2 rfl (by decide) v R.length (R.map (Value.int .i64)) h.own ⟨b, 0, none⟩ 1 1 [.int .i64 s] (by simp)
    (World.news_of_block (cs := #[.int .i64 s]) hb) (by intro u hu; simp at hu; subst hu; rfl) (by decide) (by unfold maxLen; omega) (by omega) hs _ rfl
  exact ⟨_, w2, hr, ⟨by simpa using hown, by simp; omega⟩, ⟨hg.os, hg.tape, hg.output, hg.size, fun k hk => hg.block k (by omega) (fun e => by have := (h.own.lt k e.symm).1; omega)⟩⟩
/-- the two lists, the path so far and its classes -/
structure DrS (B lo bl bc : Nat) (X : World) (cs : Obj) (L Cl : List Int) (pa : Option Addr) (cv : Value) (P C : List Int) (w : World) : Prop where
  np : P ≠ []
  rl : RowAt w bl L
  rc : RowAt w bc Cl
  pi : Ints w pa P
  pn : ∀ b, pa.map (·.block) = some b → cv.ownBlock ≠ some b
  cc : NewInts lo w cv C
  cl : cv.ownBlock ≠ some bl
  cd : cv.ownBlock ≠ some bc
  bl : Below B X w
  bx : w.heap[B]? = some cs
  sz : lo ≤ w.heap.size
  hB : B < lo
theorem DrS.keep {B lo bl bc : Nat} {X : World} {cs : Obj} {L Cl : List Int} {pa : Option Addr} {cv : Value} {P C : List Int} {w w' : World} (h : DrS B lo bl bc X cs L Cl pa cv P C w) (hb : Below w.heap.size w w') : DrS B lo bl bc X cs L Cl pa cv P C w' :=
  ⟨h.np, h.rl.keep hb, h.rc.keep hb, h.pi.keep hb, h.pn, h.cc.keep hb, h.cl, h.cd, h.bl.trans (hb.mono (by have := h.hB; have := h.sz; omega)), (hb.block _ (by have := h.hB; have := h.sz; omega)).trans h.bx, by have := hb.size; have := h.sz; omega, h.hB⟩
/-- a new path -/
theorem DrS.path {B lo bl bc : Nat} {X : World} {cs : Obj} {L Cl : List Int} {pa : Option Addr} {cv : Value} {P C : List Int} {w w' : World} (h : DrS B lo bl bc X cs L Cl pa cv P C w) (hb : Below w.heap.size w w') {v : Value} {P2 : List Int} (hv : NewInts w.heap.size w' v P2) (hp2 : P2 ≠ []) :
    ∃ pa2 pk2, v = .slice pa2 P2.length pk2 ∧ DrS B lo bl bc X cs L Cl pa2 cv P2 C w' := by
  obtain ⟨pa2, pk2, rfl, hi, hf⟩ := hv.fresh4
  have k := h.keep hb
  refine ⟨pa2, pk2, rfl, hp2, k.rl, k.rc, hi, fun b hb2 e => ?_, k.cc, k.cl, k.cd, k.bl, k.bx, k.sz, k.hB⟩
  have h1 := hf b hb2
  have h2 := (h.cc.own.lt b e).2
  omega
theorem DrS.cls {B lo bl bc : Nat} {X : World} {cs : Obj} {L Cl : List Int} {pa : Option Addr} {cv : Value} {P C : List Int} {w : World} (h : DrS B lo bl bc X cs L Cl pa cv P C w) (s : Int) (hl : C.length ≤ 1000000) :
    ∃ v' w2, (Builtin.append_ #[22, 22] 22 #[cv, .slice (some ⟨w.heap.size, 0, none⟩) 1 1]).run Try.prog (w.alloc (.cells #[.int .i64 s] 3)) = .ok v' w2 ∧ DrS B lo bl bc X cs L Cl pa v' P (C ++ [s]) w2 := by
  obtain ⟨g, cap, w2, hr, hn, hg, hat, hz⟩ := app_one h.cc s hl h.sz
  have hne : ∀ b, b < w.heap.size → cv.ownBlock ≠ some b → g ≠ b := fun b hb hne e => by
    rcases hat with e2 | e2
    · exact hne (e ▸ e2)
    · omega
  have hbl := h.rl.lt
  have hbc := h.rc.lt
  have hpi : Ints w2 pa P := ⟨h.pi.len, fun hp => by
    obtain ⟨b, off, ha, hc⟩ := h.pi.at_ hp
    refine ⟨b, off, ha, fun j hj => ?_⟩
    have hlt := block_lt_of_cell (hc j hj)
    have hnb : cv.ownBlock ≠ some b := h.pn b (by rw [ha]; rfl)
    exact (World.cell?_of_block (a := ⟨b, off + j, none⟩) (grown_far rfl hg hlt (fun e => hnb e.symm))).trans (hc j hj)⟩
  have hpl : ∀ b, pa.map (·.block) = some b → b < w.heap.size := fun b hb => by
    obtain ⟨b2, off, ha, hc⟩ := h.pi.at_ h.np
    rw [ha] at hb
    obtain rfl : b2 = b := by simpa using hb
    exact block_lt_of_cell (hc 0 (List.length_pos_iff.2 h.np))
  have hb0 : Below lo w w2 := ((Below.refl lo w).alloc h.sz _).trans ⟨hg.os, hg.tape, hg.output, hg.size, fun k hk => hg.block k (by have := h.sz; simp; omega) (fun e => by have := (h.cc.own.lt k e.symm).1; omega)⟩
  refine ⟨_, w2, hr, h.np, row_grown h.rl hg h.cl, row_grown h.rc hg h.cd, hpi, ?_, hn, ?_, ?_, h.bl.trans (hb0.mono (by have := h.hB; omega)), (hb0.block _ h.hB).trans h.bx, by have := h.sz; omega, h.hB⟩
  · intro b hb e
    have hgb : g = b := by simpa [Value.ownBlock] using e
    exact hne b (hpl b hb) (h.pn b hb) hgb
  · intro e; exact hne bl hbl h.cl (by simpa [Value.ownBlock] using e)
  · intro e; exact hne bc hbc h.cd (by simpa [Value.ownBlock] using e)

theorem rDrag_any {w : World} {g o : Nat} (a h : Int) (ha : 1 ≤ a) (ha2 : a ≤ 16) (hh : 1 ≤ h) (hh2 : h ≤ 4) (ht : Two w g o a h) (sc : Nat) (kind hosts x y : Int) (hx : 0 ≤ x) (hx2 : x < a * (a * h + 1)) (hy : 0 ≤ y) (hy2 : y < a * (a * h + 1)) :
    Calls Try.prog 55 #[.agg #[.int .i64 kind, .slice (some ⟨g, o, none⟩) 2 sc, .int .i64 hosts], .int .i64 x, .int .i64 y] w fun e w' => ∃ pa pk cv, e = .returned (.tuple #[.slice pa ((dragL a h x y).length + 1) pk, cv]) ∧ Ints w' pa (x :: (dragL a h x y).map (·.1)) ∧ NewInts w.heap.size w' cv ((dragL a h x y).map (·.2)) ∧ Below w.heap.size w w' := by
  obtain ⟨b1, b2, b3, b4⟩ : 1 ≤ a * h ∧ a * h ≤ 64 ∧ 1 ≤ a * (a * h + 1) ∧ a * (a * h + 1) ≤ 1040 := drag_bound ha ha2 hh hh2
  have hgx0 := Int.ediv_nonneg hx (show 0 ≤ a by omega)
  have hgy0 := Int.ediv_nonneg hy (show 0 ≤ a by omega)
  have hgx1 : x / a < a * h + 1 := Int.ediv_lt_of_lt_mul (by omega) (by rw [Int.mul_comm]; exact hx2)
  have hgy1 : y / a < a * h + 1 := Int.ediv_lt_of_lt_mul (by omega) (by rw [Int.mul_comm]; exact hy2)
  have E1 : wrap64 (x.tdiv a) = x / a := by rw [Int.tdiv_eq_ediv_of_nonneg hx]; unfold wrap64; omega
  have E2 : wrap64 (y.tdiv a) = y / a := by rw [Int.tdiv_eq_ediv_of_nonneg hy]; unfold wrap64; omega
  have hane : a ≠ 0 := by omega
  have HSK := Lib.hid (drag_skip (h := h) ha hh hx hx2 hy hy2)
  have HSS : Hid (x / a = y / a → dragL a h x y = skipL x [(y, 0)]) := fun e => by
    unfold dragL
    rw [if_neg (by simp [e]), skip_same]
  have HLN : Hid ((dragL a h x y).length ≤ 3) := dragL_len _ _ _ _
  have HG : Hid (∀ W, Below w.heap.size w W → Calls Try.prog 64 #[.agg #[.int .i64 kind, .slice (some ⟨g, o, none⟩) 2 sc, .int .i64 hosts]] W fun e w' => e = .returned (.int .i64 (a * h + 1)) ∧ Below W.heap.size W w') := fun W hb => rGroups_any a h ha ha2 hh hh2 (ht.keep hb) sc kind hosts
  have HPT : Hid (∀ W, Below w.heap.size w W → ∀ gr m : Int, 0 ≤ gr → gr ≤ 1000 → 0 ≤ m → m ≤ 1000 → Calls Try.prog 70 #[.agg #[.int .i64 kind, .slice (some ⟨g, o, none⟩) 2 sc, .int .i64 hosts], .int .i64 gr, .int .i64 m] W fun e w' => e = .returned (.int .i64 (gr * a + m / h)) ∧ Below W.heap.size W w') := fun W hb gr m h0 h1 h2 h3 => rPort_any a h ha ha2 hh hh2 (ht.keep hb) sc kind hosts gr m h0 h1 h2 h3
  have HB := Lib.hid ((Below.refl w.heap.size w).alloc (Nat.le_refl _) (.cells #[.int .i64 kind, .slice (some ⟨g, o, none⟩) 2 sc, .int .i64 hosts] 30))
  have Q0 := Lib.hid (heap_alloc_new w (.cells #[.int .i64 kind, .slice (some ⟨g, o, none⟩) 2 sc, .int .i64 hosts] 30))
  have hsX : (w.alloc (.cells #[.int .i64 kind, .slice (some ⟨g, o, none⟩) 2 sc, .int .i64 hosts] 30)).heap.size = w.heap.size + 1 := by simp
  have c1 := cellR 1 Q0.out rfl
  obtain ⟨e0, e1⟩ := ht.keep HB.out
  have HGR : Hid (0 ≤ x / a ∧ x / a ≤ 64 ∧ 0 ≤ y / a ∧ y / a ≤ 64 ∧ x / a < a * h + 1 ∧ y / a < a * h + 1 ∧ a * h + 1 ≤ 65) := ⟨hgx0, by omega, hgy0, by omega, hgx1, hgy1, by omega⟩
  generalize dragL a h x y = TL at *
  clear ht b1 b2 b3 b4 hgx0 hgy0 hgx1 hgy1 ha ha2 hh hh2 hx hx2 hy hy2
  go_enter Try.func55, Try.ntmps55
  go_wp2_with fail
  generalize w.alloc (.cells #[.int .i64 kind, .slice (some ⟨g, o, none⟩) 2 sc, .int .i64 hosts] 30) = X at *
  go_quiet (fail)
  rw [E1, E2]
  generalize x / a = gx at *
  generalize y / a = gy at *
  have HB2 : Hid (Below w.heap.size w (X.drewN nq)) := below_drewN HB.out _
  have Q2 : Hid ((X.drewN nq).heap[w.heap.size]? = some (.cells #[.int .i64 kind, .slice (some ⟨g, o, none⟩) 2 sc, .int .i64 hosts] 30 (0, 0))) := Q0.out
  have hs2 : (X.drewN nq).heap.size = w.heap.size + 1 := hsX
  generalize X.drewN nq = w1 at *
  clear HB Q0 c1 e0 e1 E1 E2 hane
  have HY0 : Hid (Below w.heap.size w ((w1.alloc (.cells #[.int .i64 x, .int .i64 y] 3)).alloc (.cells #[.int .i64 0, .int .i64 0] 3)) ∧ ((w1.alloc (.cells #[.int .i64 x, .int .i64 y] 3)).alloc (.cells #[.int .i64 0, .int .i64 0] 3)).heap[w.heap.size]? = some (.cells #[.int .i64 kind, .slice (some ⟨g, o, none⟩) 2 sc, .int .i64 hosts] 30 (0, 0)) ∧ RowAt ((w1.alloc (.cells #[.int .i64 x, .int .i64 y] 3)).alloc (.cells #[.int .i64 0, .int .i64 0] 3)) w1.heap.size [x, y] ∧ RowAt ((w1.alloc (.cells #[.int .i64 x, .int .i64 y] 3)).alloc (.cells #[.int .i64 0, .int .i64 0] 3)) (w1.heap.size + 1) [0, 0] ∧ w.heap.size + 1 ≤ w1.heap.size) := by
    obtain ⟨hbx, q0, q1, hz⟩ := twoN w1 (.cells #[.int .i64 x, .int .i64 y] 3) (.cells #[.int .i64 0, .int .i64 0] 3)
    refine ⟨HB2.out.trans (hbx.mono (by omega)), (hbx.block _ (by omega)).trans Q2.out, ?_, ?_, by omega⟩
    · unfold RowAt; rw [rowA2]; exact q0
    · unfold RowAt; rw [rowA2]; exact q1
  clear HB2 Q2 hs2 hsX
  by_cases hgg : gx = gy
  · have hne : (gx != gy) = false := by simp [hgg]
    have hTL := HSS.out hgg
    clear HSK HSS HG HPT HGR hgg
    go_wp2_with fail
    clear hne
    generalize (w1.alloc (.cells #[.int .i64 x, .int .i64 y] 3)).alloc (.cells #[.int .i64 0, .int .i64 0] 3) = Y at *
    obtain ⟨S, hS⟩ : ∃ S : List (Int × Int), S = [(y, 0)] := ⟨_, rfl⟩
    have HS1 : Hid (S.length + 1 = 2 ∧ RowAt Y w1.heap.size (x :: S.map (·.1)) ∧ RowAt Y (w1.heap.size + 1) (0 :: S.map (·.2)) ∧ TL = skipL x S) := by
      refine ⟨by rw [hS]; rfl, ?_, ?_, by rw [hS]; exact hTL⟩
      · rw [hS]; exact HY0.out.2.2.1
      · rw [hS]; exact HY0.out.2.2.2.1
    clear hS
    have HD0 : Hid (DrS w.heap.size (w.heap.size + 1) w1.heap.size (w1.heap.size + 1) w (.cells #[.int .i64 kind, .slice (some ⟨g, o, none⟩) 2 sc, .int .i64 hosts] 30 (0, 0)) (x :: S.map (·.1)) (0 :: S.map (·.2)) (some ⟨w1.heap.size, 0, none⟩) (.slice none 0 0) [x] [] Y) := by
      refine ⟨by simp, HS1.out.2.1, HS1.out.2.2.1, ⟨by simp, fun _ => ⟨_, 0, rfl, fun j hj => ?_⟩⟩, (fun b _ h => by cases h), ⟨World.ownsRow_nil _ _ _ _, by simp⟩, (fun h => by cases h), (fun h => by cases h), HY0.out.1, HY0.out.2.1, ?_, Nat.lt_succ_self _⟩
      · have hj0 : j = 0 := by simp at hj; omega
        subst hj0
        exact HS1.out.2.1.cell 0 (by simp)
      · have s1 := HS1.out.2.1.lt; have s2 := HY0.out.2.2.2.2; omega
    obtain ⟨blv, hblv⟩ : ∃ b, b = w1.heap.size := ⟨_, rfl⟩
    obtain ⟨bcv, hbcv⟩ : ∃ b, b = (w1.heap.size + 1) := ⟨_, rfl⟩
    rw [← hbcv, ← hblv] at HD0
    rw [← hbcv, ← hblv]
    clear HY0 hblv hbcv
    have HSN : Hid (S.length + 1 = 2 ∧ TL = skipL x S) := ⟨HS1.out.1, HS1.out.2.2.2⟩
    clear HS1
    go_loopw [13, 14, 15] (fun av bv kv wr => ∃ (pa : Option Addr) (pn pk : Nat) (cv : Value) (j : Nat) (P C : List Int), .slice pa pn pk = av ∧ cv = bv ∧ kv = .int .i64 ((j + 1 : Nat) : Int) ∧ j + 1 ≤ 2 ∧ Hid (DrS w.heap.size (w.heap.size + 1) blv bcv w (.cells #[.int .i64 kind, .slice (some ⟨g, o, none⟩) 2 sc, .int .i64 hosts] 30 (0, 0)) (x :: S.map (·.1)) (0 :: S.map (·.2)) pa cv P C wr ∧ pn = P.length ∧ P ++ (skipL ((x :: S.map (·.1)).getD j 0) (S.drop j)).map (·.1) = x :: TL.map (·.1) ∧ C ++ (skipL ((x :: S.map (·.1)).getD j 0) (S.drop j)).map (·.2) = TL.map (·.2))) (fun _ _ kv _ => 2 - (intOf kv).toNat)
    case atStart => exact ⟨_, 1, _, _, 0, [x], [], rfl, rfl, rfl, by omega, HD0.out, rfl, by rw [HSN.out.2]; rfl, by rw [HSN.out.2]; rfl⟩
    case round =>
      clear HD0
      obtain ⟨pa, pn, pk, cv, j, P, C, rfl, rfl, rfl, hj, HI⟩ := hrel
      by_cases hlt : j + 1 < 2
      · have hjs : j < S.length := by have := HSN.out.1; omega
        have q1 := HI.out.1.rl.cell (j + 1) (by simp; omega)
        have q0 := HI.out.1.rl.cell j (by simp; omega)
        rw [get_getD] at q0
        have q2 := HI.out.1.rc.cell (j + 1) (by simp; omega)
        simp only [List.getElem_cons_succ, List.getElem_map] at q1 q2
        have HK : Hid ((x :: S.map (·.1)).getD (j + 1) 0 = S[j].1 ∧ S.drop j = (S[j].1, S[j].2) :: S.drop (j + 1)) := ⟨by simp [List.getD, hjs], List.drop_eq_getElem_cons hjs⟩
        have HPV : Hid (∃ p, p = (x :: S.map (·.1)).getD j 0) := ⟨_, rfl⟩
        obtain ⟨pv, hpv⟩ := HPV.out
        rw [← hpv] at q0 HI
        clear HPV hpv
        generalize S[j].1 = v at *
        generalize S[j].2 = cl at *
        have hji : ((j + 1 : Nat) : Int) - 1 = (j : Int) := by omega
        have hbd1 : ((j : Int) + 1 < 0) = False := by simp; omega
        have hbd2 : ((2 : Int) ≤ (j : Int) + 1) = False := by simp; omega
        have hbd3 : (((j + 1 : Nat) : Int) < 0) = False := by simp; omega
        have hbd4 : ((2 : Int) ≤ ((j + 1 : Nat) : Int)) = False := by simp; omega
        have hbd5 : ((j : Int) < 0) = False := by simp
        have hbd6 : ((2 : Int) ≤ (j : Int)) = False := by simp; omega
        have ESJ : Hid (∀ W, (binOp .sub 3 (.int .i64 ((j : Int) + 1)) (.int .i64 1)).run Try.prog W = .ok (.int .i64 (j : Int)) W) := fun W => by
          have := i64_sub ((j : Int) + 1) 1 (by omega) (by omega) W
          rwa [show (j : Int) + 1 - 1 = (j : Int) by omega] at this
        obtain ⟨wo, rfl⟩ : ∃ wo, wo = wr := ⟨_, rfl⟩
        by_cases hvp : v = pv
        · have hq : (v != pv) = false := by simp [hvp]
          go_wp2_with fail
          refine (wpIn_wide (n := 0)).1 ?_
          refine region_det (by kernel_rfl) (I := fun listed a' w' => Hid (Below wo.heap.size wo w') ∧ a' = ⟨#[Value.agg #[Value.int IntKind.i64 kind, Value.slice (some (⟨g, o, none⟩)) 2 sc, Value.int IntKind.i64 hosts], Value.int IntKind.i64 x, Value.int IntKind.i64 y, Value.pointer (some (⟨w.heap.size, 0, none⟩)), undef, undef, Value.slice none 0 0, Value.slice none 0 0, Value.int IntKind.i64 gx, Value.int IntKind.i64 gy, Value.slice (some (⟨blv, 0, none⟩)) 2 2, Value.slice (some (⟨bcv, 0, none⟩)) 2 2, undef, Value.slice pa pn pk, cv, Value.int IntKind.i64 ((j : Int) + 1), Value.int IntKind.i64 x, Value.pointer (some (⟨w.heap.size, 1, none⟩)), Value.slice (some (⟨g, o, none⟩)) 2 sc, Value.pointer (some (⟨g, o, none⟩)), Value.int IntKind.i64 a, Value.int IntKind.i64 gx, Value.int IntKind.i64 y, Value.pointer (some (⟨w.heap.size, 1, none⟩)), Value.slice (some (⟨g, o, none⟩)) 2 sc, Value.pointer (some (⟨g, o, none⟩)), Value.int IntKind.i64 a, Value.int IntKind.i64 gy, Value.int IntKind.i64 x, Value.int IntKind.i64 y, Value.slice (some (⟨blv, 0, none⟩)) 2 2, Value.slice (some (⟨bcv, 0, none⟩)) 2 2, Value.int IntKind.i64 gx, Value.int IntKind.i64 gy, Value.bool false, undef, undef, undef, undef, undef, undef, undef, undef, undef, undef, undef, undef, undef, undef, undef, undef, undef, undef, undef, undef, undef, undef, undef, undef, undef, undef, Value.slice (some (⟨blv, 0, none⟩)) 2 2, Value.slice (some (⟨blv, 0, none⟩)) 1 2, Value.int IntKind.i64 ((j : Int) + 1), Value.slice (some (⟨blv, 0, none⟩)) 2 2, Value.int IntKind.i64 2, Value.bool true, u67, u68, (if listed.getD 0 false = true then Value.slice (some (⟨blv, 0, none⟩)) 2 2 else u69), (if listed.getD 1 false = true then Value.int IntKind.i64 ((j : Int) + 1) else u70), (if listed.getD 2 false = true then Value.pointer (some ⟨blv, (j + 1), none⟩) else u71), (if listed.getD 3 false = true then Value.int IntKind.i64 (v) else u72), (if listed.getD 4 false = true then Value.slice (some (⟨blv, 0, none⟩)) 2 2 else u73), (if listed.getD 5 false = true then Value.int IntKind.i64 ((j : Int) + 1) else u74), (if listed.getD 6 false = true then Value.int IntKind.i64 ((j : Int)) else u75), (if listed.getD 7 false = true then Value.pointer (some ⟨blv, j, none⟩) else u76), (if listed.getD 8 false = true then Value.int IntKind.i64 (pv) else u77), (if listed.getD 9 false = true then Value.bool false else u78), u79, u80, u81, u82, u83, u84, u85, u86, u87, u88, u89, u90, u91, u92, u93, u94, u95, u96, undef, undef], []⟩) (hup_check (by kernel_rfl)) ?h0 ?step ?fin
          case h0 => exact ⟨(Below.refl _ _).drew, rfl⟩
          case step =>
            intro listed a' w' i hs hbi hdep hi ⟨IB, ha⟩
            obtain ⟨ls⟩ := listed
            match ls, hs with
            | [x0, x1, x2, x3, x4, x5, x6, x7, x8, x9], _ =>
            subst ha
            have hi' : i = 0 ∨ i = 1 ∨ i = 2 ∨ i = 3 ∨ i = 4 ∨ i = 5 ∨ i = 6 ∨ i = 7 ∨ i = 8 ∨ i = 9 := by simp at hi; omega
            rcases hi' with rfl | rfl | rfl | rfl | rfl | rfl | rfl | rfl | rfl | rfl
            · obtain rfl : x0 = false := by simpa using hbi
              refine wpOpIn_plain rfl rfl rfl ?_
              exact ⟨IB, rfl⟩
            · obtain rfl : x1 = false := by simpa using hbi
              refine wpOpIn_plain rfl rfl rfl ?_
              exact ⟨IB, rfl⟩
            · obtain rfl : x2 = false := by simpa using hbi
              obtain rfl : x0 = true := hdep _ rfl ⟨0, .data⟩ (by simp) rfl
              obtain rfl : x1 = true := hdep _ rfl ⟨1, .data⟩ (by simp) rfl
              refine wpOpIn_plain (v := Value.pointer (some ⟨blv, (j + 1), none⟩)) (w' := w') rfl rfl (by simp [Oper.semAt, execOp, go_sem, hbd1, hbd2, hbd3, hbd4]) ?_
              exact ⟨IB, rfl⟩
            · obtain rfl : x3 = false := by simpa using hbi
              obtain rfl : x2 = true := hdep _ rfl ⟨2, .data⟩ (by simp) rfl
              have c9 := kcell IB.out q1
              refine wpOpIn_plain (v := Value.int IntKind.i64 (v)) (w' := w') rfl rfl (by simp [Oper.semAt, execOp, go_sem, c9]) ?_
              exact ⟨IB, rfl⟩
            · obtain rfl : x4 = false := by simpa using hbi
              refine wpOpIn_plain rfl rfl rfl ?_
              exact ⟨IB, rfl⟩
            · obtain rfl : x5 = false := by simpa using hbi
              refine wpOpIn_plain rfl rfl rfl ?_
              exact ⟨IB, rfl⟩
            · obtain rfl : x6 = false := by simpa using hbi
              obtain rfl : x5 = true := hdep _ rfl ⟨5, .data⟩ (by simp) rfl
              refine wpOpIn_plain (v := Value.int IntKind.i64 ((j : Int))) (w' := w') rfl rfl (sem_bin (vx := Value.int IntKind.i64 ((j : Int) + 1)) (vy := Value.int IntKind.i64 (1)) rfl rfl rfl rfl (ESJ.out w')) ?_
              exact ⟨IB, rfl⟩
            · obtain rfl : x7 = false := by simpa using hbi
              obtain rfl : x4 = true := hdep _ rfl ⟨4, .data⟩ (by simp) rfl
              obtain rfl : x6 = true := hdep _ rfl ⟨6, .data⟩ (by simp) rfl
              refine wpOpIn_plain (v := Value.pointer (some ⟨blv, j, none⟩)) (w' := w') rfl rfl (by simp [Oper.semAt, execOp, go_sem, hbd5, hbd6]) ?_
              exact ⟨IB, rfl⟩
            · obtain rfl : x8 = false := by simpa using hbi
              obtain rfl : x7 = true := hdep _ rfl ⟨7, .data⟩ (by simp) rfl
              have c9 := kcell IB.out q0
              refine wpOpIn_plain (v := Value.int IntKind.i64 (pv)) (w' := w') rfl rfl (by simp [Oper.semAt, execOp, go_sem, c9]) ?_
              exact ⟨IB, rfl⟩
            · obtain rfl : x9 = false := by simpa using hbi
              obtain rfl : x3 = true := hdep _ rfl ⟨3, .data⟩ (by simp) rfl
              obtain rfl : x8 = true := hdep _ rfl ⟨8, .data⟩ (by simp) rfl
              refine wpOpIn_plain (v := Value.bool false) (w' := w') rfl rfl (by simp [Oper.semAt, execOp, go_sem, hq]) ?_
              exact ⟨IB, rfl⟩
          case fin =>
          intro listed a' w5 hs hall ⟨IB, ha⟩
          obtain ⟨ls⟩ := listed
          match ls, hs with
          | [x0, x1, x2, x3, x4, x5, x6, x7, x8, x9], _ =>
          obtain rfl : x0 = true := hall 0 (by simp)
          obtain rfl : x1 = true := hall 1 (by simp)
          obtain rfl : x2 = true := hall 2 (by simp)
          obtain rfl : x3 = true := hall 3 (by simp)
          obtain rfl : x4 = true := hall 4 (by simp)
          obtain rfl : x5 = true := hall 5 (by simp)
          obtain rfl : x6 = true := hall 6 (by simp)
          obtain rfl : x7 = true := hall 7 (by simp)
          obtain rfl : x8 = true := hall 8 (by simp)
          obtain rfl : x9 = true := hall 9 (by simp)
          subst ha
          have HZ5 : Hid (Below wo.heap.size wo w5) := IB
          clear IB hall hs
          dsimp only [Exit.then, Exit.inBlock]
          have HN : Hid (DrS w.heap.size (w.heap.size + 1) blv bcv w (.cells #[.int .i64 kind, .slice (some ⟨g, o, none⟩) 2 sc, .int .i64 hosts] 30 (0, 0)) (x :: S.map (·.1)) (0 :: S.map (·.2)) pa cv P C w5 ∧ pn = P.length ∧ P ++ (skipL ((x :: S.map (·.1)).getD (j + 1) 0) (S.drop (j + 1))).map (·.1) = x :: TL.map (·.1) ∧ C ++ (skipL ((x :: S.map (·.1)).getD (j + 1) 0) (S.drop (j + 1))).map (·.2) = TL.map (·.2)) := by
            obtain ⟨h1, h2, h3, h4⟩ := HI.out
            rw [HK.out.2, skipL, if_neg (by simp [hvp])] at h3 h4
            rw [HK.out.1]
            exact ⟨h1.keep HZ5.out, h2, h3, h4⟩
          clear HI HK q0 q1 q2 hji
          go_wp2_with fail
          clear hq hvp
          go_roundw
          case rel => exact ⟨pa, pn, pk, cv, j + 1, P, C, rfl, rfl, by go_num, by omega, HN⟩
          case measure => simp [intOf]; omega
        · have hq : (v != pv) = true := by simp [hvp]
          go_wp2_with fail
          refine (wpIn_wide (n := 0)).1 ?_
          refine region_det (by kernel_rfl) (I := fun listed a' w' => Hid (Below wo.heap.size wo w') ∧ a' = ⟨#[Value.agg #[Value.int IntKind.i64 kind, Value.slice (some (⟨g, o, none⟩)) 2 sc, Value.int IntKind.i64 hosts], Value.int IntKind.i64 x, Value.int IntKind.i64 y, Value.pointer (some (⟨w.heap.size, 0, none⟩)), undef, undef, Value.slice none 0 0, Value.slice none 0 0, Value.int IntKind.i64 gx, Value.int IntKind.i64 gy, Value.slice (some (⟨blv, 0, none⟩)) 2 2, Value.slice (some (⟨bcv, 0, none⟩)) 2 2, undef, Value.slice pa pn pk, cv, Value.int IntKind.i64 ((j : Int) + 1), Value.int IntKind.i64 x, Value.pointer (some (⟨w.heap.size, 1, none⟩)), Value.slice (some (⟨g, o, none⟩)) 2 sc, Value.pointer (some (⟨g, o, none⟩)), Value.int IntKind.i64 a, Value.int IntKind.i64 gx, Value.int IntKind.i64 y, Value.pointer (some (⟨w.heap.size, 1, none⟩)), Value.slice (some (⟨g, o, none⟩)) 2 sc, Value.pointer (some (⟨g, o, none⟩)), Value.int IntKind.i64 a, Value.int IntKind.i64 gy, Value.int IntKind.i64 x, Value.int IntKind.i64 y, Value.slice (some (⟨blv, 0, none⟩)) 2 2, Value.slice (some (⟨bcv, 0, none⟩)) 2 2, Value.int IntKind.i64 gx, Value.int IntKind.i64 gy, Value.bool false, undef, undef, undef, undef, undef, undef, undef, undef, undef, undef, undef, undef, undef, undef, undef, undef, undef, undef, undef, undef, undef, undef, undef, undef, undef, undef, Value.slice (some (⟨blv, 0, none⟩)) 2 2, Value.slice (some (⟨blv, 0, none⟩)) 1 2, Value.int IntKind.i64 ((j : Int) + 1), Value.slice (some (⟨blv, 0, none⟩)) 2 2, Value.int IntKind.i64 2, Value.bool true, u67, u68, (if listed.getD 0 false = true then Value.slice (some (⟨blv, 0, none⟩)) 2 2 else u69), (if listed.getD 1 false = true then Value.int IntKind.i64 ((j : Int) + 1) else u70), (if listed.getD 2 false = true then Value.pointer (some ⟨blv, (j + 1), none⟩) else u71), (if listed.getD 3 false = true then Value.int IntKind.i64 (v) else u72), (if listed.getD 4 false = true then Value.slice (some (⟨blv, 0, none⟩)) 2 2 else u73), (if listed.getD 5 false = true then Value.int IntKind.i64 ((j : Int) + 1) else u74), (if listed.getD 6 false = true then Value.int IntKind.i64 ((j : Int)) else u75), (if listed.getD 7 false = true then Value.pointer (some ⟨blv, j, none⟩) else u76), (if listed.getD 8 false = true then Value.int IntKind.i64 (pv) else u77), (if listed.getD 9 false = true then Value.bool true else u78), u79, u80, u81, u82, u83, u84, u85, u86, u87, u88, u89, u90, u91, u92, u93, u94, u95, u96, undef, undef], []⟩) (hup_check (by kernel_rfl)) ?h0 ?step ?fin
          case h0 => exact ⟨(Below.refl _ _).drew, rfl⟩
          case step =>
            intro listed a' w' i hs hbi hdep hi ⟨IB, ha⟩
            obtain ⟨ls⟩ := listed
            match ls, hs with
            | [x0, x1, x2, x3, x4, x5, x6, x7, x8, x9], _ =>
            subst ha
            have hi' : i = 0 ∨ i = 1 ∨ i = 2 ∨ i = 3 ∨ i = 4 ∨ i = 5 ∨ i = 6 ∨ i = 7 ∨ i = 8 ∨ i = 9 := by simp at hi; omega
            rcases hi' with rfl | rfl | rfl | rfl | rfl | rfl | rfl | rfl | rfl | rfl
            · obtain rfl : x0 = false := by simpa using hbi
              refine wpOpIn_plain rfl rfl rfl ?_
              exact ⟨IB, rfl⟩
            · obtain rfl : x1 = false := by simpa using hbi
              refine wpOpIn_plain rfl rfl rfl ?_
              exact ⟨IB, rfl⟩
            · obtain rfl : x2 = false := by simpa using hbi
              obtain rfl : x0 = true := hdep _ rfl ⟨0, .data⟩ (by simp) rfl
              obtain rfl : x1 = true := hdep _ rfl ⟨1, .data⟩ (by simp) rfl
              refine wpOpIn_plain (v := Value.pointer (some ⟨blv, (j + 1), none⟩)) (w' := w') rfl rfl (by simp [Oper.semAt, execOp, go_sem, hbd1, hbd2, hbd3, hbd4]) ?_
              exact ⟨IB, rfl⟩
            · obtain rfl : x3 = false := by simpa using hbi
              obtain rfl : x2 = true := hdep _ rfl ⟨2, .data⟩ (by simp) rfl
              have c9 := kcell IB.out q1
              refine wpOpIn_plain (v := Value.int IntKind.i64 (v)) (w' := w') rfl rfl (by simp [Oper.semAt, execOp, go_sem, c9]) ?_
              exact ⟨IB, rfl⟩
            · obtain rfl : x4 = false := by simpa using hbi
              refine wpOpIn_plain rfl rfl rfl ?_
              exact ⟨IB, rfl⟩
            · obtain rfl : x5 = false := by simpa using hbi
              refine wpOpIn_plain rfl rfl rfl ?_
              exact ⟨IB, rfl⟩
            · obtain rfl : x6 = false := by simpa using hbi
              obtain rfl : x5 = true := hdep _ rfl ⟨5, .data⟩ (by simp) rfl
              refine wpOpIn_plain (v := Value.int IntKind.i64 ((j : Int))) (w' := w') rfl rfl (sem_bin (vx := Value.int IntKind.i64 ((j : Int) + 1)) (vy := Value.int IntKind.i64 (1)) rfl rfl rfl rfl (ESJ.out w')) ?_
              exact ⟨IB, rfl⟩
            · obtain rfl : x7 = false := by simpa using hbi
              obtain rfl : x4 = true := hdep _ rfl ⟨4, .data⟩ (by simp) rfl
              obtain rfl : x6 = true := hdep _ rfl ⟨6, .data⟩ (by simp) rfl
              refine wpOpIn_plain (v := Value.pointer (some ⟨blv, j, none⟩)) (w' := w') rfl rfl (by simp [Oper.semAt, execOp, go_sem, hbd5, hbd6]) ?_
              exact ⟨IB, rfl⟩
            · obtain rfl : x8 = false := by simpa using hbi
              obtain rfl : x7 = true := hdep _ rfl ⟨7, .data⟩ (by simp) rfl
              have c9 := kcell IB.out q0
              refine wpOpIn_plain (v := Value.int IntKind.i64 (pv)) (w' := w') rfl rfl (by simp [Oper.semAt, execOp, go_sem, c9]) ?_
              exact ⟨IB, rfl⟩
            · obtain rfl : x9 = false := by simpa using hbi
              obtain rfl : x3 = true := hdep _ rfl ⟨3, .data⟩ (by simp) rfl
              obtain rfl : x8 = true := hdep _ rfl ⟨8, .data⟩ (by simp) rfl
              refine wpOpIn_plain (v := Value.bool true) (w' := w') rfl rfl (by simp [Oper.semAt, execOp, go_sem, hq]) ?_
              exact ⟨IB, rfl⟩
          case fin =>
          intro listed a' w5 hs hall ⟨IB, ha⟩
          obtain ⟨ls⟩ := listed
          match ls, hs with
          | [x0, x1, x2, x3, x4, x5, x6, x7, x8, x9], _ =>
          obtain rfl : x0 = true := hall 0 (by simp)
          obtain rfl : x1 = true := hall 1 (by simp)
          obtain rfl : x2 = true := hall 2 (by simp)
          obtain rfl : x3 = true := hall 3 (by simp)
          obtain rfl : x4 = true := hall 4 (by simp)
          obtain rfl : x5 = true := hall 5 (by simp)
          obtain rfl : x6 = true := hall 6 (by simp)
          obtain rfl : x7 = true := hall 7 (by simp)
          obtain rfl : x8 = true := hall 8 (by simp)
          obtain rfl : x9 = true := hall 9 (by simp)
          subst ha
          have HZ5 : Hid (Below wo.heap.size wo w5) := IB
          clear IB hall hs
          dsimp only [Exit.then, Exit.inBlock]
          have HN : Hid (DrS w.heap.size (w.heap.size + 1) blv bcv w (.cells #[.int .i64 kind, .slice (some ⟨g, o, none⟩) 2 sc, .int .i64 hosts] 30 (0, 0)) (x :: S.map (·.1)) (0 :: S.map (·.2)) pa cv P C w5 ∧ pn = P.length ∧ P ++ v :: (skipL ((x :: S.map (·.1)).getD (j + 1) 0) (S.drop (j + 1))).map (·.1) = x :: TL.map (·.1) ∧ C ++ cl :: (skipL ((x :: S.map (·.1)).getD (j + 1) 0) (S.drop (j + 1))).map (·.2) = TL.map (·.2)) := by
            obtain ⟨h1, h2, h3, h4⟩ := HI.out
            rw [HK.out.2, skipL, if_pos hvp] at h3 h4
            rw [HK.out.1]
            exact ⟨h1.keep HZ5.out, h2, h3, h4⟩
          have Q1 : Hid (w5.cell? ⟨blv, j + 1, none⟩ = some (.int .i64 v) ∧ w5.cell? ⟨bcv, j + 1, none⟩ = some (.int .i64 cl)) := ⟨kcell HZ5.out q1, kcell HZ5.out q2⟩
          clear HI HK q0 q1 q2 hji
          go_wp2_with fail
          clear hq hvp
          have HPL : Hid (P.length ≤ 100) := by
            have h3 := congrArg List.length HN.out.2.2.1
            have h4 := HLN.out
            simp at h3
            show _ ≤ _
            omega
          refine (wpIn_wide (n := 0)).1 ?_
          refine region_det (by kernel_rfl) (I := fun listed a' w' => ∃ (b0 b1 : Nat) (v82 : Value) (b87 : Nat) (v88 v89 : Value), Hid (Below w5.heap.size w5 w') ∧ Hid (listed.getD 3 false = true → listed.getD 9 false = false → NewInts w5.heap.size w' v82 P) ∧ Hid (listed.getD 8 false = true → listed.getD 9 false = false → w'.heap[b87]? = some (.cells #[.int .i64 v] 3 (0, 0))) ∧ Hid (listed.getD 9 false = true → listed.getD 10 false = false → NewInts w5.heap.size w' v88 (P ++ [v])) ∧ Hid (listed.getD 10 false = true → NewInts w5.heap.size w' v89 (P ++ [v])) ∧ Hid (listed.getD 3 false = true → listed.getD 2 false = true) ∧ Hid (listed.getD 9 false = true → listed.getD 3 false = true) ∧ Hid (listed.getD 10 false = true → listed.getD 9 false = true) ∧ Hid (listed.getD 11 false = true → listed.getD 10 false = true) ∧ a' = ⟨#[Value.agg #[Value.int IntKind.i64 kind, Value.slice (some (⟨g, o, none⟩)) 2 sc, Value.int IntKind.i64 hosts], Value.int IntKind.i64 x, Value.int IntKind.i64 y, Value.pointer (some (⟨w.heap.size, 0, none⟩)), undef, undef, Value.slice none 0 0, Value.slice none 0 0, Value.int IntKind.i64 gx, Value.int IntKind.i64 gy, Value.slice (some (⟨blv, 0, none⟩)) 2 2, Value.slice (some (⟨bcv, 0, none⟩)) 2 2, undef, (if listed.getD 11 false = true then v89 else Value.slice pa pn pk), cv, Value.int IntKind.i64 ((j : Int) + 1), Value.int IntKind.i64 x, Value.pointer (some (⟨w.heap.size, 1, none⟩)), Value.slice (some (⟨g, o, none⟩)) 2 sc, Value.pointer (some (⟨g, o, none⟩)), Value.int IntKind.i64 a, Value.int IntKind.i64 gx, Value.int IntKind.i64 y, Value.pointer (some (⟨w.heap.size, 1, none⟩)), Value.slice (some (⟨g, o, none⟩)) 2 sc, Value.pointer (some (⟨g, o, none⟩)), Value.int IntKind.i64 a, Value.int IntKind.i64 gy, Value.int IntKind.i64 x, Value.int IntKind.i64 y, Value.slice (some (⟨blv, 0, none⟩)) 2 2, Value.slice (some (⟨bcv, 0, none⟩)) 2 2, Value.int IntKind.i64 gx, Value.int IntKind.i64 gy, Value.bool false, undef, undef, undef, undef, undef, undef, undef, undef, undef, undef, undef, undef, undef, undef, undef, undef, undef, undef, undef, undef, undef, undef, undef, undef, undef, undef, Value.slice (some (⟨blv, 0, none⟩)) 2 2, Value.slice (some (⟨blv, 0, none⟩)) 1 2, Value.int IntKind.i64 ((j : Int) + 1), Value.slice (some (⟨blv, 0, none⟩)) 2 2, Value.int IntKind.i64 2, Value.bool true, u67, u68, Value.slice (some (⟨blv, 0, none⟩)) 2 2, Value.int IntKind.i64 ((j : Int) + 1), Value.pointer (some ⟨blv, (j + 1), none⟩), Value.int IntKind.i64 (v), Value.slice (some (⟨blv, 0, none⟩)) 2 2, Value.int IntKind.i64 ((j : Int) + 1), Value.int IntKind.i64 ((j : Int)), Value.pointer (some ⟨blv, j, none⟩), Value.int IntKind.i64 (pv), Value.bool true, (if listed.getD 0 false = true then Value.slice (some ⟨b0, 0, none⟩) 0 0 else u79), (if listed.getD 1 false = true then Value.slice (some ⟨b1, 0, none⟩) 0 0 else u80), (if listed.getD 2 false = true then Value.slice pa pn pk else u81), (if listed.getD 3 false = true then v82 else u82), (if listed.getD 4 false = true then Value.slice (some (⟨blv, 0, none⟩)) 2 2 else u83), (if listed.getD 5 false = true then Value.int IntKind.i64 ((j : Int) + 1) else u84), (if listed.getD 6 false = true then Value.pointer (some ⟨blv, (j + 1), none⟩) else u85), (if listed.getD 7 false = true then Value.int IntKind.i64 (v) else u86), (if listed.getD 8 false = true then Value.slice (some ⟨b87, 0, none⟩) 1 1 else u87), (if listed.getD 9 false = true then v88 else u88), (if listed.getD 10 false = true then v89 else u89), u90, u91, u92, u93, u94, u95, u96, undef, undef], []⟩) (hup_check (by kernel_rfl)) ?h0 ?step ?fin
          case h0 => exact ⟨0, 0, .slice none 0 0, 0, .slice none 0 0, .slice none 0 0, (Below.refl _ _).drew, (fun h => by simp at h), (fun h => by simp at h), (fun h => by simp at h), (fun h => by simp at h), (fun h => by simp at h), (fun h => by simp at h), (fun h => by simp at h), (fun h => by simp at h), rfl⟩
          case step =>
            intro listed a' w' i hs hbi hdep hi ⟨b0, b1, v82, b87, v88, v89, IB, A2, A8, A9, A10, J3, J9, J10, J11, ha⟩
            obtain ⟨ls⟩ := listed
            match ls, hs with
            | [x0, x1, x2, x3, x4, x5, x6, x7, x8, x9, x10, x11], _ =>
            subst ha
            have hi' : i = 0 ∨ i = 1 ∨ i = 2 ∨ i = 3 ∨ i = 4 ∨ i = 5 ∨ i = 6 ∨ i = 7 ∨ i = 8 ∨ i = 9 ∨ i = 10 ∨ i = 11 := by simp at hi; omega
            rcases hi' with rfl | rfl | rfl | rfl | rfl | rfl | rfl | rfl | rfl | rfl | rfl | rfl
            · obtain rfl : x0 = false := by simpa using hbi
              have hb : Below w'.heap.size w' (w'.alloc (.cells #[] 3)) := (Below.refl _ _).alloc (Nat.le_refl _) _
              refine wpOpIn_plain (v := Value.slice (some ⟨w'.heap.size, 0, none⟩) 0 0) (w' := w'.alloc (.cells #[] 3)) rfl rfl (by simp [Oper.semAt, execOp, go_sem]) ?_
              exact ⟨w'.heap.size, b1, v82, b87, v88, v89, (IB.out.trans (hb.mono IB.out.size)), (fun h h2 => (A2.out h h2).keep hb), (fun h h2 => (hb.block _ ((Array.getElem?_eq_some_iff.1 (A8.out h h2)).1)).trans (A8.out h h2)), (fun h h2 => (A9.out h h2).keep hb), (fun h => (A10.out h).keep hb), J3, J9, J10, J11, rfl⟩
            · obtain rfl : x1 = false := by simpa using hbi
              have hb : Below w'.heap.size w' (w'.alloc (.cells #[] 3)) := (Below.refl _ _).alloc (Nat.le_refl _) _
              refine wpOpIn_plain (v := Value.slice (some ⟨w'.heap.size, 0, none⟩) 0 0) (w' := w'.alloc (.cells #[] 3)) rfl rfl (by simp [Oper.semAt, execOp, go_sem]) ?_
              exact ⟨b0, w'.heap.size, v82, b87, v88, v89, (IB.out.trans (hb.mono IB.out.size)), (fun h h2 => (A2.out h h2).keep hb), (fun h h2 => (hb.block _ ((Array.getElem?_eq_some_iff.1 (A8.out h h2)).1)).trans (A8.out h h2)), (fun h h2 => (A9.out h h2).keep hb), (fun h => (A10.out h).keep hb), J3, J9, J10, J11, rfl⟩
            · obtain rfl : x2 = false := by simpa using hbi
              obtain rfl : x11 = false := Bool.eq_false_iff.2 fun h => by have := J3.out (J9.out (J10.out (J11.out h))); cases this
              refine wpOpIn_plain rfl rfl rfl ?_
              exact ⟨b0, b1, v82, b87, v88, v89, IB, A2, A8, A9, A10, (fun _ => rfl), J9, J10, J11, rfl⟩
            · obtain rfl : x3 = false := by simpa using hbi
              obtain rfl : x1 = true := hdep _ rfl ⟨1, .data⟩ (by simp) rfl
              obtain rfl : x2 = true := hdep _ rfl ⟨2, .data⟩ (by simp) rfl
              obtain ⟨v', w2, hr, hn, hb⟩ := app_fresh b1 (HN.out.1.pi.keep IB.out) HN.out.1.np (by have := HPL.out; omega) pk
              rw [← HN.out.2.1] at hr
              have hsz := IB.out.size
              refine wpOpIn_append rfl rfl (.tmp 80) (.tmp 81) 22 rfl rfl rfl hr ?_
              exact ⟨b0, b1, v', b87, v88, v89, (IB.out.trans (hb.mono IB.out.size)), (fun _ _ => ⟨own_lower hn.own hsz, hn.len⟩), (fun h h2 => (hb.block _ ((Array.getElem?_eq_some_iff.1 (A8.out h h2)).1)).trans (A8.out h h2)), (fun h h2 => (A9.out h h2).keep hb), (fun h => (A10.out h).keep hb), (fun _ => rfl), (fun _ => rfl), J10, J11, rfl⟩
            · obtain rfl : x4 = false := by simpa using hbi
              refine wpOpIn_plain rfl rfl rfl ?_
              exact ⟨b0, b1, v82, b87, v88, v89, IB, A2, A8, A9, A10, J3, J9, J10, J11, rfl⟩
            · obtain rfl : x5 = false := by simpa using hbi
              refine wpOpIn_plain rfl rfl rfl ?_
              exact ⟨b0, b1, v82, b87, v88, v89, IB, A2, A8, A9, A10, J3, J9, J10, J11, rfl⟩
            · obtain rfl : x6 = false := by simpa using hbi
              obtain rfl : x4 = true := hdep _ rfl ⟨4, .data⟩ (by simp) rfl
              obtain rfl : x5 = true := hdep _ rfl ⟨5, .data⟩ (by simp) rfl
              refine wpOpIn_plain (v := Value.pointer (some ⟨blv, (j + 1), none⟩)) (w' := w') rfl rfl (by simp [Oper.semAt, execOp, go_sem, hbd1, hbd2, hbd3, hbd4]) ?_
              exact ⟨b0, b1, v82, b87, v88, v89, IB, A2, A8, A9, A10, J3, J9, J10, J11, rfl⟩
            · obtain rfl : x7 = false := by simpa using hbi
              obtain rfl : x6 = true := hdep _ rfl ⟨6, .data⟩ (by simp) rfl
              have c9 := kcell IB.out Q1.out.1
              refine wpOpIn_plain (v := Value.int IntKind.i64 (v)) (w' := w') rfl rfl (by simp [Oper.semAt, execOp, go_sem, c9]) ?_
              exact ⟨b0, b1, v82, b87, v88, v89, IB, A2, A8, A9, A10, J3, J9, J10, J11, rfl⟩
            · obtain rfl : x8 = false := by simpa using hbi
              obtain rfl : x7 = true := hdep _ rfl ⟨7, .data⟩ (by simp) rfl
              have hb : Below w'.heap.size w' (w'.alloc (.cells #[.int .i64 v] 3)) := (Below.refl _ _).alloc (Nat.le_refl _) _
              refine wpOpIn_plain (v := Value.slice (some ⟨w'.heap.size, 0, none⟩) 1 1) (w' := w'.alloc (.cells #[.int .i64 v] 3)) rfl rfl (by simp [Oper.semAt, execOp, go_sem]) ?_
              exact ⟨b0, b1, v82, w'.heap.size, v88, v89, (IB.out.trans (hb.mono IB.out.size)), (fun h h2 => (A2.out h h2).keep hb), (fun _ _ => heap_alloc_new w' _), (fun h h2 => (A9.out h h2).keep hb), (fun h => (A10.out h).keep hb), J3, J9, J10, J11, rfl⟩
            · obtain rfl : x9 = false := by simpa using hbi
              obtain rfl : x3 = true := hdep _ rfl ⟨3, .data⟩ (by simp) rfl
              obtain rfl : x8 = true := hdep _ rfl ⟨8, .data⟩ (by simp) rfl
              obtain rfl : x10 = false := Bool.eq_false_iff.2 fun h => by have := J10.out h; cases this
              obtain ⟨v', w2, hr, hn, hb⟩ := appG (A2.out rfl rfl) (A8.out rfl rfl) (by have := HPL.out; omega) IB.out.size
              refine wpOpIn_append rfl rfl (.tmp 82) (.tmp 87) 22 rfl rfl rfl hr ?_
              exact ⟨b0, b1, v82, b87, v', v89, (IB.out.trans hb), (fun _ h => by cases h), (fun _ h => by cases h), (fun _ _ => hn), (fun h => by cases h), J3, (fun _ => rfl), (fun _ => rfl), J11, rfl⟩
            · obtain rfl : x10 = false := by simpa using hbi
              obtain rfl : x0 = true := hdep _ rfl ⟨0, .data⟩ (by simp) rfl
              obtain rfl : x9 = true := hdep _ rfl ⟨9, .data⟩ (by simp) rfl
              obtain rfl : x11 = false := Bool.eq_false_iff.2 fun h => by have := J11.out h; cases this
              have h9 := A9.out rfl rfl
              obtain ⟨a8, c8, hv8, hi8⟩ := h9.ints
              subst hv8
              obtain ⟨v', w2, hr, hn, hb⟩ := app_fresh b0 hi8 (by simp) (by have := HPL.out; simp; omega) c8
              have hsz := IB.out.size
              refine wpOpIn_append rfl rfl (.tmp 79) (.tmp 88) 22 rfl rfl rfl hr ?_
              exact ⟨b0, b1, v82, b87, _, v', (IB.out.trans (hb.mono IB.out.size)), (fun h h2 => (A2.out h h2).keep hb), (fun h h2 => (hb.block _ ((Array.getElem?_eq_some_iff.1 (A8.out h h2)).1)).trans (A8.out h h2)), (fun _ h => by cases h), (fun _ => ⟨own_lower hn.own hsz, hn.len⟩), J3, J9, (fun _ => rfl), (fun _ => rfl), rfl⟩
            · obtain rfl : x11 = false := by simpa using hbi
              obtain rfl : x10 = true := hdep _ rfl ⟨10, .data⟩ (by simp) rfl
              refine wpOpIn_plain rfl rfl rfl ?_
              exact ⟨b0, b1, v82, b87, v88, v89, IB, A2, A8, A9, A10, J3, J9, J10, (fun _ => rfl), rfl⟩
          case fin =>
          intro listed a' Z3 hs hall ⟨b0, b1, v82, b87, v88, v89, IB, A2, A8, A9, A10, J3, J9, J10, J11, ha⟩
          obtain ⟨ls⟩ := listed
          match ls, hs with
          | [x0, x1, x2, x3, x4, x5, x6, x7, x8, x9, x10, x11], _ =>
          obtain rfl : x0 = true := hall 0 (by simp)
          obtain rfl : x1 = true := hall 1 (by simp)
          obtain rfl : x2 = true := hall 2 (by simp)
          obtain rfl : x3 = true := hall 3 (by simp)
          obtain rfl : x4 = true := hall 4 (by simp)
          obtain rfl : x5 = true := hall 5 (by simp)
          obtain rfl : x6 = true := hall 6 (by simp)
          obtain rfl : x7 = true := hall 7 (by simp)
          obtain rfl : x8 = true := hall 8 (by simp)
          obtain rfl : x9 = true := hall 9 (by simp)
          obtain rfl : x10 = true := hall 10 (by simp)
          obtain rfl : x11 = true := hall 11 (by simp)
          subst ha
          obtain ⟨pa2, pk2, hv9, hD2⟩ := HN.out.1.path IB.out (A10.out rfl) (by simp)
          subst hv9
          have q5 := kcell IB.out Q1.out.2
          obtain ⟨cv2, w6, hr6, hD6⟩ := hD2.cls cl (by have h3 := congrArg List.length HN.out.2.2.2; have h4 := HLN.out; simp at h3; omega)
          have HR6 := Lib.hid hr6
          have HF := Lib.hid hD6
          clear IB A2 A8 A9 A10 hall hs hr6 hD6 hD2 Q1 HPL
          dsimp only [Exit.then, Exit.inBlock]
          obtain ⟨n2, hn2⟩ : ∃ n2, n2 = (P ++ [v]).length := ⟨_, rfl⟩
          have HN2 := Lib.hid hn2
          rw [← hn2]
          clear hn2
          go_wp2_with (at_builtin; refine Lib.wpList_append_run _ rfl (.tmp 90) (.tmp 95) 22 22 rfl _ _ rfl rfl _ _ HR6.out ?_)
          go_roundw
          case rel => exact ⟨pa2, n2, pk2, cv2, j + 1, P ++ [v], C ++ [cl], rfl, rfl, by go_num, by omega, HF.out, HN2.out, by rw [List.append_assoc]; exact HN.out.2.2.1, by rw [List.append_assoc]; exact HN.out.2.2.2⟩
          case measure => simp [intOf]; omega
      · have HR : Hid (pn = TL.length + 1 ∧ Ints wr pa (x :: TL.map (·.1)) ∧ NewInts w.heap.size wr cv (TL.map (·.2)) ∧ Below w.heap.size w wr) := by
          obtain ⟨h1, h2, h3, h4⟩ := HI.out
          have hd : S.drop j = [] := List.drop_eq_nil_of_le (by have := HSN.out.1; omega)
          rw [hd] at h3 h4
          simp only [skipL, List.map_nil, List.append_nil] at h3 h4
          subst h3; subst h4
          exact ⟨by rw [h2]; simp, h1.pi, ⟨own_lower h1.cc.own (by omega), h1.cc.len⟩, h1.bl⟩
        clear HI
        obtain ⟨hpn, HR2⟩ := HR.out
        clear HR
        have HR3 := Lib.hid HR2
        clear HR2
        go_wp2_with fail
        refine bodyPost_ret (v := .tuple #[.slice pa pn pk, cv]) (by simp [results, Try.results55]) rfl ⟨pa, pk, cv, by rw [hpn], HR3.out.1, HR3.out.2.1, HR3.out.2.2⟩
  · have hne : (gx != gy) = true := bne_iff_ne.2 hgg
    have HTL := Lib.hid (HSK.out hgg)
    have HNG := Lib.hid hgg
    clear HSK HSS hgg
    go_wp2_with fail
    clear hne
    generalize (w1.alloc (.cells #[.int .i64 x, .int .i64 y] 3)).alloc (.cells #[.int .i64 0, .int .i64 0] 3) = Y at *
    have hG2 := HGR.out
    generalize a * h + 1 = G at *
    obtain ⟨n1, n2, n3, n4, n5, n6, n7⟩ := hG2
    obtain ⟨m, hm⟩ : ∃ m, m = (gy - gx - 1 + G) % G := ⟨_, rfl⟩
    have hm0 : 0 ≤ m := by rw [hm]; exact Int.emod_nonneg _ (by omega)
    have hm1 : m ≤ G - 2 := by
      have h5 : (gy - gx - 1 + G) % G = if gx < gy then gy - gx - 1 else gy - gx - 1 + G := by
        split
        · rw [Int.add_emod_right]; exact Int.emod_eq_of_lt (by omega) (by omega)
        · exact Int.emod_eq_of_lt (by omega) (by omega)
      have h6 := hm.trans h5
      have hng := HNG.out
      by_cases hgl : gx < gy
      · rw [if_pos hgl] at h6; omega
      · rw [if_neg hgl] at h6; omega
    have ER := Lib.hid (fun W => i64_rem (gy - gx - 1 + G) G (by omega) (by omega) W)
    rw [← hm] at ER HTL
    have ES1 := Lib.hid (fun W => i64_sub gy gx (by omega) (by omega) W)
    have ES2 := Lib.hid (fun W => i64_sub (gy - gx) 1 (by omega) (by omega) W)
    have EA1 := Lib.hid (fun W => i64_add (gy - gx - 1) G (by omega) (by omega) W)
    have ES3 := Lib.hid (fun W => i64_sub G 2 (by omega) (by omega) W)
    have ES4 := Lib.hid (fun W => i64_sub (G - 2) m (by omega) (by omega) W)
    have HP1 := Lib.hid (fun W (hb : Below w.heap.size w W) => HPT.out W hb gx m (by omega) (by omega) (by omega) (by omega))
    have HP2 := Lib.hid (fun W (hb : Below w.heap.size w W) => HPT.out W hb gy (G - 2 - m) (by omega) (by omega) (by omega) (by omega))
    generalize gx * a + m / h = p1 at *
    generalize gy * a + (G - 2 - m) / h = p2 at *
    clear hm HPT n1 n2 n3 n4 n5 n6 n7 hm0 hm1 HGR HNG
    refine (wpIn_wide (n := 0)).1 ?_
    refine region_det (by kernel_rfl) (I := fun listed a' w' => Hid (Below Y.heap.size Y w') ∧ a' = ⟨#[Value.agg #[Value.int IntKind.i64 kind, Value.slice (some (⟨g, o, none⟩)) 2 sc, Value.int IntKind.i64 hosts], Value.int IntKind.i64 x, Value.int IntKind.i64 y, Value.pointer (some (⟨w.heap.size, 0, none⟩)), undef, undef, Value.slice none 0 0, Value.slice none 0 0, Value.int IntKind.i64 gx, Value.int IntKind.i64 gy, Value.slice (some (⟨w1.heap.size, 0, none⟩)) 2 2, Value.slice (some (⟨(w1.heap.size + 1), 0, none⟩)) 2 2, (if listed.getD 10 false = true then Value.int IntKind.i64 (m) else undef), undef, undef, undef, Value.int IntKind.i64 x, Value.pointer (some (⟨w.heap.size, 1, none⟩)), Value.slice (some (⟨g, o, none⟩)) 2 sc, Value.pointer (some (⟨g, o, none⟩)), Value.int IntKind.i64 a, Value.int IntKind.i64 gx, Value.int IntKind.i64 y, Value.pointer (some (⟨w.heap.size, 1, none⟩)), Value.slice (some (⟨g, o, none⟩)) 2 sc, Value.pointer (some (⟨g, o, none⟩)), Value.int IntKind.i64 a, Value.int IntKind.i64 gy, Value.int IntKind.i64 x, Value.int IntKind.i64 y, Value.slice (some (⟨w1.heap.size, 0, none⟩)) 2 2, Value.slice (some (⟨(w1.heap.size + 1), 0, none⟩)) 2 2, Value.int IntKind.i64 gx, Value.int IntKind.i64 gy, Value.bool true, (if listed.getD 0 false = true then Value.int IntKind.i64 (gy) else undef), (if listed.getD 1 false = true then Value.int IntKind.i64 (gx) else undef), (if listed.getD 2 false = true then Value.int IntKind.i64 (gy - gx) else undef), (if listed.getD 3 false = true then Value.int IntKind.i64 (gy - gx - 1) else undef), (if listed.getD 4 false = true then Value.agg #[.int .i64 kind, .slice (some ⟨g, o, none⟩) 2 sc, .int .i64 hosts] else undef), (if listed.getD 5 false = true then Value.int IntKind.i64 (G) else undef), (if listed.getD 6 false = true then Value.int IntKind.i64 (gy - gx - 1 + G) else undef), (if listed.getD 7 false = true then Value.agg #[.int .i64 kind, .slice (some ⟨g, o, none⟩) 2 sc, .int .i64 hosts] else undef), (if listed.getD 8 false = true then Value.int IntKind.i64 (G) else undef), (if listed.getD 9 false = true then Value.int IntKind.i64 (m) else undef), undef, undef, undef, undef, undef, undef, undef, undef, undef, undef, undef, undef, undef, undef, undef, undef, undef, undef, undef, undef, undef, undef, undef, undef, undef, undef, undef, undef, undef, undef, undef, undef, undef, undef, undef, undef, undef, undef, undef, undef, undef, undef, undef, undef, undef, undef, undef, undef, undef, undef, undef, undef, undef, undef], []⟩) (hup_check (by kernel_rfl)) ?h0 ?step ?fin
    case h0 => exact ⟨(Below.refl _ _).drew, rfl⟩
    case step =>
      intro listed a' w' i hs hbi hdep hi ⟨IB, ha⟩
      obtain ⟨ls⟩ := listed
      match ls, hs with
      | [x0, x1, x2, x3, x4, x5, x6, x7, x8, x9, x10], _ =>
      subst ha
      have hi' : i = 0 ∨ i = 1 ∨ i = 2 ∨ i = 3 ∨ i = 4 ∨ i = 5 ∨ i = 6 ∨ i = 7 ∨ i = 8 ∨ i = 9 ∨ i = 10 := by simp at hi; omega
      rcases hi' with rfl | rfl | rfl | rfl | rfl | rfl | rfl | rfl | rfl | rfl | rfl
      · obtain rfl : x0 = false := by simpa using hbi
        refine wpOpIn_plain rfl rfl rfl ?_
        exact ⟨IB, rfl⟩
      · obtain rfl : x1 = false := by simpa using hbi
        refine wpOpIn_plain rfl rfl rfl ?_
        exact ⟨IB, rfl⟩
      · obtain rfl : x2 = false := by simpa using hbi
        obtain rfl : x0 = true := hdep _ rfl ⟨0, .data⟩ (by simp) rfl
        obtain rfl : x1 = true := hdep _ rfl ⟨1, .data⟩ (by simp) rfl
        refine wpOpIn_plain (v := Value.int IntKind.i64 (gy - gx)) (w' := w') rfl rfl (sem_bin (vx := Value.int IntKind.i64 (gy)) (vy := Value.int IntKind.i64 (gx)) rfl rfl rfl rfl (ES1.out w')) ?_
        exact ⟨IB, rfl⟩
      · obtain rfl : x3 = false := by simpa using hbi
        obtain rfl : x2 = true := hdep _ rfl ⟨2, .data⟩ (by simp) rfl
        refine wpOpIn_plain (v := Value.int IntKind.i64 (gy - gx - 1)) (w' := w') rfl rfl (sem_bin (vx := Value.int IntKind.i64 (gy - gx)) (vy := Value.int IntKind.i64 (1)) rfl rfl rfl rfl (ES2.out w')) ?_
        exact ⟨IB, rfl⟩
      · obtain rfl : x4 = false := by simpa using hbi
        refine wpOpIn_load_row rfl rfl 30 _ rfl w.heap.size rfl 30 _ _ _ (heapB IB.out HY0.out.2.1) Try.underlying30 rfl info30 ?_
        exact ⟨IB, rfl⟩
      · obtain rfl : x5 = false := by simpa using hbi
        obtain rfl : x4 = true := hdep _ rfl ⟨4, .data⟩ (by simp) rfl
        refine wpOpIn_call (args := #[Value.agg #[.int .i64 kind, .slice (some ⟨g, o, none⟩) 2 sc, .int .i64 hosts]]) rfl rfl (sem_call1 rfl rfl (enters_of Try.func64 (by kernel_rfl) rfl)) (HG.out w' (HY0.out.1.trans (IB.out.mono (by have := HY0.out.2.2.2.1.lt; have := HY0.out.2.2.2.2; omega)))) ?_
        rintro e V ⟨rfl, hb⟩
        exact ⟨_, rfl, (IB.out.trans (hb.mono IB.out.size)), rfl⟩
      · obtain rfl : x6 = false := by simpa using hbi
        obtain rfl : x3 = true := hdep _ rfl ⟨3, .data⟩ (by simp) rfl
        obtain rfl : x5 = true := hdep _ rfl ⟨5, .data⟩ (by simp) rfl
        refine wpOpIn_plain (v := Value.int IntKind.i64 (gy - gx - 1 + G)) (w' := w') rfl rfl (sem_bin (vx := Value.int IntKind.i64 (gy - gx - 1)) (vy := Value.int IntKind.i64 (G)) rfl rfl rfl rfl (EA1.out w')) ?_
        exact ⟨IB, rfl⟩
      · obtain rfl : x7 = false := by simpa using hbi
        refine wpOpIn_load_row rfl rfl 30 _ rfl w.heap.size rfl 30 _ _ _ (heapB IB.out HY0.out.2.1) Try.underlying30 rfl info30 ?_
        exact ⟨IB, rfl⟩
      · obtain rfl : x8 = false := by simpa using hbi
        obtain rfl : x7 = true := hdep _ rfl ⟨7, .data⟩ (by simp) rfl
        refine wpOpIn_call (args := #[Value.agg #[.int .i64 kind, .slice (some ⟨g, o, none⟩) 2 sc, .int .i64 hosts]]) rfl rfl (sem_call1 rfl rfl (enters_of Try.func64 (by kernel_rfl) rfl)) (HG.out w' (HY0.out.1.trans (IB.out.mono (by have := HY0.out.2.2.2.1.lt; have := HY0.out.2.2.2.2; omega)))) ?_
        rintro e V ⟨rfl, hb⟩
        exact ⟨_, rfl, (IB.out.trans (hb.mono IB.out.size)), rfl⟩
      · obtain rfl : x9 = false := by simpa using hbi
        obtain rfl : x6 = true := hdep _ rfl ⟨6, .data⟩ (by simp) rfl
        obtain rfl : x8 = true := hdep _ rfl ⟨8, .data⟩ (by simp) rfl
        refine wpOpIn_plain (v := Value.int IntKind.i64 (m)) (w' := w') rfl rfl (sem_bin (vx := Value.int IntKind.i64 (gy - gx - 1 + G)) (vy := Value.int IntKind.i64 (G)) rfl rfl rfl rfl (ER.out w')) ?_
        exact ⟨IB, rfl⟩
      · obtain rfl : x10 = false := by simpa using hbi
        obtain rfl : x9 = true := hdep _ rfl ⟨9, .data⟩ (by simp) rfl
        refine wpOpIn_plain rfl rfl rfl ?_
        exact ⟨IB, rfl⟩
    case fin =>
    intro listed a' Z hs hall ⟨IB, ha⟩
    obtain ⟨ls⟩ := listed
    match ls, hs with
    | [x0, x1, x2, x3, x4, x5, x6, x7, x8, x9, x10], _ =>
    obtain rfl : x0 = true := hall 0 (by simp)
    obtain rfl : x1 = true := hall 1 (by simp)
    obtain rfl : x2 = true := hall 2 (by simp)
    obtain rfl : x3 = true := hall 3 (by simp)
    obtain rfl : x4 = true := hall 4 (by simp)
    obtain rfl : x5 = true := hall 5 (by simp)
    obtain rfl : x6 = true := hall 6 (by simp)
    obtain rfl : x7 = true := hall 7 (by simp)
    obtain rfl : x8 = true := hall 8 (by simp)
    obtain rfl : x9 = true := hall 9 (by simp)
    obtain rfl : x10 = true := hall 10 (by simp)
    subst ha
    have HZ : Hid (Below Y.heap.size Y Z) := IB
    clear IB hall hs ES1 ES2 EA1 ER
    dsimp only [Exit.then, Exit.inBlock]
    have HY1 : Hid (Below w.heap.size w Z ∧ Z.heap[w.heap.size]? = some (.cells #[.int .i64 kind, .slice (some ⟨g, o, none⟩) 2 sc, .int .i64 hosts] 30 (0, 0)) ∧ w.heap.size + 1 ≤ Z.heap.size) := by
      have s1 := HY0.out.2.2.2.1.lt
      have s2 := HY0.out.2.2.2.2
      have s3 := HZ.out.size
      exact ⟨HY0.out.1.trans (HZ.out.mono (by omega)), (HZ.out.block _ (by omega)).trans HY0.out.2.1, by omega⟩
    clear HZ HY0
    go_wp2_with fail
    refine (wpIn_wide (n := 0)).1 ?_
    refine region_det (by kernel_rfl) (I := fun listed a' w' => ∃ bl : Nat, Hid (Below Z.heap.size Z w') ∧ Hid (listed.getD 14 false = true → w'.heap[bl]? = some (.cells #[.int .i64 x, .int .i64 p1, .int .i64 p2, .int .i64 y] 3 (0, 0)) ∧ Z.heap.size ≤ bl) ∧ Hid (listed.getD 15 false = true → listed.getD 14 false = true) ∧ a' = ⟨#[Value.agg #[Value.int IntKind.i64 kind, Value.slice (some (⟨g, o, none⟩)) 2 sc, Value.int IntKind.i64 hosts], Value.int IntKind.i64 x, Value.int IntKind.i64 y, Value.pointer (some (⟨w.heap.size, 0, none⟩)), undef, undef, Value.slice none 0 0, Value.slice none 0 0, Value.int IntKind.i64 gx, Value.int IntKind.i64 gy, (if listed.getD 15 false = true then Value.slice (some ⟨bl, 0, none⟩) 4 4 else Value.slice (some (⟨w1.heap.size, 0, none⟩)) 2 2), Value.slice (some (⟨(w1.heap.size + 1), 0, none⟩)) 2 2, Value.int IntKind.i64 m, undef, undef, undef, Value.int IntKind.i64 x, Value.pointer (some (⟨w.heap.size, 1, none⟩)), Value.slice (some (⟨g, o, none⟩)) 2 sc, Value.pointer (some (⟨g, o, none⟩)), Value.int IntKind.i64 a, Value.int IntKind.i64 gx, Value.int IntKind.i64 y, Value.pointer (some (⟨w.heap.size, 1, none⟩)), Value.slice (some (⟨g, o, none⟩)) 2 sc, Value.pointer (some (⟨g, o, none⟩)), Value.int IntKind.i64 a, Value.int IntKind.i64 gy, Value.int IntKind.i64 x, Value.int IntKind.i64 y, Value.slice (some (⟨w1.heap.size, 0, none⟩)) 2 2, Value.slice (some (⟨(w1.heap.size + 1), 0, none⟩)) 2 2, Value.int IntKind.i64 gx, Value.int IntKind.i64 gy, Value.bool true, Value.int IntKind.i64 gy, Value.int IntKind.i64 gx, Value.int IntKind.i64 (gy - gx), Value.int IntKind.i64 (gy - gx - 1), Value.agg #[Value.int IntKind.i64 kind, Value.slice (some (⟨g, o, none⟩)) 2 sc, Value.int IntKind.i64 hosts], Value.int IntKind.i64 G, Value.int IntKind.i64 (gy - gx - 1 + G), Value.agg #[Value.int IntKind.i64 kind, Value.slice (some (⟨g, o, none⟩)) 2 sc, Value.int IntKind.i64 hosts], Value.int IntKind.i64 G, Value.int IntKind.i64 m, (if listed.getD 0 false = true then Value.int IntKind.i64 (x) else undef), (if listed.getD 1 false = true then Value.agg #[.int .i64 kind, .slice (some ⟨g, o, none⟩) 2 sc, .int .i64 hosts] else undef), (if listed.getD 2 false = true then Value.int IntKind.i64 (gx) else undef), (if listed.getD 3 false = true then Value.int IntKind.i64 (m) else undef), (if listed.getD 4 false = true then Value.int IntKind.i64 (p1) else undef), (if listed.getD 5 false = true then Value.agg #[.int .i64 kind, .slice (some ⟨g, o, none⟩) 2 sc, .int .i64 hosts] else undef), (if listed.getD 6 false = true then Value.int IntKind.i64 (gy) else undef), (if listed.getD 7 false = true then Value.agg #[.int .i64 kind, .slice (some ⟨g, o, none⟩) 2 sc, .int .i64 hosts] else undef), (if listed.getD 8 false = true then Value.int IntKind.i64 (G) else undef), (if listed.getD 9 false = true then Value.int IntKind.i64 (G - 2) else undef), (if listed.getD 10 false = true then Value.int IntKind.i64 (m) else undef), (if listed.getD 11 false = true then Value.int IntKind.i64 (G - 2 - m) else undef), (if listed.getD 12 false = true then Value.int IntKind.i64 (p2) else undef), (if listed.getD 13 false = true then Value.int IntKind.i64 (y) else undef), (if listed.getD 14 false = true then Value.slice (some ⟨bl, 0, none⟩) 4 4 else undef), undef, undef, undef, undef, undef, undef, undef, undef, undef, undef, undef, undef, undef, undef, undef, undef, undef, undef, undef, undef, undef, undef, undef, undef, undef, undef, undef, undef, undef, undef, undef, undef, undef, undef, undef, undef, undef, undef, undef], []⟩) (hup_check (by kernel_rfl)) ?h0 ?step ?fin
    case h0 => exact ⟨0, (Below.refl _ _).drew, (fun h => by simp at h), (fun h => by simp at h), rfl⟩
    case step =>
      intro listed a' w' i hs hbi hdep hi ⟨bl, IB, ST, J15, ha⟩
      obtain ⟨ls⟩ := listed
      match ls, hs with
      | [x0, x1, x2, x3, x4, x5, x6, x7, x8, x9, x10, x11, x12, x13, x14, x15], _ =>
      subst ha
      have hi' : i = 0 ∨ i = 1 ∨ i = 2 ∨ i = 3 ∨ i = 4 ∨ i = 5 ∨ i = 6 ∨ i = 7 ∨ i = 8 ∨ i = 9 ∨ i = 10 ∨ i = 11 ∨ i = 12 ∨ i = 13 ∨ i = 14 ∨ i = 15 := by simp at hi; omega
      rcases hi' with rfl | rfl | rfl | rfl | rfl | rfl | rfl | rfl | rfl | rfl | rfl | rfl | rfl | rfl | rfl | rfl
      · obtain rfl : x0 = false := by simpa using hbi
        refine wpOpIn_plain rfl rfl rfl ?_
        exact ⟨bl, IB, ST, J15, rfl⟩
      · obtain rfl : x1 = false := by simpa using hbi
        refine wpOpIn_load_row rfl rfl 30 _ rfl w.heap.size rfl 30 _ _ _ (heapB IB.out HY1.out.2.1) Try.underlying30 rfl info30 ?_
        exact ⟨bl, IB, ST, J15, rfl⟩
      · obtain rfl : x2 = false := by simpa using hbi
        refine wpOpIn_plain rfl rfl rfl ?_
        exact ⟨bl, IB, ST, J15, rfl⟩
      · obtain rfl : x3 = false := by simpa using hbi
        refine wpOpIn_plain rfl rfl rfl ?_
        exact ⟨bl, IB, ST, J15, rfl⟩
      · obtain rfl : x4 = false := by simpa using hbi
        obtain rfl : x1 = true := hdep _ rfl ⟨1, .data⟩ (by simp) rfl
        obtain rfl : x2 = true := hdep _ rfl ⟨2, .data⟩ (by simp) rfl
        obtain rfl : x3 = true := hdep _ rfl ⟨3, .data⟩ (by simp) rfl
        refine wpOpIn_call (args := #[Value.agg #[.int .i64 kind, .slice (some ⟨g, o, none⟩) 2 sc, .int .i64 hosts], Value.int IntKind.i64 (gx), Value.int IntKind.i64 (m)]) rfl rfl (sem_call3 rfl rfl rfl rfl (enters_of Try.func70 (by kernel_rfl) rfl)) (HP1.out w' (HY1.out.1.trans (IB.out.mono (by have := HY1.out.2.2; omega)))) ?_
        rintro e V ⟨rfl, hb⟩
        exact ⟨_, rfl, bl, (IB.out.trans (hb.mono IB.out.size)), (fun h => ⟨(hb.block _ ((Array.getElem?_eq_some_iff.1 (ST.out h).1).1)).trans (ST.out h).1, (ST.out h).2⟩), J15, rfl⟩
      · obtain rfl : x5 = false := by simpa using hbi
        refine wpOpIn_load_row rfl rfl 30 _ rfl w.heap.size rfl 30 _ _ _ (heapB IB.out HY1.out.2.1) Try.underlying30 rfl info30 ?_
        exact ⟨bl, IB, ST, J15, rfl⟩
      · obtain rfl : x6 = false := by simpa using hbi
        refine wpOpIn_plain rfl rfl rfl ?_
        exact ⟨bl, IB, ST, J15, rfl⟩
      · obtain rfl : x7 = false := by simpa using hbi
        refine wpOpIn_load_row rfl rfl 30 _ rfl w.heap.size rfl 30 _ _ _ (heapB IB.out HY1.out.2.1) Try.underlying30 rfl info30 ?_
        exact ⟨bl, IB, ST, J15, rfl⟩
      · obtain rfl : x8 = false := by simpa using hbi
        obtain rfl : x7 = true := hdep _ rfl ⟨7, .data⟩ (by simp) rfl
        refine wpOpIn_call (args := #[Value.agg #[.int .i64 kind, .slice (some ⟨g, o, none⟩) 2 sc, .int .i64 hosts]]) rfl rfl (sem_call1 rfl rfl (enters_of Try.func64 (by kernel_rfl) rfl)) (HG.out w' (HY1.out.1.trans (IB.out.mono (by have := HY1.out.2.2; omega)))) ?_
        rintro e V ⟨rfl, hb⟩
        exact ⟨_, rfl, bl, (IB.out.trans (hb.mono IB.out.size)), (fun h => ⟨(hb.block _ ((Array.getElem?_eq_some_iff.1 (ST.out h).1).1)).trans (ST.out h).1, (ST.out h).2⟩), J15, rfl⟩
      · obtain rfl : x9 = false := by simpa using hbi
        obtain rfl : x8 = true := hdep _ rfl ⟨8, .data⟩ (by simp) rfl
        refine wpOpIn_plain (v := Value.int IntKind.i64 (G - 2)) (w' := w') rfl rfl (sem_bin (vx := Value.int IntKind.i64 (G)) (vy := Value.int IntKind.i64 (2)) rfl rfl rfl rfl (ES3.out w')) ?_
        exact ⟨bl, IB, ST, J15, rfl⟩
      · obtain rfl : x10 = false := by simpa using hbi
        refine wpOpIn_plain rfl rfl rfl ?_
        exact ⟨bl, IB, ST, J15, rfl⟩
      · obtain rfl : x11 = false := by simpa using hbi
        obtain rfl : x9 = true := hdep _ rfl ⟨9, .data⟩ (by simp) rfl
        obtain rfl : x10 = true := hdep _ rfl ⟨10, .data⟩ (by simp) rfl
        refine wpOpIn_plain (v := Value.int IntKind.i64 (G - 2 - m)) (w' := w') rfl rfl (sem_bin (vx := Value.int IntKind.i64 (G - 2)) (vy := Value.int IntKind.i64 (m)) rfl rfl rfl rfl (ES4.out w')) ?_
        exact ⟨bl, IB, ST, J15, rfl⟩
      · obtain rfl : x12 = false := by simpa using hbi
        obtain rfl : x5 = true := hdep _ rfl ⟨5, .data⟩ (by simp) rfl
        obtain rfl : x6 = true := hdep _ rfl ⟨6, .data⟩ (by simp) rfl
        obtain rfl : x11 = true := hdep _ rfl ⟨11, .data⟩ (by simp) rfl
        refine wpOpIn_call (args := #[Value.agg #[.int .i64 kind, .slice (some ⟨g, o, none⟩) 2 sc, .int .i64 hosts], Value.int IntKind.i64 (gy), Value.int IntKind.i64 (G - 2 - m)]) rfl rfl (sem_call3 rfl rfl rfl rfl (enters_of Try.func70 (by kernel_rfl) rfl)) (HP2.out w' (HY1.out.1.trans (IB.out.mono (by have := HY1.out.2.2; omega)))) ?_
        rintro e V ⟨rfl, hb⟩
        exact ⟨_, rfl, bl, (IB.out.trans (hb.mono IB.out.size)), (fun h => ⟨(hb.block _ ((Array.getElem?_eq_some_iff.1 (ST.out h).1).1)).trans (ST.out h).1, (ST.out h).2⟩), J15, rfl⟩
      · obtain rfl : x13 = false := by simpa using hbi
        refine wpOpIn_plain rfl rfl rfl ?_
        exact ⟨bl, IB, ST, J15, rfl⟩
      · obtain rfl : x14 = false := by simpa using hbi
        obtain rfl : x0 = true := hdep _ rfl ⟨0, .data⟩ (by simp) rfl
        obtain rfl : x4 = true := hdep _ rfl ⟨4, .data⟩ (by simp) rfl
        obtain rfl : x12 = true := hdep _ rfl ⟨12, .data⟩ (by simp) rfl
        obtain rfl : x13 = true := hdep _ rfl ⟨13, .data⟩ (by simp) rfl
        obtain rfl : x15 = false := Bool.eq_false_iff.2 fun h => by have := J15.out h; cases this
        have hb : Below w'.heap.size w' (w'.alloc (.cells #[.int .i64 x, .int .i64 p1, .int .i64 p2, .int .i64 y] 3)) := (Below.refl _ _).alloc (Nat.le_refl _) _
        have hsz := IB.out.size
        refine wpOpIn_plain (v := Value.slice (some ⟨w'.heap.size, 0, none⟩) 4 4) (w' := w'.alloc (.cells #[.int .i64 x, .int .i64 p1, .int .i64 p2, .int .i64 y] 3)) rfl rfl (by simp [Oper.semAt, execOp, go_sem]) ?_
        exact ⟨w'.heap.size, (IB.out.trans (hb.mono IB.out.size)), (fun _ => ⟨heap_alloc_new w' _, hsz⟩), (fun _ => rfl), rfl⟩
      · obtain rfl : x15 = false := by simpa using hbi
        obtain rfl : x14 = true := hdep _ rfl ⟨14, .data⟩ (by simp) rfl
        refine wpOpIn_plain rfl rfl rfl ?_
        exact ⟨bl, IB, ST, (fun _ => rfl), rfl⟩
    case fin =>
    intro listed a' Z2 hs hall ⟨bl, IB, ST, J15, ha⟩
    obtain ⟨ls⟩ := listed
    match ls, hs with
    | [x0, x1, x2, x3, x4, x5, x6, x7, x8, x9, x10, x11, x12, x13, x14, x15], _ =>
    obtain rfl : x0 = true := hall 0 (by simp)
    obtain rfl : x1 = true := hall 1 (by simp)
    obtain rfl : x2 = true := hall 2 (by simp)
    obtain rfl : x3 = true := hall 3 (by simp)
    obtain rfl : x4 = true := hall 4 (by simp)
    obtain rfl : x5 = true := hall 5 (by simp)
    obtain rfl : x6 = true := hall 6 (by simp)
    obtain rfl : x7 = true := hall 7 (by simp)
    obtain rfl : x8 = true := hall 8 (by simp)
    obtain rfl : x9 = true := hall 9 (by simp)
    obtain rfl : x10 = true := hall 10 (by simp)
    obtain rfl : x11 = true := hall 11 (by simp)
    obtain rfl : x12 = true := hall 12 (by simp)
    obtain rfl : x13 = true := hall 13 (by simp)
    obtain rfl : x14 = true := hall 14 (by simp)
    obtain rfl : x15 = true := hall 15 (by simp)
    subst ha
    have hs1 := ST.out rfl
    have HY2 : Hid (Below w.heap.size w (Z2.alloc (.cells #[.int .i64 0, .int .i64 0, .int .i64 0, .int .i64 1] 3)) ∧ (Z2.alloc (.cells #[.int .i64 0, .int .i64 0, .int .i64 0, .int .i64 1] 3)).heap[w.heap.size]? = some (.cells #[.int .i64 kind, .slice (some ⟨g, o, none⟩) 2 sc, .int .i64 hosts] 30 (0, 0)) ∧ RowAt (Z2.alloc (.cells #[.int .i64 0, .int .i64 0, .int .i64 0, .int .i64 1] 3)) bl [x, p1, p2, y] ∧ RowAt (Z2.alloc (.cells #[.int .i64 0, .int .i64 0, .int .i64 0, .int .i64 1] 3)) Z2.heap.size [0, 0, 0, 1] ∧ w.heap.size + 1 ≤ (Z2.alloc (.cells #[.int .i64 0, .int .i64 0, .int .i64 0, .int .i64 1] 3)).heap.size) := by
      have s2 := HY1.out.2.2
      have s3 := IB.out.size
      have hlt := (Array.getElem?_eq_some_iff.1 hs1.1).1
      refine ⟨(HY1.out.1.trans (IB.out.mono (by omega))).alloc (by omega) _, (Below.heap_alloc _ _ _ (by omega)).trans ((IB.out.block _ (by omega)).trans HY1.out.2.1), ?_, ?_, by simp; omega⟩
      · have e : rowA [x, p1, p2, y] = #[.int .i64 x, .int .i64 p1, .int .i64 p2, .int .i64 y] := by unfold rowA; rfl
        unfold RowAt; rw [e]; exact (Below.heap_alloc _ _ _ hlt).trans hs1.1
      · have e : rowA [0, 0, 0, 1] = #[.int .i64 0, .int .i64 0, .int .i64 0, .int .i64 1] := by unfold rowA; rfl
        unfold RowAt; rw [e]; exact heap_alloc_new Z2 _
    clear IB ST hall hs hs1 HY1 ES3 ES4 HP1 HP2 HG
    dsimp only [Exit.then, Exit.inBlock]
    go_wp2_with fail
    obtain ⟨bcn, hbcn⟩ : ∃ b, b = Z2.heap.size := ⟨_, rfl⟩
    rw [← hbcn] at HY2 ⊢
    clear hbcn
    generalize Z2.alloc (.cells #[.int .i64 0, .int .i64 0, .int .i64 0, .int .i64 1] 3) = Y2 at *
    obtain ⟨S, hS⟩ : ∃ S : List (Int × Int), S = [(p1, 0), (p2, 0), (y, 1)] := ⟨_, rfl⟩
    have HS1 : Hid (S.length + 1 = 4 ∧ RowAt Y2 bl (x :: S.map (·.1)) ∧ RowAt Y2 bcn (0 :: S.map (·.2)) ∧ TL = skipL x S) := by
      refine ⟨by rw [hS]; rfl, ?_, ?_, by rw [hS]; exact HTL.out⟩
      · rw [hS]; exact HY2.out.2.2.1
      · rw [hS]; exact HY2.out.2.2.2.1
    clear hS
    have HD0 : Hid (DrS w.heap.size (w.heap.size + 1) bl bcn w (.cells #[.int .i64 kind, .slice (some ⟨g, o, none⟩) 2 sc, .int .i64 hosts] 30 (0, 0)) (x :: S.map (·.1)) (0 :: S.map (·.2)) (some ⟨bl, 0, none⟩) (.slice none 0 0) [x] [] Y2) := by
      refine ⟨by simp, HS1.out.2.1, HS1.out.2.2.1, ⟨by simp, fun _ => ⟨_, 0, rfl, fun j hj => ?_⟩⟩, (fun b _ h => by cases h), ⟨World.ownsRow_nil _ _ _ _, by simp⟩, (fun h => by cases h), (fun h => by cases h), HY2.out.1, HY2.out.2.1, ?_, Nat.lt_succ_self _⟩
      · have hj0 : j = 0 := by simp at hj; omega
        subst hj0
        exact HS1.out.2.1.cell 0 (by simp)
      · have s1 := HS1.out.2.1.lt; have s2 := HY2.out.2.2.2.2; omega
    obtain ⟨blv, hblv⟩ : ∃ b, b = bl := ⟨_, rfl⟩
    obtain ⟨bcv, hbcv⟩ : ∃ b, b = bcn := ⟨_, rfl⟩
    rw [← hbcv, ← hblv] at HD0
    rw [← hbcv, ← hblv]
    clear HY2 hblv hbcv
    have HSN : Hid (S.length + 1 = 4 ∧ TL = skipL x S) := ⟨HS1.out.1, HS1.out.2.2.2⟩
    clear HS1
    go_loopw [13, 14, 15] (fun av bv kv wr => ∃ (pa : Option Addr) (pn pk : Nat) (cv : Value) (j : Nat) (P C : List Int), .slice pa pn pk = av ∧ cv = bv ∧ kv = .int .i64 ((j + 1 : Nat) : Int) ∧ j + 1 ≤ 4 ∧ Hid (DrS w.heap.size (w.heap.size + 1) blv bcv w (.cells #[.int .i64 kind, .slice (some ⟨g, o, none⟩) 2 sc, .int .i64 hosts] 30 (0, 0)) (x :: S.map (·.1)) (0 :: S.map (·.2)) pa cv P C wr ∧ pn = P.length ∧ P ++ (skipL ((x :: S.map (·.1)).getD j 0) (S.drop j)).map (·.1) = x :: TL.map (·.1) ∧ C ++ (skipL ((x :: S.map (·.1)).getD j 0) (S.drop j)).map (·.2) = TL.map (·.2))) (fun _ _ kv _ => 4 - (intOf kv).toNat)
    case atStart => exact ⟨_, 1, _, _, 0, [x], [], rfl, rfl, rfl, by omega, HD0.out, rfl, by rw [HSN.out.2]; rfl, by rw [HSN.out.2]; rfl⟩
    case round =>
      clear HD0
      obtain ⟨pa, pn, pk, cv, j, P, C, rfl, rfl, rfl, hj, HI⟩ := hrel
      by_cases hlt : j + 1 < 4
      · have hjs : j < S.length := by have := HSN.out.1; omega
        have q1 := HI.out.1.rl.cell (j + 1) (by simp; omega)
        have q0 := HI.out.1.rl.cell j (by simp; omega)
        rw [get_getD] at q0
        have q2 := HI.out.1.rc.cell (j + 1) (by simp; omega)
        simp only [List.getElem_cons_succ, List.getElem_map] at q1 q2
        have HK : Hid ((x :: S.map (·.1)).getD (j + 1) 0 = S[j].1 ∧ S.drop j = (S[j].1, S[j].2) :: S.drop (j + 1)) := ⟨by simp [List.getD, hjs], List.drop_eq_getElem_cons hjs⟩
        have HPV : Hid (∃ p, p = (x :: S.map (·.1)).getD j 0) := ⟨_, rfl⟩
        obtain ⟨pv, hpv⟩ := HPV.out
        rw [← hpv] at q0 HI
        clear HPV hpv
        generalize S[j].1 = v at *
        generalize S[j].2 = cl at *
        have hji : ((j + 1 : Nat) : Int) - 1 = (j : Int) := by omega
        have hbd1 : ((j : Int) + 1 < 0) = False := by simp; omega
        have hbd2 : ((4 : Int) ≤ (j : Int) + 1) = False := by simp; omega
        have hbd3 : (((j + 1 : Nat) : Int) < 0) = False := by simp; omega
        have hbd4 : ((4 : Int) ≤ ((j + 1 : Nat) : Int)) = False := by simp; omega
        have hbd5 : ((j : Int) < 0) = False := by simp
        have hbd6 : ((4 : Int) ≤ (j : Int)) = False := by simp; omega
        have ESJ : Hid (∀ W, (binOp .sub 3 (.int .i64 ((j : Int) + 1)) (.int .i64 1)).run Try.prog W = .ok (.int .i64 (j : Int)) W) := fun W => by
          have := i64_sub ((j : Int) + 1) 1 (by omega) (by omega) W
          rwa [show (j : Int) + 1 - 1 = (j : Int) by omega] at this
        obtain ⟨wo, rfl⟩ : ∃ wo, wo = wr := ⟨_, rfl⟩
        by_cases hvp : v = pv
        · have hq : (v != pv) = false := by simp [hvp]
          go_wp2_with fail
          refine (wpIn_wide (n := 0)).1 ?_
          refine region_det (by kernel_rfl) (I := fun listed a' w' => Hid (Below wo.heap.size wo w') ∧ a' = ⟨#[Value.agg #[Value.int IntKind.i64 kind, Value.slice (some (⟨g, o, none⟩)) 2 sc, Value.int IntKind.i64 hosts], Value.int IntKind.i64 x, Value.int IntKind.i64 y, Value.pointer (some (⟨w.heap.size, 0, none⟩)), undef, undef, Value.slice none 0 0, Value.slice none 0 0, Value.int IntKind.i64 gx, Value.int IntKind.i64 gy, Value.slice (some (⟨blv, 0, none⟩)) 4 4, Value.slice (some (⟨bcv, 0, none⟩)) 4 4, Value.int IntKind.i64 m, Value.slice pa pn pk, cv, Value.int IntKind.i64 ((j : Int) + 1), Value.int IntKind.i64 x, Value.pointer (some (⟨w.heap.size, 1, none⟩)), Value.slice (some (⟨g, o, none⟩)) 2 sc, Value.pointer (some (⟨g, o, none⟩)), Value.int IntKind.i64 a, Value.int IntKind.i64 gx, Value.int IntKind.i64 y, Value.pointer (some (⟨w.heap.size, 1, none⟩)), Value.slice (some (⟨g, o, none⟩)) 2 sc, Value.pointer (some (⟨g, o, none⟩)), Value.int IntKind.i64 a, Value.int IntKind.i64 gy, Value.int IntKind.i64 x, Value.int IntKind.i64 y, Value.slice (some (⟨w1.heap.size, 0, none⟩)) 2 2, Value.slice (some (⟨(w1.heap.size + 1), 0, none⟩)) 2 2, Value.int IntKind.i64 gx, Value.int IntKind.i64 gy, Value.bool true, Value.int IntKind.i64 gy, Value.int IntKind.i64 gx, Value.int IntKind.i64 (gy - gx), Value.int IntKind.i64 (gy - gx - 1), Value.agg #[Value.int IntKind.i64 kind, Value.slice (some (⟨g, o, none⟩)) 2 sc, Value.int IntKind.i64 hosts], Value.int IntKind.i64 G, Value.int IntKind.i64 (gy - gx - 1 + G), Value.agg #[Value.int IntKind.i64 kind, Value.slice (some (⟨g, o, none⟩)) 2 sc, Value.int IntKind.i64 hosts], Value.int IntKind.i64 G, Value.int IntKind.i64 m, Value.int IntKind.i64 x, Value.agg #[Value.int IntKind.i64 kind, Value.slice (some (⟨g, o, none⟩)) 2 sc, Value.int IntKind.i64 hosts], Value.int IntKind.i64 gx, Value.int IntKind.i64 m, Value.int IntKind.i64 p1, Value.agg #[Value.int IntKind.i64 kind, Value.slice (some (⟨g, o, none⟩)) 2 sc, Value.int IntKind.i64 hosts], Value.int IntKind.i64 gy, Value.agg #[Value.int IntKind.i64 kind, Value.slice (some (⟨g, o, none⟩)) 2 sc, Value.int IntKind.i64 hosts], Value.int IntKind.i64 G, Value.int IntKind.i64 (G - 2), Value.int IntKind.i64 m, Value.int IntKind.i64 (G - 2 - m), Value.int IntKind.i64 p2, Value.int IntKind.i64 y, Value.slice (some (⟨blv, 0, none⟩)) 4 4, Value.slice (some (⟨bcv, 0, none⟩)) 4 4, Value.slice (some (⟨blv, 0, none⟩)) 4 4, Value.slice (some (⟨blv, 0, none⟩)) 1 4, Value.int IntKind.i64 ((j : Int) + 1), Value.slice (some (⟨blv, 0, none⟩)) 4 4, Value.int IntKind.i64 4, Value.bool true, u67, u68, (if listed.getD 0 false = true then Value.slice (some (⟨blv, 0, none⟩)) 4 4 else u69), (if listed.getD 1 false = true then Value.int IntKind.i64 ((j : Int) + 1) else u70), (if listed.getD 2 false = true then Value.pointer (some ⟨blv, (j + 1), none⟩) else u71), (if listed.getD 3 false = true then Value.int IntKind.i64 (v) else u72), (if listed.getD 4 false = true then Value.slice (some (⟨blv, 0, none⟩)) 4 4 else u73), (if listed.getD 5 false = true then Value.int IntKind.i64 ((j : Int) + 1) else u74), (if listed.getD 6 false = true then Value.int IntKind.i64 ((j : Int)) else u75), (if listed.getD 7 false = true then Value.pointer (some ⟨blv, j, none⟩) else u76), (if listed.getD 8 false = true then Value.int IntKind.i64 (pv) else u77), (if listed.getD 9 false = true then Value.bool false else u78), u79, u80, u81, u82, u83, u84, u85, u86, u87, u88, u89, u90, u91, u92, u93, u94, u95, u96, undef, undef], []⟩) (hup_check (by kernel_rfl)) ?h0 ?step ?fin
          case h0 => exact ⟨(Below.refl _ _).drew, rfl⟩
          case step =>
            intro listed a' w' i hs hbi hdep hi ⟨IB, ha⟩
            obtain ⟨ls⟩ := listed
            match ls, hs with
            | [x0, x1, x2, x3, x4, x5, x6, x7, x8, x9], _ =>
            subst ha
            have hi' : i = 0 ∨ i = 1 ∨ i = 2 ∨ i = 3 ∨ i = 4 ∨ i = 5 ∨ i = 6 ∨ i = 7 ∨ i = 8 ∨ i = 9 := by simp at hi; omega
            rcases hi' with rfl | rfl | rfl | rfl | rfl | rfl | rfl | rfl | rfl | rfl
            · obtain rfl : x0 = false := by simpa using hbi
              refine wpOpIn_plain rfl rfl rfl ?_
              exact ⟨IB, rfl⟩
            · obtain rfl : x1 = false := by simpa using hbi
              refine wpOpIn_plain rfl rfl rfl ?_
              exact ⟨IB, rfl⟩
            · obtain rfl : x2 = false := by simpa using hbi
              obtain rfl : x0 = true := hdep _ rfl ⟨0, .data⟩ (by simp) rfl
              obtain rfl : x1 = true := hdep _ rfl ⟨1, .data⟩ (by simp) rfl
              refine wpOpIn_plain (v := Value.pointer (some ⟨blv, (j + 1), none⟩)) (w' := w') rfl rfl (by simp [Oper.semAt, execOp, go_sem, hbd1, hbd2, hbd3, hbd4]) ?_
              exact ⟨IB, rfl⟩
            · obtain rfl : x3 = false := by simpa using hbi
              obtain rfl : x2 = true := hdep _ rfl ⟨2, .data⟩ (by simp) rfl
              have c9 := kcell IB.out q1
              refine wpOpIn_plain (v := Value.int IntKind.i64 (v)) (w' := w') rfl rfl (by simp [Oper.semAt, execOp, go_sem, c9]) ?_
              exact ⟨IB, rfl⟩
            · obtain rfl : x4 = false := by simpa using hbi
              refine wpOpIn_plain rfl rfl rfl ?_
              exact ⟨IB, rfl⟩
            · obtain rfl : x5 = false := by simpa using hbi
              refine wpOpIn_plain rfl rfl rfl ?_
              exact ⟨IB, rfl⟩
            · obtain rfl : x6 = false := by simpa using hbi
              obtain rfl : x5 = true := hdep _ rfl ⟨5, .data⟩ (by simp) rfl
              refine wpOpIn_plain (v := Value.int IntKind.i64 ((j : Int))) (w' := w') rfl rfl (sem_bin (vx := Value.int IntKind.i64 ((j : Int) + 1)) (vy := Value.int IntKind.i64 (1)) rfl rfl rfl rfl (ESJ.out w')) ?_
              exact ⟨IB, rfl⟩
            · obtain rfl : x7 = false := by simpa using hbi
              obtain rfl : x4 = true := hdep _ rfl ⟨4, .data⟩ (by simp) rfl
              obtain rfl : x6 = true := hdep _ rfl ⟨6, .data⟩ (by simp) rfl
              refine wpOpIn_plain (v := Value.pointer (some ⟨blv, j, none⟩)) (w' := w') rfl rfl (by simp [Oper.semAt, execOp, go_sem, hbd5, hbd6]) ?_
              exact ⟨IB, rfl⟩
            · obtain rfl : x8 = false := by simpa using hbi
              obtain rfl : x7 = true := hdep _ rfl ⟨7, .data⟩ (by simp) rfl
              have c9 := kcell IB.out q0
              refine wpOpIn_plain (v := Value.int IntKind.i64 (pv)) (w' := w') rfl rfl (by simp [Oper.semAt, execOp, go_sem, c9]) ?_
              exact ⟨IB, rfl⟩
            · obtain rfl : x9 = false := by simpa using hbi
              obtain rfl : x3 = true := hdep _ rfl ⟨3, .data⟩ (by simp) rfl
              obtain rfl : x8 = true := hdep _ rfl ⟨8, .data⟩ (by simp) rfl
              refine wpOpIn_plain (v := Value.bool false) (w' := w') rfl rfl (by simp [Oper.semAt, execOp, go_sem, hq]) ?_
              exact ⟨IB, rfl⟩
          case fin =>
          intro listed a' w5 hs hall ⟨IB, ha⟩
          obtain ⟨ls⟩ := listed
          match ls, hs with
          | [x0, x1, x2, x3, x4, x5, x6, x7, x8, x9], _ =>
          obtain rfl : x0 = true := hall 0 (by simp)
          obtain rfl : x1 = true := hall 1 (by simp)
          obtain rfl : x2 = true := hall 2 (by simp)
          obtain rfl : x3 = true := hall 3 (by simp)
          obtain rfl : x4 = true := hall 4 (by simp)
          obtain rfl : x5 = true := hall 5 (by simp)
          obtain rfl : x6 = true := hall 6 (by simp)
          obtain rfl : x7 = true := hall 7 (by simp)
          obtain rfl : x8 = true := hall 8 (by simp)
          obtain rfl : x9 = true := hall 9 (by simp)
          subst ha
          have HZ5 : Hid (Below wo.heap.size wo w5) := IB
          clear IB hall hs
          dsimp only [Exit.then, Exit.inBlock]
          have HN : Hid (DrS w.heap.size (w.heap.size + 1) blv bcv w (.cells #[.int .i64 kind, .slice (some ⟨g, o, none⟩) 2 sc, .int .i64 hosts] 30 (0, 0)) (x :: S.map (·.1)) (0 :: S.map (·.2)) pa cv P C w5 ∧ pn = P.length ∧ P ++ (skipL ((x :: S.map (·.1)).getD (j + 1) 0) (S.drop (j + 1))).map (·.1) = x :: TL.map (·.1) ∧ C ++ (skipL ((x :: S.map (·.1)).getD (j + 1) 0) (S.drop (j + 1))).map (·.2) = TL.map (·.2)) := by
            obtain ⟨h1, h2, h3, h4⟩ := HI.out
            rw [HK.out.2, skipL, if_neg (by simp [hvp])] at h3 h4
            rw [HK.out.1]
            exact ⟨h1.keep HZ5.out, h2, h3, h4⟩
          clear HI HK q0 q1 q2 hji
          go_wp2_with fail
          clear hq hvp
          go_roundw
          case rel => exact ⟨pa, pn, pk, cv, j + 1, P, C, rfl, rfl, by go_num, by omega, HN⟩
          case measure => simp [intOf]; omega
        · have hq : (v != pv) = true := by simp [hvp]
          go_wp2_with fail
          refine (wpIn_wide (n := 0)).1 ?_
          refine region_det (by kernel_rfl) (I := fun listed a' w' => Hid (Below wo.heap.size wo w') ∧ a' = ⟨#[Value.agg #[Value.int IntKind.i64 kind, Value.slice (some (⟨g, o, none⟩)) 2 sc, Value.int IntKind.i64 hosts], Value.int IntKind.i64 x, Value.int IntKind.i64 y, Value.pointer (some (⟨w.heap.size, 0, none⟩)), undef, undef, Value.slice none 0 0, Value.slice none 0 0, Value.int IntKind.i64 gx, Value.int IntKind.i64 gy, Value.slice (some (⟨blv, 0, none⟩)) 4 4, Value.slice (some (⟨bcv, 0, none⟩)) 4 4, Value.int IntKind.i64 m, Value.slice pa pn pk, cv, Value.int IntKind.i64 ((j : Int) + 1), Value.int IntKind.i64 x, Value.pointer (some (⟨w.heap.size, 1, none⟩)), Value.slice (some (⟨g, o, none⟩)) 2 sc, Value.pointer (some (⟨g, o, none⟩)), Value.int IntKind.i64 a, Value.int IntKind.i64 gx, Value.int IntKind.i64 y, Value.pointer (some (⟨w.heap.size, 1, none⟩)), Value.slice (some (⟨g, o, none⟩)) 2 sc, Value.pointer (some (⟨g, o, none⟩)), Value.int IntKind.i64 a, Value.int IntKind.i64 gy, Value.int IntKind.i64 x, Value.int IntKind.i64 y, Value.slice (some (⟨w1.heap.size, 0, none⟩)) 2 2, Value.slice (some (⟨(w1.heap.size + 1), 0, none⟩)) 2 2, Value.int IntKind.i64 gx, Value.int IntKind.i64 gy, Value.bool true, Value.int IntKind.i64 gy, Value.int IntKind.i64 gx, Value.int IntKind.i64 (gy - gx), Value.int IntKind.i64 (gy - gx - 1), Value.agg #[Value.int IntKind.i64 kind, Value.slice (some (⟨g, o, none⟩)) 2 sc, Value.int IntKind.i64 hosts], Value.int IntKind.i64 G, Value.int IntKind.i64 (gy - gx - 1 + G), Value.agg #[Value.int IntKind.i64 kind, Value.slice (some (⟨g, o, none⟩)) 2 sc, Value.int IntKind.i64 hosts], Value.int IntKind.i64 G, Value.int IntKind.i64 m, Value.int IntKind.i64 x, Value.agg #[Value.int IntKind.i64 kind, Value.slice (some (⟨g, o, none⟩)) 2 sc, Value.int IntKind.i64 hosts], Value.int IntKind.i64 gx, Value.int IntKind.i64 m, Value.int IntKind.i64 p1, Value.agg #[Value.int IntKind.i64 kind, Value.slice (some (⟨g, o, none⟩)) 2 sc, Value.int IntKind.i64 hosts], Value.int IntKind.i64 gy, Value.agg #[Value.int IntKind.i64 kind, Value.slice (some (⟨g, o, none⟩)) 2 sc, Value.int IntKind.i64 hosts], Value.int IntKind.i64 G, Value.int IntKind.i64 (G - 2), Value.int IntKind.i64 m, Value.int IntKind.i64 (G - 2 - m), Value.int IntKind.i64 p2, Value.int IntKind.i64 y, Value.slice (some (⟨blv, 0, none⟩)) 4 4, Value.slice (some (⟨bcv, 0, none⟩)) 4 4, Value.slice (some (⟨blv, 0, none⟩)) 4 4, Value.slice (some (⟨blv, 0, none⟩)) 1 4, Value.int IntKind.i64 ((j : Int) + 1), Value.slice (some (⟨blv, 0, none⟩)) 4 4, Value.int IntKind.i64 4, Value.bool true, u67, u68, (if listed.getD 0 false = true then Value.slice (some (⟨blv, 0, none⟩)) 4 4 else u69), (if listed.getD 1 false = true then Value.int IntKind.i64 ((j : Int) + 1) else u70), (if listed.getD 2 false = true then Value.pointer (some ⟨blv, (j + 1), none⟩) else u71), (if listed.getD 3 false = true then Value.int IntKind.i64 (v) else u72), (if listed.getD 4 false = true then Value.slice (some (⟨blv, 0, none⟩)) 4 4 else u73), (if listed.getD 5 false = true then Value.int IntKind.i64 ((j : Int) + 1) else u74), (if listed.getD 6 false = true then Value.int IntKind.i64 ((j : Int)) else u75), (if listed.getD 7 false = true then Value.pointer (some ⟨blv, j, none⟩) else u76), (if listed.getD 8 false = true then Value.int IntKind.i64 (pv) else u77), (if listed.getD 9 false = true then Value.bool true else u78), u79, u80, u81, u82, u83, u84, u85, u86, u87, u88, u89, u90, u91, u92, u93, u94, u95, u96, undef, undef], []⟩) (hup_check (by kernel_rfl)) ?h0 ?step ?fin
          case h0 => exact ⟨(Below.refl _ _).drew, rfl⟩
          case step =>
            intro listed a' w' i hs hbi hdep hi ⟨IB, ha⟩
            obtain ⟨ls⟩ := listed
            match ls, hs with
            | [x0, x1, x2, x3, x4, x5, x6, x7, x8, x9], _ =>
            subst ha
            have hi' : i = 0 ∨ i = 1 ∨ i = 2 ∨ i = 3 ∨ i = 4 ∨ i = 5 ∨ i = 6 ∨ i = 7 ∨ i = 8 ∨ i = 9 := by simp at hi; omega
            rcases hi' with rfl | rfl | rfl | rfl | rfl | rfl | rfl | rfl | rfl | rfl
            · obtain rfl : x0 = false := by simpa using hbi
              refine wpOpIn_plain rfl rfl rfl ?_
              exact ⟨IB, rfl⟩
            · obtain rfl : x1 = false := by simpa using hbi
              refine wpOpIn_plain rfl rfl rfl ?_
              exact ⟨IB, rfl⟩
            · obtain rfl : x2 = false := by simpa using hbi
              obtain rfl : x0 = true := hdep _ rfl ⟨0, .data⟩ (by simp) rfl
              obtain rfl : x1 = true := hdep _ rfl ⟨1, .data⟩ (by simp) rfl
              refine wpOpIn_plain (v := Value.pointer (some ⟨blv, (j + 1), none⟩)) (w' := w') rfl rfl (by simp [Oper.semAt, execOp, go_sem, hbd1, hbd2, hbd3, hbd4]) ?_
              exact ⟨IB, rfl⟩
            · obtain rfl : x3 = false := by simpa using hbi
              obtain rfl : x2 = true := hdep _ rfl ⟨2, .data⟩ (by simp) rfl
              have c9 := kcell IB.out q1
              refine wpOpIn_plain (v := Value.int IntKind.i64 (v)) (w' := w') rfl rfl (by simp [Oper.semAt, execOp, go_sem, c9]) ?_
              exact ⟨IB, rfl⟩
            · obtain rfl : x4 = false := by simpa using hbi
              refine wpOpIn_plain rfl rfl rfl ?_
              exact ⟨IB, rfl⟩
            · obtain rfl : x5 = false := by simpa using hbi
              refine wpOpIn_plain rfl rfl rfl ?_
              exact ⟨IB, rfl⟩
            · obtain rfl : x6 = false := by simpa using hbi
              obtain rfl : x5 = true := hdep _ rfl ⟨5, .data⟩ (by simp) rfl
              refine wpOpIn_plain (v := Value.int IntKind.i64 ((j : Int))) (w' := w') rfl rfl (sem_bin (vx := Value.int IntKind.i64 ((j : Int) + 1)) (vy := Value.int IntKind.i64 (1)) rfl rfl rfl rfl (ESJ.out w')) ?_
              exact ⟨IB, rfl⟩
            · obtain rfl : x7 = false := by simpa using hbi
              obtain rfl : x4 = true := hdep _ rfl ⟨4, .data⟩ (by simp) rfl
              obtain rfl : x6 = true := hdep _ rfl ⟨6, .data⟩ (by simp) rfl
              refine wpOpIn_plain (v := Value.pointer (some ⟨blv, j, none⟩)) (w' := w') rfl rfl (by simp [Oper.semAt, execOp, go_sem, hbd5, hbd6]) ?_
              exact ⟨IB, rfl⟩
            · obtain rfl : x8 = false := by simpa using hbi
              obtain rfl : x7 = true := hdep _ rfl ⟨7, .data⟩ (by simp) rfl
              have c9 := kcell IB.out q0
              refine wpOpIn_plain (v := Value.int IntKind.i64 (pv)) (w' := w') rfl rfl (by simp [Oper.semAt, execOp, go_sem, c9]) ?_
              exact ⟨IB, rfl⟩
            · obtain rfl : x9 = false := by simpa using hbi
              obtain rfl : x3 = true := hdep _ rfl ⟨3, .data⟩ (by simp) rfl
              obtain rfl : x8 = true := hdep _ rfl ⟨8, .data⟩ (by simp) rfl
              refine wpOpIn_plain (v := Value.bool true) (w' := w') rfl rfl (by simp [Oper.semAt, execOp, go_sem, hq]) ?_
              exact ⟨IB, rfl⟩
          case fin =>
          intro listed a' w5 hs hall ⟨IB, ha⟩
          obtain ⟨ls⟩ := listed
          match ls, hs with
          | [x0, x1, x2, x3, x4, x5, x6, x7, x8, x9], _ =>
          obtain rfl : x0 = true := hall 0 (by simp)
          obtain rfl : x1 = true := hall 1 (by simp)
          obtain rfl : x2 = true := hall 2 (by simp)
          obtain rfl : x3 = true := hall 3 (by simp)
          obtain rfl : x4 = true := hall 4 (by simp)
          obtain rfl : x5 = true := hall 5 (by simp)
          obtain rfl : x6 = true := hall 6 (by simp)
          obtain rfl : x7 = true := hall 7 (by simp)
          obtain rfl : x8 = true := hall 8 (by simp)
          obtain rfl : x9 = true := hall 9 (by simp)
          subst ha
          have HZ5 : Hid (Below wo.heap.size wo w5) := IB
          clear IB hall hs
          dsimp only [Exit.then, Exit.inBlock]
          have HN : Hid (DrS w.heap.size (w.heap.size + 1) blv bcv w (.cells #[.int .i64 kind, .slice (some ⟨g, o, none⟩) 2 sc, .int .i64 hosts] 30 (0, 0)) (x :: S.map (·.1)) (0 :: S.map (·.2)) pa cv P C w5 ∧ pn = P.length ∧ P ++ v :: (skipL ((x :: S.map (·.1)).getD (j + 1) 0) (S.drop (j + 1))).map (·.1) = x :: TL.map (·.1) ∧ C ++ cl :: (skipL ((x :: S.map (·.1)).getD (j + 1) 0) (S.drop (j + 1))).map (·.2) = TL.map (·.2)) := by
            obtain ⟨h1, h2, h3, h4⟩ := HI.out
            rw [HK.out.2, skipL, if_pos hvp] at h3 h4
            rw [HK.out.1]
            exact ⟨h1.keep HZ5.out, h2, h3, h4⟩
          have Q1 : Hid (w5.cell? ⟨blv, j + 1, none⟩ = some (.int .i64 v) ∧ w5.cell? ⟨bcv, j + 1, none⟩ = some (.int .i64 cl)) := ⟨kcell HZ5.out q1, kcell HZ5.out q2⟩
          clear HI HK q0 q1 q2 hji
          go_wp2_with fail
          clear hq hvp
          have HPL : Hid (P.length ≤ 100) := by
            have h3 := congrArg List.length HN.out.2.2.1
            have h4 := HLN.out
            simp at h3
            show _ ≤ _
            omega
          refine (wpIn_wide (n := 0)).1 ?_
          refine region_det (by kernel_rfl) (I := fun listed a' w' => ∃ (b0 b1 : Nat) (v82 : Value) (b87 : Nat) (v88 v89 : Value), Hid (Below w5.heap.size w5 w') ∧ Hid (listed.getD 3 false = true → listed.getD 9 false = false → NewInts w5.heap.size w' v82 P) ∧ Hid (listed.getD 8 false = true → listed.getD 9 false = false → w'.heap[b87]? = some (.cells #[.int .i64 v] 3 (0, 0))) ∧ Hid (listed.getD 9 false = true → listed.getD 10 false = false → NewInts w5.heap.size w' v88 (P ++ [v])) ∧ Hid (listed.getD 10 false = true → NewInts w5.heap.size w' v89 (P ++ [v])) ∧ Hid (listed.getD 3 false = true → listed.getD 2 false = true) ∧ Hid (listed.getD 9 false = true → listed.getD 3 false = true) ∧ Hid (listed.getD 10 false = true → listed.getD 9 false = true) ∧ Hid (listed.getD 11 false = true → listed.getD 10 false = true) ∧ a' = ⟨#[Value.agg #[Value.int IntKind.i64 kind, Value.slice (some (⟨g, o, none⟩)) 2 sc, Value.int IntKind.i64 hosts], Value.int IntKind.i64 x, Value.int IntKind.i64 y, Value.pointer (some (⟨w.heap.size, 0, none⟩)), undef, undef, Value.slice none 0 0, Value.slice none 0 0, Value.int IntKind.i64 gx, Value.int IntKind.i64 gy, Value.slice (some (⟨blv, 0, none⟩)) 4 4, Value.slice (some (⟨bcv, 0, none⟩)) 4 4, Value.int IntKind.i64 m, (if listed.getD 11 false = true then v89 else Value.slice pa pn pk), cv, Value.int IntKind.i64 ((j : Int) + 1), Value.int IntKind.i64 x, Value.pointer (some (⟨w.heap.size, 1, none⟩)), Value.slice (some (⟨g, o, none⟩)) 2 sc, Value.pointer (some (⟨g, o, none⟩)), Value.int IntKind.i64 a, Value.int IntKind.i64 gx, Value.int IntKind.i64 y, Value.pointer (some (⟨w.heap.size, 1, none⟩)), Value.slice (some (⟨g, o, none⟩)) 2 sc, Value.pointer (some (⟨g, o, none⟩)), Value.int IntKind.i64 a, Value.int IntKind.i64 gy, Value.int IntKind.i64 x, Value.int IntKind.i64 y, Value.slice (some (⟨w1.heap.size, 0, none⟩)) 2 2, Value.slice (some (⟨(w1.heap.size + 1), 0, none⟩)) 2 2, Value.int IntKind.i64 gx, Value.int IntKind.i64 gy, Value.bool true, Value.int IntKind.i64 gy, Value.int IntKind.i64 gx, Value.int IntKind.i64 (gy - gx), Value.int IntKind.i64 (gy - gx - 1), Value.agg #[Value.int IntKind.i64 kind, Value.slice (some (⟨g, o, none⟩)) 2 sc, Value.int IntKind.i64 hosts], Value.int IntKind.i64 G, Value.int IntKind.i64 (gy - gx - 1 + G), Value.agg #[Value.int IntKind.i64 kind, Value.slice (some (⟨g, o, none⟩)) 2 sc, Value.int IntKind.i64 hosts], Value.int IntKind.i64 G, Value.int IntKind.i64 m, Value.int IntKind.i64 x, Value.agg #[Value.int IntKind.i64 kind, Value.slice (some (⟨g, o, none⟩)) 2 sc, Value.int IntKind.i64 hosts], Value.int IntKind.i64 gx, Value.int IntKind.i64 m, Value.int IntKind.i64 p1, Value.agg #[Value.int IntKind.i64 kind, Value.slice (some (⟨g, o, none⟩)) 2 sc, Value.int IntKind.i64 hosts], Value.int IntKind.i64 gy, Value.agg #[Value.int IntKind.i64 kind, Value.slice (some (⟨g, o, none⟩)) 2 sc, Value.int IntKind.i64 hosts], Value.int IntKind.i64 G, Value.int IntKind.i64 (G - 2), Value.int IntKind.i64 m, Value.int IntKind.i64 (G - 2 - m), Value.int IntKind.i64 p2, Value.int IntKind.i64 y, Value.slice (some (⟨blv, 0, none⟩)) 4 4, Value.slice (some (⟨bcv, 0, none⟩)) 4 4, Value.slice (some (⟨blv, 0, none⟩)) 4 4, Value.slice (some (⟨blv, 0, none⟩)) 1 4, Value.int IntKind.i64 ((j : Int) + 1), Value.slice (some (⟨blv, 0, none⟩)) 4 4, Value.int IntKind.i64 4, Value.bool true, u67, u68, Value.slice (some (⟨blv, 0, none⟩)) 4 4, Value.int IntKind.i64 ((j : Int) + 1), Value.pointer (some ⟨blv, (j + 1), none⟩), Value.int IntKind.i64 (v), Value.slice (some (⟨blv, 0, none⟩)) 4 4, Value.int IntKind.i64 ((j : Int) + 1), Value.int IntKind.i64 ((j : Int)), Value.pointer (some ⟨blv, j, none⟩), Value.int IntKind.i64 (pv), Value.bool true, (if listed.getD 0 false = true then Value.slice (some ⟨b0, 0, none⟩) 0 0 else u79), (if listed.getD 1 false = true then Value.slice (some ⟨b1, 0, none⟩) 0 0 else u80), (if listed.getD 2 false = true then Value.slice pa pn pk else u81), (if listed.getD 3 false = true then v82 else u82), (if listed.getD 4 false = true then Value.slice (some (⟨blv, 0, none⟩)) 4 4 else u83), (if listed.getD 5 false = true then Value.int IntKind.i64 ((j : Int) + 1) else u84), (if listed.getD 6 false = true then Value.pointer (some ⟨blv, (j + 1), none⟩) else u85), (if listed.getD 7 false = true then Value.int IntKind.i64 (v) else u86), (if listed.getD 8 false = true then Value.slice (some ⟨b87, 0, none⟩) 1 1 else u87), (if listed.getD 9 false = true then v88 else u88), (if listed.getD 10 false = true then v89 else u89), u90, u91, u92, u93, u94, u95, u96, undef, undef], []⟩) (hup_check (by kernel_rfl)) ?h0 ?step ?fin
          case h0 => exact ⟨0, 0, .slice none 0 0, 0, .slice none 0 0, .slice none 0 0, (Below.refl _ _).drew, (fun h => by simp at h), (fun h => by simp at h), (fun h => by simp at h), (fun h => by simp at h), (fun h => by simp at h), (fun h => by simp at h), (fun h => by simp at h), (fun h => by simp at h), rfl⟩
          case step =>
            intro listed a' w' i hs hbi hdep hi ⟨b0, b1, v82, b87, v88, v89, IB, A2, A8, A9, A10, J3, J9, J10, J11, ha⟩
            obtain ⟨ls⟩ := listed
            match ls, hs with
            | [x0, x1, x2, x3, x4, x5, x6, x7, x8, x9, x10, x11], _ =>
            subst ha
            have hi' : i = 0 ∨ i = 1 ∨ i = 2 ∨ i = 3 ∨ i = 4 ∨ i = 5 ∨ i = 6 ∨ i = 7 ∨ i = 8 ∨ i = 9 ∨ i = 10 ∨ i = 11 := by simp at hi; omega
            rcases hi' with rfl | rfl | rfl | rfl | rfl | rfl | rfl | rfl | rfl | rfl | rfl | rfl
            · obtain rfl : x0 = false := by simpa using hbi
              have hb : Below w'.heap.size w' (w'.alloc (.cells #[] 3)) := (Below.refl _ _).alloc (Nat.le_refl _) _
              refine wpOpIn_plain (v := Value.slice (some ⟨w'.heap.size, 0, none⟩) 0 0) (w' := w'.alloc (.cells #[] 3)) rfl rfl (by simp [Oper.semAt, execOp, go_sem]) ?_
              exact ⟨w'.heap.size, b1, v82, b87, v88, v89, (IB.out.trans (hb.mono IB.out.size)), (fun h h2 => (A2.out h h2).keep hb), (fun h h2 => (hb.block _ ((Array.getElem?_eq_some_iff.1 (A8.out h h2)).1)).trans (A8.out h h2)), (fun h h2 => (A9.out h h2).keep hb), (fun h => (A10.out h).keep hb), J3, J9, J10, J11, rfl⟩
            · obtain rfl : x1 = false := by simpa using hbi
              have hb : Below w'.heap.size w' (w'.alloc (.cells #[] 3)) := (Below.refl _ _).alloc (Nat.le_refl _) _
              refine wpOpIn_plain (v := Value.slice (some ⟨w'.heap.size, 0, none⟩) 0 0) (w' := w'.alloc (.cells #[] 3)) rfl rfl (by simp [Oper.semAt, execOp, go_sem]) ?_
              exact ⟨b0, w'.heap.size, v82, b87, v88, v89, (IB.out.trans (hb.mono IB.out.size)), (fun h h2 => (A2.out h h2).keep hb), (fun h h2 => (hb.block _ ((Array.getElem?_eq_some_iff.1 (A8.out h h2)).1)).trans (A8.out h h2)), (fun h h2 => (A9.out h h2).keep hb), (fun h => (A10.out h).keep hb), J3, J9, J10, J11, rfl⟩
            · obtain rfl : x2 = false := by simpa using hbi
              obtain rfl : x11 = false := Bool.eq_false_iff.2 fun h => by have := J3.out (J9.out (J10.out (J11.out h))); cases this
              refine wpOpIn_plain rfl rfl rfl ?_
              exact ⟨b0, b1, v82, b87, v88, v89, IB, A2, A8, A9, A10, (fun _ => rfl), J9, J10, J11, rfl⟩
            · obtain rfl : x3 = false := by simpa using hbi
              obtain rfl : x1 = true := hdep _ rfl ⟨1, .data⟩ (by simp) rfl
              obtain rfl : x2 = true := hdep _ rfl ⟨2, .data⟩ (by simp) rfl
              obtain ⟨v', w2, hr, hn, hb⟩ := app_fresh b1 (HN.out.1.pi.keep IB.out) HN.out.1.np (by have := HPL.out; omega) pk
              rw [← HN.out.2.1] at hr
              have hsz := IB.out.size
              refine wpOpIn_append rfl rfl (.tmp 80) (.tmp 81) 22 rfl rfl rfl hr ?_
              exact ⟨b0, b1, v', b87, v88, v89, (IB.out.trans (hb.mono IB.out.size)), (fun _ _ => ⟨own_lower hn.own hsz, hn.len⟩), (fun h h2 => (hb.block _ ((Array.getElem?_eq_some_iff.1 (A8.out h h2)).1)).trans (A8.out h h2)), (fun h h2 => (A9.out h h2).keep hb), (fun h => (A10.out h).keep hb), (fun _ => rfl), (fun _ => rfl), J10, J11, rfl⟩
            · obtain rfl : x4 = false := by simpa using hbi
              refine wpOpIn_plain rfl rfl rfl ?_
              exact ⟨b0, b1, v82, b87, v88, v89, IB, A2, A8, A9, A10, J3, J9, J10, J11, rfl⟩
            · obtain rfl : x5 = false := by simpa using hbi
              refine wpOpIn_plain rfl rfl rfl ?_
              exact ⟨b0, b1, v82, b87, v88, v89, IB, A2, A8, A9, A10, J3, J9, J10, J11, rfl⟩
            · obtain rfl : x6 = false := by simpa using hbi
              obtain rfl : x4 = true := hdep _ rfl ⟨4, .data⟩ (by simp) rfl
              obtain rfl : x5 = true := hdep _ rfl ⟨5, .data⟩ (by simp) rfl
              refine wpOpIn_plain (v := Value.pointer (some ⟨blv, (j + 1), none⟩)) (w' := w') rfl rfl (by simp [Oper.semAt, execOp, go_sem, hbd1, hbd2, hbd3, hbd4]) ?_
              exact ⟨b0, b1, v82, b87, v88, v89, IB, A2, A8, A9, A10, J3, J9, J10, J11, rfl⟩
            · obtain rfl : x7 = false := by simpa using hbi
              obtain rfl : x6 = true := hdep _ rfl ⟨6, .data⟩ (by simp) rfl
              have c9 := kcell IB.out Q1.out.1
              refine wpOpIn_plain (v := Value.int IntKind.i64 (v)) (w' := w') rfl rfl (by simp [Oper.semAt, execOp, go_sem, c9]) ?_
              exact ⟨b0, b1, v82, b87, v88, v89, IB, A2, A8, A9, A10, J3, J9, J10, J11, rfl⟩
            · obtain rfl : x8 = false := by simpa using hbi
              obtain rfl : x7 = true := hdep _ rfl ⟨7, .data⟩ (by simp) rfl
              have hb : Below w'.heap.size w' (w'.alloc (.cells #[.int .i64 v] 3)) := (Below.refl _ _).alloc (Nat.le_refl _) _
              refine wpOpIn_plain (v := Value.slice (some ⟨w'.heap.size, 0, none⟩) 1 1) (w' := w'.alloc (.cells #[.int .i64 v] 3)) rfl rfl (by simp [Oper.semAt, execOp, go_sem]) ?_
              exact ⟨b0, b1, v82, w'.heap.size, v88, v89, (IB.out.trans (hb.mono IB.out.size)), (fun h h2 => (A2.out h h2).keep hb), (fun _ _ => heap_alloc_new w' _), (fun h h2 => (A9.out h h2).keep hb), (fun h => (A10.out h).keep hb), J3, J9, J10, J11, rfl⟩
            · obtain rfl : x9 = false := by simpa using hbi
              obtain rfl : x3 = true := hdep _ rfl ⟨3, .data⟩ (by simp) rfl
              obtain rfl : x8 = true := hdep _ rfl ⟨8, .data⟩ (by simp) rfl
              obtain rfl : x10 = false := Bool.eq_false_iff.2 fun h => by have := J10.out h; cases this
              obtain ⟨v', w2, hr, hn, hb⟩ := appG (A2.out rfl rfl) (A8.out rfl rfl) (by have := HPL.out; omega) IB.out.size
              refine wpOpIn_append rfl rfl (.tmp 82) (.tmp 87) 22 rfl rfl rfl hr ?_
              exact ⟨b0, b1, v82, b87, v', v89, (IB.out.trans hb), (fun _ h => by cases h), (fun _ h => by cases h), (fun _ _ => hn), (fun h => by cases h), J3, (fun _ => rfl), (fun _ => rfl), J11, rfl⟩
            · obtain rfl : x10 = false := by simpa using hbi
              obtain rfl : x0 = true := hdep _ rfl ⟨0, .data⟩ (by simp) rfl
              obtain rfl : x9 = true := hdep _ rfl ⟨9, .data⟩ (by simp) rfl
              obtain rfl : x11 = false := Bool.eq_false_iff.2 fun h => by have := J11.out h; cases this
              have h9 := A9.out rfl rfl
              obtain ⟨a8, c8, hv8, hi8⟩ := h9.ints
              subst hv8
              obtain ⟨v', w2, hr, hn, hb⟩ := app_fresh b0 hi8 (by simp) (by have := HPL.out; simp; omega) c8
              have hsz := IB.out.size
              refine wpOpIn_append rfl rfl (.tmp 79) (.tmp 88) 22 rfl rfl rfl hr ?_
              exact ⟨b0, b1, v82, b87, _, v', (IB.out.trans (hb.mono IB.out.size)), (fun h h2 => (A2.out h h2).keep hb), (fun h h2 => (hb.block _ ((Array.getElem?_eq_some_iff.1 (A8.out h h2)).1)).trans (A8.out h h2)), (fun _ h => by cases h), (fun _ => ⟨own_lower hn.own hsz, hn.len⟩), J3, J9, (fun _ => rfl), (fun _ => rfl), rfl⟩
            · obtain rfl : x11 = false := by simpa using hbi
              obtain rfl : x10 = true := hdep _ rfl ⟨10, .data⟩ (by simp) rfl
              refine wpOpIn_plain rfl rfl rfl ?_
              exact ⟨b0, b1, v82, b87, v88, v89, IB, A2, A8, A9, A10, J3, J9, J10, (fun _ => rfl), rfl⟩
          case fin =>
          intro listed a' Z3 hs hall ⟨b0, b1, v82, b87, v88, v89, IB, A2, A8, A9, A10, J3, J9, J10, J11, ha⟩
          obtain ⟨ls⟩ := listed
          match ls, hs with
          | [x0, x1, x2, x3, x4, x5, x6, x7, x8, x9, x10, x11], _ =>
          obtain rfl : x0 = true := hall 0 (by simp)
          obtain rfl : x1 = true := hall 1 (by simp)
          obtain rfl : x2 = true := hall 2 (by simp)
          obtain rfl : x3 = true := hall 3 (by simp)
          obtain rfl : x4 = true := hall 4 (by simp)
          obtain rfl : x5 = true := hall 5 (by simp)
          obtain rfl : x6 = true := hall 6 (by simp)
          obtain rfl : x7 = true := hall 7 (by simp)
          obtain rfl : x8 = true := hall 8 (by simp)
          obtain rfl : x9 = true := hall 9 (by simp)
          obtain rfl : x10 = true := hall 10 (by simp)
          obtain rfl : x11 = true := hall 11 (by simp)
          subst ha
          obtain ⟨pa2, pk2, hv9, hD2⟩ := HN.out.1.path IB.out (A10.out rfl) (by simp)
          subst hv9
          have q5 := kcell IB.out Q1.out.2
          obtain ⟨cv2, w6, hr6, hD6⟩ := hD2.cls cl (by have h3 := congrArg List.length HN.out.2.2.2; have h4 := HLN.out; simp at h3; omega)
          have HR6 := Lib.hid hr6
          have HF := Lib.hid hD6
          clear IB A2 A8 A9 A10 hall hs hr6 hD6 hD2 Q1 HPL
          dsimp only [Exit.then, Exit.inBlock]
          obtain ⟨n2, hn2⟩ : ∃ n2, n2 = (P ++ [v]).length := ⟨_, rfl⟩
          have HN2 := Lib.hid hn2
          rw [← hn2]
          clear hn2
          go_wp2_with (at_builtin; refine Lib.wpList_append_run _ rfl (.tmp 90) (.tmp 95) 22 22 rfl _ _ rfl rfl _ _ HR6.out ?_)
          go_roundw
          case rel => exact ⟨pa2, n2, pk2, cv2, j + 1, P ++ [v], C ++ [cl], rfl, rfl, by go_num, by omega, HF.out, HN2.out, by rw [List.append_assoc]; exact HN.out.2.2.1, by rw [List.append_assoc]; exact HN.out.2.2.2⟩
          case measure => simp [intOf]; omega
      · have HR : Hid (pn = TL.length + 1 ∧ Ints wr pa (x :: TL.map (·.1)) ∧ NewInts w.heap.size wr cv (TL.map (·.2)) ∧ Below w.heap.size w wr) := by
          obtain ⟨h1, h2, h3, h4⟩ := HI.out
          have hd : S.drop j = [] := List.drop_eq_nil_of_le (by have := HSN.out.1; omega)
          rw [hd] at h3 h4
          simp only [skipL, List.map_nil, List.append_nil] at h3 h4
          subst h3; subst h4
          exact ⟨by rw [h2]; simp, h1.pi, ⟨own_lower h1.cc.own (by omega), h1.cc.len⟩, h1.bl⟩
        clear HI
        obtain ⟨hpn, HR2⟩ := HR.out
        clear HR
        have HR3 := Lib.hid HR2
        clear HR2
        go_wp2_with fail
        refine bodyPost_ret (v := .tuple #[.slice pa pn pk, cv]) (by simp [results, Try.results55]) rfl ⟨pa, pk, cv, by rw [hpn], HR3.out.1, HR3.out.2.1, HR3.out.2.2⟩
end Go.Proofs.Ytbhkenphcahifaa
