import Derived.Test.YtoloiingodigpaaQI
import Derived.Test.YtoloiingodigpaaQF
import Derived.Test.YtoloiingodigpaaQR
import Derived.Test.YtoloiingodigpaaQN
namespace Go.Proofs.Ytoloiingodigpaa
open Go.RowKit Go.Shelf
attribute [local go_sem] Oper.semAt_some litE
set_option maxRecDepth 100000
set_option maxHeartbeats 2000000

theorem Try.info43 : (Try.prog.info? 43).map (·.size) = some 2 := by kernel_rfl
theorem loadGridR {w : World} {b : Nat} {x y : Value} {fr : Nat × Nat} (h : w.heap[b]? = some (.cells #[x, y] 43 fr)) : (loadVar 43 ⟨b, 0, none⟩).run Try.prog w = .ok (.agg #[x, y]) w :=
  run_loadVar_row w b 43 43 _ _ _ h Try.underlying43 rfl Try.info43

/-- which dimensions part takes -/
def whatP (keep : List Bool) (what : Bool) (i : Nat) : Bool := keep.getD i false == what
/-- what part answers -/
def parS (p : Nat → Bool) (sizes : List Int) : List Int := if pickF p 0 sizes = [] then [1] else pickF p 0 sizes
def parW (p : Nat → Bool) (sizes : List Int) (wrap : List Bool) : List Bool := if pickF p 0 sizes = [] then [false] else pickB p 0 wrap
def parX (p : Nat → Bool) (sizes xs : List Int) : List Int := if pickF p 0 sizes = [] then [0] else pickF p 0 xs
theorem part_any {w : World} {sa wa ka aa : Option Addr} {sizes xs : List Int} {wrap keep : List Bool} (h : Ints w sa sizes) (hw : Bools w wa wrap) (hk : Bools w ka keep) (hx : Ints w aa xs) (hl1 : wrap.length = sizes.length) (hl2 : keep.length = sizes.length) (hl3 : xs.length = sizes.length) (hl4 : sizes.length ≤ 4) (sc vc kc xc : Nat) (what : Bool) :
    Calls Try.prog 93 #[.agg #[.slice sa sizes.length sc, .slice wa wrap.length vc], .slice ka keep.length kc, .bool what, .slice aa xs.length xc] w fun e w' => ∃ v1 v2 v3, e = .returned (.tuple #[.agg #[v1, v2], v3]) ∧
      NewInts w.heap.size w' v1 (parS (whatP keep what) sizes) ∧ NewBools w.heap.size w' v2 (parW (whatP keep what) sizes wrap) ∧
      NewInts w.heap.size w' v3 (parX (whatP keep what) sizes xs) ∧ Below w.heap.size w w' := by
  have hlen := h.len
  have hwlen := hw.len
  have hklen := hk.len
  have hxlen := hx.len
  have hb0 : Below w.heap.size w ((((w.alloc (.cells #[.slice sa sizes.length sc, .slice wa wrap.length vc] 43)).alloc (.cells #[.slice none 0 0, .slice none 0 0] 43)).alloc (.cells #[.slice none 0 0, .slice none 0 0] 43))) := (((Below.refl _ _).alloc (Nat.le_refl _) _).alloc (by simp) _).alloc (by simp; omega) _
  have hz0 : ((((w.alloc (.cells #[.slice sa sizes.length sc, .slice wa wrap.length vc] 43)).alloc (.cells #[.slice none 0 0, .slice none 0 0] 43)).alloc (.cells #[.slice none 0 0, .slice none 0 0] 43))).heap.size = w.heap.size + 3 := by simp
  obtain ⟨q0, q1, q2⟩ := alloc3 w (.cells #[.slice sa sizes.length sc, .slice wa wrap.length vc] 43) (.cells #[.slice none 0 0, .slice none 0 0] 43) (.cells #[.slice none 0 0, .slice none 0 0] 43)
  have H0 := Lib.hid (h.keep hb0)
  have H1 := Lib.hid (hw.keep hb0)
  have H2 := Lib.hid (hk.keep hb0)
  have K0 := Lib.hid h
  have K1 := Lib.hid hw
  have K2 := Lib.hid hk
  have K3 := Lib.hid hx
  have H3 := Lib.hid (hx.keep hb0)
  have L1 := Lib.hid hl1
  have L2 := Lib.hid hl2
  have L3 := Lib.hid hl3
  have HZ := Lib.hid hz0
  have HB0 := Lib.hid hb0
  have Q0 := Lib.hid q0
  have Q1 := Lib.hid q1
  have Q2 := Lib.hid q2
  obtain ⟨p, hp⟩ : ∃ p, p = whatP keep what := ⟨_, rfl⟩
  have HPp : Hid (∀ i, p i = (keep.getD i false == what)) := fun i => by rw [hp]; rfl
  rw [← hp]
  clear h hw hk hx hl1 hl2 hl3 hp hz0 hb0 q0 q1 q2
  go_enter Try.func93, Try.ntmps93
  go_wp2_with fail
  generalize (((w.alloc (.cells #[.slice sa sizes.length sc, .slice wa wrap.length vc] 43)).alloc (.cells #[.slice none 0 0, .slice none 0 0] 43)).alloc (.cells #[.slice none 0 0, .slice none 0 0] 43)) = w2 at *
  go_loopw [11, 12] (fun t i wr => ∃ (k : Nat) (v1 v2 v3 : Value) (R1 : List Int) (R2 : List Bool) (R3 : List Int), v3 = t ∧ k ≤ keep.length ∧ i = .int .i64 k ∧ Hid (wr.heap[w.heap.size + 2]? = some (.cells #[v1, v2] 43 (0, 0))) ∧ Hid (NewInts (w.heap.size + 3) wr v1 R1) ∧ Hid (NewBools (w.heap.size + 3) wr v2 R2) ∧ Hid (NewInts (w.heap.size + 3) wr v3 R3) ∧ Hid (Apart v1 v3) ∧ Hid (Below (w.heap.size + 2) w2 wr) ∧
      Hid (R1 ++ pickF p k (sizes.drop k) = pickF p 0 sizes) ∧ Hid (R2 ++ pickB p k (wrap.drop k) = pickB p 0 wrap) ∧ Hid (R3 ++ pickF p k (xs.drop k) = pickF p 0 xs) ∧ Hid (R1.length ≤ k ∧ R2.length = R1.length ∧ R3.length = R1.length)) (fun _ i _ => keep.length - (intOf i).toNat)
  case atStart =>
    exact ⟨0, .slice none 0 0, .slice none 0 0, .slice none 0 0, [], [], [], rfl, Nat.zero_le _, rfl, Q2, ⟨World.ownsRow_nil _ _ _ _, by simp⟩, ⟨World.ownsRow_nil _ _ _ _, by simp⟩, ⟨World.ownsRow_nil _ _ _ _, by simp⟩, (fun b hb => by cases hb), Below.refl _ _, rfl, rfl, rfl, ⟨Nat.le_refl _, rfl, rfl⟩⟩
  case round =>
  obtain ⟨k, v1, v2, v3, R1, R2, R3, rfl, hk, rfl, G0, N1, N2, N3, AP, HBr, E1, E2, E3, EL⟩ := hrel
  have hzr := HBr.out.size
  have hwr := HB0.out.trans (HBr.out.mono (by omega))
  have hz2 : w2.heap.size = w.heap.size + 3 := HZ.out
  by_cases hlt : k < keep.length
  · have hltS : k < sizes.length := by rw [← L2.out]; exact hlt
    have hltW : k < wrap.length := by rw [L1.out]; exact hltS
    have hltX : k < xs.length := by rw [L3.out]; exact hltS
    obtain ⟨g, off, ek, hck⟩ := (K2.out.keep hwr).at_ (ne_nil_of_lt hlt)
    subst ek
    have ck := hck k hlt
    clear hck
    have hpk := HPp.out k
    rw [show keep.getD k false = keep[k] by simp [List.getD, hlt]] at hpk
    cases hq : (keep[k] == what) with
    | true =>
      rw [hq] at hpk
      have HPK := Lib.hid hpk
      obtain ⟨ga, oa, ea, hca⟩ := K0.out.at_ (ne_nil_of_lt hltS)
      obtain ⟨gb, ob, eb, hcb⟩ := K1.out.at_ (ne_nil_of_lt hltW)
      obtain ⟨gc, oc, ec, hcc⟩ := K3.out.at_ (ne_nil_of_lt hltX)
      subst ea eb ec
      have ca := hca k hltS
      have cb := hcb k hltW
      have cc := hcc k hltX
      clear hca hcb hcc hpk
      have hga := block_lt_of_cell ca
      have hgb := block_lt_of_cell cb
      have hgc := block_lt_of_cell cc
      have HSK := Lib.hid (List.drop_eq_getElem_cons hltS)
      have HBK := Lib.hid (List.drop_eq_getElem_cons hltW)
      have HXK := Lib.hid (List.drop_eq_getElem_cons hltX)
      have i0 : (0 : Int) ≤ (k : Int) := by omega
      have i1 : (k : Int) < (sizes.length : Int) := by omega
      have i2 : (k : Int) < (wrap.length : Int) := by omega
      have i3 : (k : Int) < (xs.length : Int) := by omega
      generalize keep[k] = kk at *
      generalize sizes[k] = sk at *
      generalize wrap[k] = bk at *
      generalize xs[k] = xk at *
      go_wp2_with fail
      refine (wpIn_wide (n := 0)).1 ?_
      refine region_det (by kernel_rfl) (I := fun listed a' w' => ∃ (bA bB bC : Nat) (u1 u2 u3 : Value), Hid (Below (w.heap.size + 2) w2 w') ∧ Hid (w'.heap[w.heap.size + 2]? = some (.cells #[if listed.getD 26 false = true then u1 else v1, if listed.getD 28 false = true then u2 else v2] 43 (0, 0))) ∧ Hid (NewInts (w.heap.size + 3) w' (if listed.getD 8 false = true then u1 else v1) (if listed.getD 8 false = true then R1 ++ [sk] else R1)) ∧ Hid (NewBools (w.heap.size + 3) w' (if listed.getD 17 false = true then u2 else v2) (if listed.getD 17 false = true then R2 ++ [bk] else R2)) ∧ Hid (NewInts (w.heap.size + 3) w' (if listed.getD 24 false = true then u3 else v3) (if listed.getD 24 false = true then R3 ++ [xk] else R3)) ∧ Hid (Apart (if listed.getD 8 false = true then u1 else v1) (if listed.getD 24 false = true then u3 else v3)) ∧ Hid (listed.getD 7 false = true → listed.getD 8 false = true ∨ (w'.heap[bA]? = some (.cells #[.int .i64 sk] 3 (0, 0)) ∧ w.heap.size + 3 ≤ bA ∧ (if listed.getD 24 false = true then u3 else v3).ownBlock ≠ some bA)) ∧ Hid (listed.getD 16 false = true → listed.getD 17 false = true ∨ (w'.heap[bB]? = some (.cells #[.bool bk] 4 (0, 0)) ∧ w.heap.size + 3 ≤ bB)) ∧ Hid (listed.getD 23 false = true → listed.getD 24 false = true ∨ (w'.heap[bC]? = some (.cells #[.int .i64 xk] 3 (0, 0)) ∧ w.heap.size + 3 ≤ bC ∧ (if listed.getD 8 false = true then u1 else v1).ownBlock ≠ some bC)) ∧ Hid (listed.getD 8 false = true → listed.getD 1 false = true ∧ listed.getD 7 false = true) ∧ Hid (listed.getD 17 false = true → listed.getD 10 false = true ∧ listed.getD 16 false = true) ∧ Hid (listed.getD 24 false = true → listed.getD 18 false = true ∧ listed.getD 23 false = true) ∧ Hid (listed.getD 26 false = true → listed.getD 8 false = true) ∧ Hid (listed.getD 28 false = true → listed.getD 17 false = true) ∧ Hid (listed.getD 29 false = true → listed.getD 24 false = true) ∧ a' = ⟨#[Value.agg #[Value.slice (some ⟨ga, oa, none⟩) sizes.length sc, Value.slice (some ⟨gb, ob, none⟩) wrap.length vc], Value.slice (some ⟨g, off, none⟩) keep.length kc, Value.bool what, Value.slice (some ⟨gc, oc, none⟩) xs.length xc, Value.pointer (some ⟨w.heap.size, 0, none⟩), undef, undef, undef, Value.pointer (some ⟨w.heap.size + 1, 0, none⟩), Value.slice none 0 0, Value.pointer (some ⟨w.heap.size + 1 + 1, 0, none⟩), (if listed.getD 29 false = true then u3 else v3), Value.int IntKind.i64 ↑k, Value.int IntKind.i64 ↑k, Value.slice (some ⟨g, off, none⟩) keep.length kc, Value.int IntKind.i64 ↑keep.length, Value.bool true, u17, u18, Value.slice (some ⟨g, off, none⟩) keep.length kc, Value.int IntKind.i64 ↑k, Value.pointer (some ⟨g, off + k, none⟩), Value.bool kk, Value.bool what, Value.bool true, (if listed.getD 0 false = true then Value.pointer (some ⟨w.heap.size + 1 + 1, 0, none⟩) else u25), (if listed.getD 1 false = true then v1 else u26), (if listed.getD 2 false = true then Value.pointer (some ⟨w.heap.size, 0, none⟩) else u27), (if listed.getD 3 false = true then Value.slice (some ⟨ga, oa, none⟩) sizes.length sc else u28), (if listed.getD 4 false = true then Value.int IntKind.i64 ↑k else u29), (if listed.getD 5 false = true then Value.pointer (some ⟨ga, oa + k, none⟩) else u30), (if listed.getD 6 false = true then Value.int IntKind.i64 sk else u31), (if listed.getD 7 false = true then Value.slice (some ⟨bA, 0, none⟩) 1 1 else u32), (if listed.getD 8 false = true then u1 else u33), (if listed.getD 9 false = true then Value.pointer (some ⟨w.heap.size + 1 + 1, 1, none⟩) else u34), (if listed.getD 10 false = true then v2 else u35), (if listed.getD 11 false = true then Value.pointer (some ⟨w.heap.size, 1, none⟩) else u36), (if listed.getD 12 false = true then Value.slice (some ⟨gb, ob, none⟩) wrap.length vc else u37), (if listed.getD 13 false = true then Value.int IntKind.i64 ↑k else u38), (if listed.getD 14 false = true then Value.pointer (some ⟨gb, ob + k, none⟩) else u39), (if listed.getD 15 false = true then Value.bool bk else u40), (if listed.getD 16 false = true then Value.slice (some ⟨bB, 0, none⟩) 1 1 else u41), (if listed.getD 17 false = true then u2 else u42), (if listed.getD 18 false = true then v3 else u43), (if listed.getD 19 false = true then Value.slice (some ⟨gc, oc, none⟩) xs.length xc else u44), (if listed.getD 20 false = true then Value.int IntKind.i64 ↑k else u45), (if listed.getD 21 false = true then Value.pointer (some ⟨gc, oc + k, none⟩) else u46), (if listed.getD 22 false = true then Value.int IntKind.i64 xk else u47), (if listed.getD 23 false = true then Value.slice (some ⟨bC, 0, none⟩) 1 1 else u48), (if listed.getD 24 false = true then u3 else u49), (if listed.getD 25 false = true then Value.pointer (some ⟨w.heap.size + 1 + 1, 0, none⟩) else u50), (if listed.getD 27 false = true then Value.pointer (some ⟨w.heap.size + 1 + 1, 1, none⟩) else u51), undef, undef, undef, undef, undef, undef, undef, undef, undef], []⟩) (hup_check (by kernel_rfl)) ?h0 ?step ?fin
      have N1d : NewInts (w.heap.size + 3) wr.drew v1 R1 := ⟨N1.out.own, N1.out.len⟩
      have N2d : NewBools (w.heap.size + 3) wr.drew v2 R2 := ⟨N2.out.own, N2.out.len⟩
      have N3d : NewInts (w.heap.size + 3) wr.drew v3 R3 := ⟨N3.out.own, N3.out.len⟩
      case h0 => exact ⟨0, 0, 0, v1, v2, v3, Lib.hid HBr.out.drew, G0.out, (by show NewInts _ _ _ _; simpa using N1d), (by show NewBools _ _ _ _; simpa using N2d), (by show NewInts _ _ _ _; simpa using N3d), (by show Apart _ _; simpa using AP.out), fun h => by simp at h, fun h => by simp at h, fun h => by simp at h, fun h => by simp at h, fun h => by simp at h, fun h => by simp at h, fun h => by simp at h, fun h => by simp at h, fun h => by simp at h, rfl⟩
      case step =>
        intro listed a' w' i hs hbi hdep hi ⟨bA, bB, bC, u1, u2, u3, IB, IR, I1, I2, I3, IP, IA, IBB, IC, J8, J17, J24, J26, J28, J29, ha⟩
        obtain ⟨ls⟩ := listed
        match ls, hs with
        | [x0, x1, x2, x3, x4, x5, x6, x7, x8, x9, x10, x11, x12, x13, x14, x15, x16, x17, x18, x19, x20, x21, x22, x23, x24, x25, x26, x27, x28, x29], _ =>
        subst ha
        have hww := HB0.out.trans (IB.out.mono (by omega))
        have ca' := (hww.cell (p := ⟨ga, oa + k, none⟩) hga).trans ca
        have cb' := (hww.cell (p := ⟨gb, ob + k, none⟩) hgb).trans cb
        have cc' := (hww.cell (p := ⟨gc, oc + k, none⟩) hgc).trans cc
        have hrow := below_heapAt IB.out ⟨by omega, Q0.out⟩
        have cs0 := (cell_of_row _ w.heap.size 0 _ _ _ hrow).trans rfl
        have cs1 := (cell_of_row _ w.heap.size 1 _ _ _ hrow).trans rfl
        have hi' : i = 0 ∨ i = 1 ∨ i = 2 ∨ i = 3 ∨ i = 4 ∨ i = 5 ∨ i = 6 ∨ i = 7 ∨ i = 8 ∨ i = 9 ∨ i = 10 ∨ i = 11 ∨ i = 12 ∨ i = 13 ∨ i = 14 ∨ i = 15 ∨ i = 16 ∨ i = 17 ∨ i = 18 ∨ i = 19 ∨ i = 20 ∨ i = 21 ∨ i = 22 ∨ i = 23 ∨ i = 24 ∨ i = 25 ∨ i = 26 ∨ i = 27 ∨ i = 28 ∨ i = 29 := by simp at hi; omega
        rcases hi' with rfl | rfl | rfl | rfl | rfl | rfl | rfl | rfl | rfl | rfl | rfl | rfl | rfl | rfl | rfl | rfl | rfl | rfl | rfl | rfl | rfl | rfl | rfl | rfl | rfl | rfl | rfl | rfl | rfl | rfl
        · obtain rfl : x0 = false := by simpa using hbi
          refine wpOpIn_plain (v := Value.pointer (some ⟨w.heap.size + 1 + 1, 0, none⟩)) (w' := w') rfl rfl (by simp [Oper.semAt, execOp, go_sem, *]) ?_
          exact ⟨bA, bB, bC, u1, u2, u3, IB, IR, I1, I2, I3, IP, IA, IBB, IC, J8, J17, J24, J26, J28, J29, rfl⟩
        · obtain rfl : x1 = false := by simpa using hbi
          obtain rfl : x0 = true := hdep _ rfl ⟨0, .data⟩ (by simp) rfl
          obtain rfl : x8 = false := Bool.eq_false_iff.2 fun h => by have := (J8.out h).1; cases this
          obtain rfl : x26 = false := Bool.eq_false_iff.2 fun h => by have := J26.out h; cases this
          have cr := (cell_of_row _ (w.heap.size + 1 + 1) 0 _ _ _ IR.out).trans rfl
          refine wpOpIn_plain (v := v1) (w' := w') rfl rfl (by simp [Oper.semAt, execOp, go_sem, *]) ?_
          exact ⟨bA, bB, bC, u1, u2, u3, IB, IR, I1, I2, I3, IP, IA, IBB, IC, (fun h => by cases h), J17, J24, J26, J28, J29, rfl⟩
        · obtain rfl : x2 = false := by simpa using hbi
          refine wpOpIn_plain (v := Value.pointer (some ⟨w.heap.size, 0, none⟩)) (w' := w') rfl rfl (by simp [Oper.semAt, execOp, go_sem, *]) ?_
          exact ⟨bA, bB, bC, u1, u2, u3, IB, IR, I1, I2, I3, IP, IA, IBB, IC, J8, J17, J24, J26, J28, J29, rfl⟩
        · obtain rfl : x3 = false := by simpa using hbi
          obtain rfl : x2 = true := hdep _ rfl ⟨2, .data⟩ (by simp) rfl
          refine wpOpIn_plain (v := Value.slice (some ⟨ga, oa, none⟩) sizes.length sc) (w' := w') rfl rfl (by simp [Oper.semAt, execOp, go_sem, *]) ?_
          exact ⟨bA, bB, bC, u1, u2, u3, IB, IR, I1, I2, I3, IP, IA, IBB, IC, J8, J17, J24, J26, J28, J29, rfl⟩
        · obtain rfl : x4 = false := by simpa using hbi
          refine wpOpIn_plain rfl rfl rfl ?_
          exact ⟨bA, bB, bC, u1, u2, u3, IB, IR, I1, I2, I3, IP, IA, IBB, IC, J8, J17, J24, J26, J28, J29, rfl⟩
        · obtain rfl : x5 = false := by simpa using hbi
          obtain rfl : x3 = true := hdep _ rfl ⟨3, .data⟩ (by simp) rfl
          obtain rfl : x4 = true := hdep _ rfl ⟨4, .data⟩ (by simp) rfl
          refine wpOpIn_plain (v := Value.pointer (some ⟨ga, oa + k, none⟩)) (w' := w') rfl rfl (by simp [Oper.semAt, execOp, go_sem, *]) ?_
          exact ⟨bA, bB, bC, u1, u2, u3, IB, IR, I1, I2, I3, IP, IA, IBB, IC, J8, J17, J24, J26, J28, J29, rfl⟩
        · obtain rfl : x6 = false := by simpa using hbi
          obtain rfl : x5 = true := hdep _ rfl ⟨5, .data⟩ (by simp) rfl
          refine wpOpIn_plain (v := Value.int IntKind.i64 sk) (w' := w') rfl rfl (by simp [Oper.semAt, execOp, go_sem, *]) ?_
          exact ⟨bA, bB, bC, u1, u2, u3, IB, IR, I1, I2, I3, IP, IA, IBB, IC, J8, J17, J24, J26, J28, J29, rfl⟩
        · obtain rfl : x7 = false := by simpa using hbi
          obtain rfl : x6 = true := hdep _ rfl ⟨6, .data⟩ (by simp) rfl
          obtain rfl : x8 = false := Bool.eq_false_iff.2 fun h => by have := (J8.out h).2; cases this
          have hsz := IB.out.size
          have hal := (Below.refl w'.heap.size w').alloc (Nat.le_refl _) (.cells #[Value.int .i64 sk] 3)
          refine wpOpIn_plain (v := Value.slice (some ⟨w'.heap.size, 0, none⟩) 1 1) (w' := w'.alloc (.cells #[Value.int .i64 sk] 3)) rfl rfl (by simp [Oper.semAt, execOp, go_sem, *]) ?_
          exact ⟨w'.heap.size, bB, bC, u1, u2, u3, (IB.out.alloc (by omega) _), ((hal.block _ (Array.getElem?_eq_some_iff.1 IR.out).1).trans IR.out), (I1.out.keep hal), (I2.out.keep hal), (I3.out.keep hal), IP, (fun _ => .inr ⟨heap_alloc_new w' _, by omega, fun e => by have := (I3.out.own.lt _ e).2; omega⟩), (fun h => (IBB.out h).imp id fun q => ⟨(hal.block _ (Array.getElem?_eq_some_iff.1 q.1).1).trans q.1, q.2⟩), (fun h => (IC.out h).imp id fun q => ⟨(hal.block _ (Array.getElem?_eq_some_iff.1 q.1).1).trans q.1, q.2⟩), (fun h => by cases h), J17, J24, J26, J28, J29, rfl⟩
        · obtain rfl : x8 = false := by simpa using hbi
          obtain rfl : x1 = true := hdep _ rfl ⟨1, .data⟩ (by simp) rfl
          obtain rfl : x7 = true := hdep _ rfl ⟨7, .data⟩ (by simp) rfl
          obtain rfl : x26 = false := Bool.eq_false_iff.2 fun h => by have := J26.out h; cases this
          have hsz := IB.out.size
          have i1 : NewInts (w.heap.size + 3) w' v1 R1 := I1.out
          have hA := (IA.out rfl).resolve_left (fun h => by cases h)
          obtain ⟨v', w1, hrun, n1, hgrow, hor⟩ := append1 i1 (by have := EL.out; omega) hA.1 (by omega)
          refine wpOpIn_append rfl rfl _ _ 22 rfl (vs := v1) (vx := Value.slice (some ⟨bA, 0, none⟩) 1 1) rfl rfl hrun ?_
          have hlt9 : ∀ {b : Nat} {o : Obj}, w'.heap[b]? = some o → b < w'.heap.size := fun h => (Array.getElem?_eq_some_iff.1 h).1
          exact ⟨bA, bB, bC, v', u2, u3, (IB.out.grown hgrow (by omega) (fun kk hkk => by have := (i1.own.lt kk hkk).1; omega)), ((hgrow.block _ (hlt9 IR.out) (fun e => by have := (i1.own.lt _ e.symm).1; omega)).trans IR.out), n1, ⟨own_grownE I2.out.own hgrow (own_types I2.out.own i1.own (by decide)), I2.out.len⟩, ⟨own_grownE I3.out.own hgrow (fun b hb e0 => IP.out b e0.symm hb), I3.out.len⟩, (apart_grow_l IP.out hor I3.out.own), (fun _ => .inl rfl), (fun h => (IBB.out h).imp id fun q => ⟨(hgrow.block _ (hlt9 q.1) (fun e => own_not i1.own q.1 (by decide) e.symm)).trans q.1, q.2⟩), (fun h => (IC.out h).imp id fun q => ⟨(hgrow.block _ (hlt9 q.1) (fun e => q.2.2 e.symm)).trans q.1, q.2.1, own_grow_ne q.2.2 hor q.1⟩), (fun _ => ⟨rfl, rfl⟩), J17, J24, (fun h => by cases h), J28, J29, rfl⟩
        · obtain rfl : x9 = false := by simpa using hbi
          refine wpOpIn_plain (v := Value.pointer (some ⟨w.heap.size + 1 + 1, 1, none⟩)) (w' := w') rfl rfl (by simp [Oper.semAt, execOp, go_sem, *]) ?_
          exact ⟨bA, bB, bC, u1, u2, u3, IB, IR, I1, I2, I3, IP, IA, IBB, IC, J8, J17, J24, J26, J28, J29, rfl⟩
        · obtain rfl : x10 = false := by simpa using hbi
          obtain rfl : x9 = true := hdep _ rfl ⟨9, .data⟩ (by simp) rfl
          obtain rfl : x17 = false := Bool.eq_false_iff.2 fun h => by have := (J17.out h).1; cases this
          obtain rfl : x28 = false := Bool.eq_false_iff.2 fun h => by have := J28.out h; cases this
          have cr := (cell_of_row _ (w.heap.size + 1 + 1) 1 _ _ _ IR.out).trans rfl
          refine wpOpIn_plain (v := v2) (w' := w') rfl rfl (by simp [Oper.semAt, execOp, go_sem, *]) ?_
          exact ⟨bA, bB, bC, u1, u2, u3, IB, IR, I1, I2, I3, IP, IA, IBB, IC, J8, (fun h => by cases h), J24, J26, J28, J29, rfl⟩
        · obtain rfl : x11 = false := by simpa using hbi
          refine wpOpIn_plain (v := Value.pointer (some ⟨w.heap.size, 1, none⟩)) (w' := w') rfl rfl (by simp [Oper.semAt, execOp, go_sem, *]) ?_
          exact ⟨bA, bB, bC, u1, u2, u3, IB, IR, I1, I2, I3, IP, IA, IBB, IC, J8, J17, J24, J26, J28, J29, rfl⟩
        · obtain rfl : x12 = false := by simpa using hbi
          obtain rfl : x11 = true := hdep _ rfl ⟨11, .data⟩ (by simp) rfl
          refine wpOpIn_plain (v := Value.slice (some ⟨gb, ob, none⟩) wrap.length vc) (w' := w') rfl rfl (by simp [Oper.semAt, execOp, go_sem, *]) ?_
          exact ⟨bA, bB, bC, u1, u2, u3, IB, IR, I1, I2, I3, IP, IA, IBB, IC, J8, J17, J24, J26, J28, J29, rfl⟩
        · obtain rfl : x13 = false := by simpa using hbi
          refine wpOpIn_plain rfl rfl rfl ?_
          exact ⟨bA, bB, bC, u1, u2, u3, IB, IR, I1, I2, I3, IP, IA, IBB, IC, J8, J17, J24, J26, J28, J29, rfl⟩
        · obtain rfl : x14 = false := by simpa using hbi
          obtain rfl : x12 = true := hdep _ rfl ⟨12, .data⟩ (by simp) rfl
          obtain rfl : x13 = true := hdep _ rfl ⟨13, .data⟩ (by simp) rfl
          refine wpOpIn_plain (v := Value.pointer (some ⟨gb, ob + k, none⟩)) (w' := w') rfl rfl (by simp [Oper.semAt, execOp, go_sem, *]) ?_
          exact ⟨bA, bB, bC, u1, u2, u3, IB, IR, I1, I2, I3, IP, IA, IBB, IC, J8, J17, J24, J26, J28, J29, rfl⟩
        · obtain rfl : x15 = false := by simpa using hbi
          obtain rfl : x14 = true := hdep _ rfl ⟨14, .data⟩ (by simp) rfl
          refine wpOpIn_plain (v := Value.bool bk) (w' := w') rfl rfl (by simp [Oper.semAt, execOp, go_sem, *]) ?_
          exact ⟨bA, bB, bC, u1, u2, u3, IB, IR, I1, I2, I3, IP, IA, IBB, IC, J8, J17, J24, J26, J28, J29, rfl⟩
        · obtain rfl : x16 = false := by simpa using hbi
          obtain rfl : x15 = true := hdep _ rfl ⟨15, .data⟩ (by simp) rfl
          obtain rfl : x17 = false := Bool.eq_false_iff.2 fun h => by have := (J17.out h).2; cases this
          have hsz := IB.out.size
          have hal := (Below.refl w'.heap.size w').alloc (Nat.le_refl _) (.cells #[Value.bool bk] 4)
          refine wpOpIn_plain (v := Value.slice (some ⟨w'.heap.size, 0, none⟩) 1 1) (w' := w'.alloc (.cells #[Value.bool bk] 4)) rfl rfl (by simp [Oper.semAt, execOp, go_sem, *]) ?_
          exact ⟨bA, w'.heap.size, bC, u1, u2, u3, (IB.out.alloc (by omega) _), ((hal.block _ (Array.getElem?_eq_some_iff.1 IR.out).1).trans IR.out), (I1.out.keep hal), (I2.out.keep hal), (I3.out.keep hal), IP, (fun h => (IA.out h).imp id fun q => ⟨(hal.block _ (Array.getElem?_eq_some_iff.1 q.1).1).trans q.1, q.2⟩), (fun _ => .inr ⟨heap_alloc_new w' _, by omega⟩), (fun h => (IC.out h).imp id fun q => ⟨(hal.block _ (Array.getElem?_eq_some_iff.1 q.1).1).trans q.1, q.2⟩), J8, (fun h => by cases h), J24, J26, J28, J29, rfl⟩
        · obtain rfl : x17 = false := by simpa using hbi
          obtain rfl : x10 = true := hdep _ rfl ⟨10, .data⟩ (by simp) rfl
          obtain rfl : x16 = true := hdep _ rfl ⟨16, .data⟩ (by simp) rfl
          obtain rfl : x28 = false := Bool.eq_false_iff.2 fun h => by have := J28.out h; cases this
          have hsz := IB.out.size
          have i1 : NewBools (w.heap.size + 3) w' v2 R2 := I2.out
          have hA := (IBB.out rfl).resolve_left (fun h => by cases h)
          have hcl := World.news_of_block (cs := #[Value.bool bk]) hA.1 0 (.bool bk) rfl
          obtain ⟨v', w1, hrun, n1, hgrow⟩ := append_bool i1.own bk ⟨bB, 0, none⟩ hcl (by have := EL.out; omega) (by omega)
          refine wpOpIn_append rfl rfl _ _ 40 rfl (vs := v2) (vx := Value.slice (some ⟨bB, 0, none⟩) 1 1) rfl rfl hrun ?_
          have hlt9 : ∀ {b : Nat} {o : Obj}, w'.heap[b]? = some o → b < w'.heap.size := fun h => (Array.getElem?_eq_some_iff.1 h).1
          exact ⟨bA, bB, bC, u1, v', u3, (IB.out.grown hgrow (by omega) (fun kk hkk => by have := (i1.own.lt kk hkk).1; omega)), ((hgrow.block _ (hlt9 IR.out) (fun e => by have := (i1.own.lt _ e.symm).1; omega)).trans IR.out), ⟨own_grownE I1.out.own hgrow (own_types I1.out.own i1.own (by decide)), I1.out.len⟩, (show NewBools _ _ v' (R2 ++ [bk]) from ⟨by simpa using n1, by have := EL.out; simp; omega⟩), ⟨own_grownE I3.out.own hgrow (own_types I3.out.own i1.own (by decide)), I3.out.len⟩, IP, (fun h => (IA.out h).imp id fun q => ⟨(hgrow.block _ (hlt9 q.1) (fun e => own_not i1.own q.1 (by decide) e.symm)).trans q.1, q.2⟩), (fun _ => .inl rfl), (fun h => (IC.out h).imp id fun q => ⟨(hgrow.block _ (hlt9 q.1) (fun e => own_not i1.own q.1 (by decide) e.symm)).trans q.1, q.2⟩), J8, (fun _ => ⟨rfl, rfl⟩), J24, J26, (fun h => by cases h), J29, rfl⟩
        · obtain rfl : x18 = false := by simpa using hbi
          obtain rfl : x24 = false := Bool.eq_false_iff.2 fun h => by have := (J24.out h).1; cases this
          obtain rfl : x29 = false := Bool.eq_false_iff.2 fun h => by have := J29.out h; cases this
          refine wpOpIn_plain rfl rfl rfl ?_
          exact ⟨bA, bB, bC, u1, u2, u3, IB, IR, I1, I2, I3, IP, IA, IBB, IC, J8, J17, (fun h => by cases h), J26, J28, J29, rfl⟩
        · obtain rfl : x19 = false := by simpa using hbi
          refine wpOpIn_plain rfl rfl rfl ?_
          exact ⟨bA, bB, bC, u1, u2, u3, IB, IR, I1, I2, I3, IP, IA, IBB, IC, J8, J17, J24, J26, J28, J29, rfl⟩
        · obtain rfl : x20 = false := by simpa using hbi
          refine wpOpIn_plain rfl rfl rfl ?_
          exact ⟨bA, bB, bC, u1, u2, u3, IB, IR, I1, I2, I3, IP, IA, IBB, IC, J8, J17, J24, J26, J28, J29, rfl⟩
        · obtain rfl : x21 = false := by simpa using hbi
          obtain rfl : x19 = true := hdep _ rfl ⟨19, .data⟩ (by simp) rfl
          obtain rfl : x20 = true := hdep _ rfl ⟨20, .data⟩ (by simp) rfl
          refine wpOpIn_plain (v := Value.pointer (some ⟨gc, oc + k, none⟩)) (w' := w') rfl rfl (by simp [Oper.semAt, execOp, go_sem, *]) ?_
          exact ⟨bA, bB, bC, u1, u2, u3, IB, IR, I1, I2, I3, IP, IA, IBB, IC, J8, J17, J24, J26, J28, J29, rfl⟩
        · obtain rfl : x22 = false := by simpa using hbi
          obtain rfl : x21 = true := hdep _ rfl ⟨21, .data⟩ (by simp) rfl
          refine wpOpIn_plain (v := Value.int IntKind.i64 xk) (w' := w') rfl rfl (by simp [Oper.semAt, execOp, go_sem, *]) ?_
          exact ⟨bA, bB, bC, u1, u2, u3, IB, IR, I1, I2, I3, IP, IA, IBB, IC, J8, J17, J24, J26, J28, J29, rfl⟩
        · obtain rfl : x23 = false := by simpa using hbi
          obtain rfl : x22 = true := hdep _ rfl ⟨22, .data⟩ (by simp) rfl
          obtain rfl : x24 = false := Bool.eq_false_iff.2 fun h => by have := (J24.out h).2; cases this
          have hsz := IB.out.size
          have hal := (Below.refl w'.heap.size w').alloc (Nat.le_refl _) (.cells #[Value.int .i64 xk] 3)
          refine wpOpIn_plain (v := Value.slice (some ⟨w'.heap.size, 0, none⟩) 1 1) (w' := w'.alloc (.cells #[Value.int .i64 xk] 3)) rfl rfl (by simp [Oper.semAt, execOp, go_sem, *]) ?_
          exact ⟨bA, bB, w'.heap.size, u1, u2, u3, (IB.out.alloc (by omega) _), ((hal.block _ (Array.getElem?_eq_some_iff.1 IR.out).1).trans IR.out), (I1.out.keep hal), (I2.out.keep hal), (I3.out.keep hal), IP, (fun h => (IA.out h).imp id fun q => ⟨(hal.block _ (Array.getElem?_eq_some_iff.1 q.1).1).trans q.1, q.2⟩), (fun h => (IBB.out h).imp id fun q => ⟨(hal.block _ (Array.getElem?_eq_some_iff.1 q.1).1).trans q.1, q.2⟩), (fun _ => .inr ⟨heap_alloc_new w' _, by omega, fun e => by have := (I1.out.own.lt _ e).2; omega⟩), J8, J17, (fun h => by cases h), J26, J28, J29, rfl⟩
        · obtain rfl : x24 = false := by simpa using hbi
          obtain rfl : x18 = true := hdep _ rfl ⟨18, .data⟩ (by simp) rfl
          obtain rfl : x23 = true := hdep _ rfl ⟨23, .data⟩ (by simp) rfl
          obtain rfl : x29 = false := Bool.eq_false_iff.2 fun h => by have := J29.out h; cases this
          have hsz := IB.out.size
          have i1 : NewInts (w.heap.size + 3) w' v3 R3 := I3.out
          have hA := (IC.out rfl).resolve_left (fun h => by cases h)
          obtain ⟨v', w1, hrun, n1, hgrow, hor⟩ := append1 i1 (by have := EL.out; omega) hA.1 (by omega)
          refine wpOpIn_append rfl rfl _ _ 22 rfl (vs := v3) (vx := Value.slice (some ⟨bC, 0, none⟩) 1 1) rfl rfl hrun ?_
          have hlt9 : ∀ {b : Nat} {o : Obj}, w'.heap[b]? = some o → b < w'.heap.size := fun h => (Array.getElem?_eq_some_iff.1 h).1
          exact ⟨bA, bB, bC, u1, u2, v', (IB.out.grown hgrow (by omega) (fun kk hkk => by have := (i1.own.lt kk hkk).1; omega)), ((hgrow.block _ (hlt9 IR.out) (fun e => by have := (i1.own.lt _ e.symm).1; omega)).trans IR.out), ⟨own_grownE I1.out.own hgrow (fun b hb e0 => IP.out b hb e0.symm), I1.out.len⟩, ⟨own_grownE I2.out.own hgrow (own_types I2.out.own i1.own (by decide)), I2.out.len⟩, n1, (apart_grow_r IP.out hor I1.out.own), (fun h => (IA.out h).imp id fun q => ⟨(hgrow.block _ (hlt9 q.1) (fun e => q.2.2 e.symm)).trans q.1, q.2.1, own_grow_ne q.2.2 hor q.1⟩), (fun h => (IBB.out h).imp id fun q => ⟨(hgrow.block _ (hlt9 q.1) (fun e => own_not i1.own q.1 (by decide) e.symm)).trans q.1, q.2⟩), (fun _ => .inl rfl), J8, J17, (fun _ => ⟨rfl, rfl⟩), J26, J28, (fun h => by cases h), rfl⟩
        · obtain rfl : x25 = false := by simpa using hbi
          refine wpOpIn_plain (v := Value.pointer (some ⟨w.heap.size + 1 + 1, 0, none⟩)) (w' := w') rfl rfl (by simp [Oper.semAt, execOp, go_sem, *]) ?_
          exact ⟨bA, bB, bC, u1, u2, u3, IB, IR, I1, I2, I3, IP, IA, IBB, IC, J8, J17, J24, J26, J28, J29, rfl⟩
        · obtain rfl : x26 = false := by simpa using hbi
          obtain rfl : x25 = true := hdep _ rfl ⟨25, .data⟩ (by simp) rfl
          obtain rfl : x8 = true := hdep _ rfl ⟨8, .data⟩ (by simp) rfl
          have i1 : NewInts (w.heap.size + 3) w' u1 (R1 ++ [sk]) := I1.out
          obtain ⟨ua, uc, eu, _⟩ := i1.ints
          subst eu
          clear i1
          have cr := (cell_of_row _ (w.heap.size + 1 + 1) 0 _ _ _ IR.out).trans rfl
          have fz := frozen_of_row _ (w.heap.size + 1 + 1) 0 _ _ IR.out
          have lt := (Array.getElem?_eq_some_iff.1 IR.out).1
          refine wpOpIn_skip (w' := w'.setCell ⟨w.heap.size + 1 + 1, 0, none⟩ (Value.slice ua (R1 ++ [sk]).length uc)) rfl rfl (by simp [Oper.semAt, execOp, go_sem, *]) ?_
          exact ⟨bA, bB, bC, (Value.slice ua (R1 ++ [sk]).length uc), u2, u3, (IB.out.setCell (p := ⟨w.heap.size + 1 + 1, 0, none⟩) (by show w.heap.size + 2 ≤ w.heap.size + 1 + 1; omega) _), ((heap_setCell_same w' (w.heap.size + 1 + 1) 0 _ 43 _ IR.out).trans rfl), (I1.out.set (w.heap.size + 1 + 1) 0 _ (by omega)), (I2.out.set (w.heap.size + 1 + 1) 0 _ (by omega)), (I3.out.set (w.heap.size + 1 + 1) 0 _ (by omega)), IP, (fun h => (IA.out h).imp id fun q => ⟨(heap_setCell_other _ _ _ _ (show bA ≠ w.heap.size + 1 + 1 by first | exact (fun e => by have := q.2; omega) | exact (fun e => by have := q.2.1; omega))).trans q.1, q.2⟩), (fun h => (IBB.out h).imp id fun q => ⟨(heap_setCell_other _ _ _ _ (show bB ≠ w.heap.size + 1 + 1 by first | exact (fun e => by have := q.2; omega) | exact (fun e => by have := q.2.1; omega))).trans q.1, q.2⟩), (fun h => (IC.out h).imp id fun q => ⟨(heap_setCell_other _ _ _ _ (show bC ≠ w.heap.size + 1 + 1 by first | exact (fun e => by have := q.2; omega) | exact (fun e => by have := q.2.1; omega))).trans q.1, q.2⟩), J8, J17, J24, (fun _ => rfl), J28, J29, rfl⟩
        · obtain rfl : x27 = false := by simpa using hbi
          refine wpOpIn_plain (v := Value.pointer (some ⟨w.heap.size + 1 + 1, 1, none⟩)) (w' := w') rfl rfl (by simp [Oper.semAt, execOp, go_sem, *]) ?_
          exact ⟨bA, bB, bC, u1, u2, u3, IB, IR, I1, I2, I3, IP, IA, IBB, IC, J8, J17, J24, J26, J28, J29, rfl⟩
        · obtain rfl : x28 = false := by simpa using hbi
          obtain rfl : x27 = true := hdep _ rfl ⟨27, .data⟩ (by simp) rfl
          obtain rfl : x17 = true := hdep _ rfl ⟨17, .data⟩ (by simp) rfl
          have i1 : NewBools (w.heap.size + 3) w' u2 (R2 ++ [bk]) := I2.out
          obtain ⟨ua, uc, eu, _⟩ := i1.bools
          subst eu
          clear i1
          have cr := (cell_of_row _ (w.heap.size + 1 + 1) 1 _ _ _ IR.out).trans rfl
          have fz := frozen_of_row _ (w.heap.size + 1 + 1) 1 _ _ IR.out
          have lt := (Array.getElem?_eq_some_iff.1 IR.out).1
          refine wpOpIn_skip (w' := w'.setCell ⟨w.heap.size + 1 + 1, 1, none⟩ (Value.slice ua (R2 ++ [bk]).length uc)) rfl rfl (by simp [Oper.semAt, execOp, go_sem, *]) ?_
          exact ⟨bA, bB, bC, u1, (Value.slice ua (R2 ++ [bk]).length uc), u3, (IB.out.setCell (p := ⟨w.heap.size + 1 + 1, 1, none⟩) (by show w.heap.size + 2 ≤ w.heap.size + 1 + 1; omega) _), ((heap_setCell_same w' (w.heap.size + 1 + 1) 1 _ 43 _ IR.out).trans rfl), (I1.out.set (w.heap.size + 1 + 1) 1 _ (by omega)), (I2.out.set (w.heap.size + 1 + 1) 1 _ (by omega)), (I3.out.set (w.heap.size + 1 + 1) 1 _ (by omega)), IP, (fun h => (IA.out h).imp id fun q => ⟨(heap_setCell_other _ _ _ _ (show bA ≠ w.heap.size + 1 + 1 by first | exact (fun e => by have := q.2; omega) | exact (fun e => by have := q.2.1; omega))).trans q.1, q.2⟩), (fun h => (IBB.out h).imp id fun q => ⟨(heap_setCell_other _ _ _ _ (show bB ≠ w.heap.size + 1 + 1 by first | exact (fun e => by have := q.2; omega) | exact (fun e => by have := q.2.1; omega))).trans q.1, q.2⟩), (fun h => (IC.out h).imp id fun q => ⟨(heap_setCell_other _ _ _ _ (show bC ≠ w.heap.size + 1 + 1 by first | exact (fun e => by have := q.2; omega) | exact (fun e => by have := q.2.1; omega))).trans q.1, q.2⟩), J8, J17, J24, J26, (fun _ => rfl), J29, rfl⟩
        · obtain rfl : x29 = false := by simpa using hbi
          obtain rfl : x24 = true := hdep _ rfl ⟨24, .data⟩ (by simp) rfl
          refine wpOpIn_plain rfl rfl rfl ?_
          exact ⟨bA, bB, bC, u1, u2, u3, IB, IR, I1, I2, I3, IP, IA, IBB, IC, J8, J17, J24, J26, J28, (fun _ => rfl), rfl⟩
      case fin =>
        intro listed a' w' hs hall ⟨bA, bB, bC, u1, u2, u3, IB, IR, I1, I2, I3, IP, IA, IBB, IC, J8, J17, J24, J26, J28, J29, ha⟩
        obtain ⟨ls⟩ := listed
        match ls, hs with
        | [x0, x1, x2, x3, x4, x5, x6, x7, x8, x9, x10, x11, x12, x13, x14, x15, x16, x17, x18, x19, x20, x21, x22, x23, x24, x25, x26, x27, x28, x29], _ =>
        obtain rfl : x0 = true := hall 0 (by simp)
        obtain rfl : x1 = true := hall 1 (by simp)
        obtain rfl : x2 = true := hall 2 (by simp)
        obtain rfl : x3 = true := hall 3 (by simp)
        obtain rfl : x4 = true := hall 4 (by simp)
        obtain rfl : x5 = true := hall 5 (by simp)
        obtain rfl : x6 = true := hall 6 (by simp)
        obtain rfl : x7 = true := hall 7 (by simp)
        obtain rfl : x8 = true := hall 8 (by simp)
        obtain rfl : x9 = true := hall 9 (by simp)
        obtain rfl : x10 = true := hall 10 (by simp)
        obtain rfl : x11 = true := hall 11 (by simp)
        obtain rfl : x12 = true := hall 12 (by simp)
        obtain rfl : x13 = true := hall 13 (by simp)
        obtain rfl : x14 = true := hall 14 (by simp)
        obtain rfl : x15 = true := hall 15 (by simp)
        obtain rfl : x16 = true := hall 16 (by simp)
        obtain rfl : x17 = true := hall 17 (by simp)
        obtain rfl : x18 = true := hall 18 (by simp)
        obtain rfl : x19 = true := hall 19 (by simp)
        obtain rfl : x20 = true := hall 20 (by simp)
        obtain rfl : x21 = true := hall 21 (by simp)
        obtain rfl : x22 = true := hall 22 (by simp)
        obtain rfl : x23 = true := hall 23 (by simp)
        obtain rfl : x24 = true := hall 24 (by simp)
        obtain rfl : x25 = true := hall 25 (by simp)
        obtain rfl : x26 = true := hall 26 (by simp)
        obtain rfl : x27 = true := hall 27 (by simp)
        obtain rfl : x28 = true := hall 28 (by simp)
        obtain rfl : x29 = true := hall 29 (by simp)
        subst ha
        have i1 : Hid (NewInts (w.heap.size + 3) w' u1 (R1 ++ [sk])) := I1
        have i2 : Hid (NewBools (w.heap.size + 3) w' u2 (R2 ++ [bk])) := I2
        have i3 : Hid (NewInts (w.heap.size + 3) w' u3 (R3 ++ [xk])) := I3
        have ip : Hid (Apart u1 u3) := IP
        have ir : Hid (w'.heap[w.heap.size + 2]? = some (.cells #[u1, u2] 43 (0, 0))) := IR
        have F1 : Hid (R1 ++ [sk] ++ pickF p (k + 1) (sizes.drop (k + 1)) = pickF p 0 sizes) := by show _ = _; rw [← E1.out, HSK.out, pickF, if_pos HPK.out]; simp
        have F2 : Hid (R2 ++ [bk] ++ pickB p (k + 1) (wrap.drop (k + 1)) = pickB p 0 wrap) := by show _ = _; rw [← E2.out, HBK.out, pickB, if_pos HPK.out]; simp
        have F3 : Hid (R3 ++ [xk] ++ pickF p (k + 1) (xs.drop (k + 1)) = pickF p 0 xs) := by show _ = _; rw [← E3.out, HXK.out, pickF, if_pos HPK.out]; simp
        have FL : Hid ((R1 ++ [sk]).length ≤ k + 1 ∧ (R2 ++ [bk]).length = (R1 ++ [sk]).length ∧ (R3 ++ [xk]).length = (R1 ++ [sk]).length) := by show _ ∧ _; have := EL.out; simp; omega
        clear IR I1 I2 I3 IP IA IBB IC J8 J17 J24 J26 J28 J29 hall hs E1 E2 E3 EL
        dsimp only [Exit.then, Exit.inBlock]
        go_wp2_with fail
        go_roundw
        case rel => exact ⟨k + 1, u1, u2, u3, R1 ++ [sk], R2 ++ [bk], R3 ++ [xk], rfl, by omega, by go_num, ir, i1, i2, i3, ip, IB, F1, F2, F3, FL⟩
        case measure => simp [intOf]; omega
    | false =>
      rw [hq] at hpk
      have F1 : Hid (R1 ++ pickF p (k + 1) (sizes.drop (k + 1)) = pickF p 0 sizes) := by
        show _ = _; rw [← E1.out, List.drop_eq_getElem_cons hltS, pickF, if_neg (by rw [hpk]; decide)]
      have F2 : Hid (R2 ++ pickB p (k + 1) (wrap.drop (k + 1)) = pickB p 0 wrap) := by
        show _ = _; rw [← E2.out, List.drop_eq_getElem_cons hltW, pickB, if_neg (by rw [hpk]; decide)]
      have F3 : Hid (R3 ++ pickF p (k + 1) (xs.drop (k + 1)) = pickF p 0 xs) := by
        show _ = _; rw [← E3.out, List.drop_eq_getElem_cons hltX, pickF, if_neg (by rw [hpk]; decide)]
      have FL : Hid (R1.length ≤ k + 1 ∧ R2.length = R1.length ∧ R3.length = R1.length) := ⟨Nat.le_succ_of_le EL.out.1, EL.out.2⟩
      generalize keep[k] = kk at *
      clear hpk E1 E2 E3 EL
      go_wp2_with fail
      go_roundw
      case rel => exact ⟨k + 1, v1, v2, v3, R1, R2, R3, rfl, by omega, by go_num, G0, N1, N2, N3, AP, HBr, F1, F2, F3, FL⟩
      case measure => simp [intOf]; omega
  · have e1 : R1 = pickF p 0 sizes := by have := E1.out; rw [drop_end (by rw [← L2.out]; exact hlt)] at this; simpa [pickF] using this
    have e2 : R2 = pickB p 0 wrap := by have := E2.out; rw [drop_end (by rw [L1.out, ← L2.out]; exact hlt)] at this; simpa [pickB] using this
    have e3 : R3 = pickF p 0 xs := by have := E3.out; rw [drop_end (by rw [L3.out, ← L2.out]; exact hlt)] at this; simpa [pickF] using this
    have X1 := Lib.hid e1
    have X2 := Lib.hid e2
    have X3 := Lib.hid e3
    clear e1 e2 e3 E1 E2 E3
    obtain ⟨hRB, hRX⟩ := EL.out.2
    obtain ⟨a1, c1, rfl, _⟩ := N1.out.ints
    obtain ⟨a2, c2, rfl, _⟩ := N2.out.bools
    obtain ⟨a3, c3, rfl, _⟩ := N3.out.ints
    have hr1 := below_heapAt HBr.out ⟨by omega, Q1.out⟩
    have HR1 := Lib.hid hr1
    have k80 := (cell_of_row _ (w.heap.size + 1) 0 _ _ _ hr1).trans rfl
    have k81 := (cell_of_row _ (w.heap.size + 1) 1 _ _ _ hr1).trans rfl
    have f80 := frozen_of_row _ (w.heap.size + 1) 0 _ _ hr1
    have f81 := frozen_of_row _ (w.heap.size + 1) 1 _ _ hr1
    have l8 := (Array.getElem?_eq_some_iff.1 hr1).1
    have kt0 := (cell_of_row _ (w.heap.size + 1 + 1) 0 _ _ _ G0.out).trans rfl
    have kt1 := (cell_of_row _ (w.heap.size + 1 + 1) 1 _ _ _ G0.out).trans rfl
    have HRB := Lib.hid hRB
    have HRX := Lib.hid hRX
    clear hr1 hRB hRX
    by_cases hR : R1 = []
    · have HS : Hid (parS p sizes = [1]) := by show _ = _; unfold parS; rw [← X1.out, if_pos hR]
      have HW : Hid (parW p sizes wrap = [false]) := by show _ = _; unfold parW; rw [← X1.out, if_pos hR]
      have HX : Hid (parX p sizes xs = [0]) := by show _ = _; unfold parX; rw [← X1.out, if_pos hR]
      have hlen0 : R3.length = 0 := by rw [HRX.out, hR]; rfl
      have hlen1 : ((R3.length : Int) == 0) = true := by rw [hlen0]; rfl
      clear hR N1 N2 N3 X1 X2 X3
      rw [hlen0] at hlen1
      rw [hlen0]
      have hl3 : w.heap.size + 1 < wr.heap.size + 1 := by omega
      have hl4 : w.heap.size + 1 < wr.heap.size + 1 + 1 := by omega
      have hl5 : w.heap.size + 1 < wr.heap.size + 1 + 1 + 1 := by omega
      have hn3 : w.heap.size + 1 ≠ wr.heap.size := by omega
      have hn4 : w.heap.size + 1 ≠ wr.heap.size + 1 := by omega
      have hn5 : w.heap.size + 1 ≠ wr.heap.size + 1 + 1 := by omega
      clear hlen0
      go_wp2_with fail
      obtain ⟨u, hu⟩ : ∃ u, u = Value.slice (some ⟨wr.heap.size, 0, none⟩) 1 1 := ⟨_, rfl⟩
      obtain ⟨v, hv⟩ : ∃ v, v = Value.slice (some ⟨wr.heap.size + 1, 0, none⟩) 1 1 := ⟨_, rfl⟩
      rw [← hu, ← hv]
      have z2 := below_heapAt_set _ (w.heap.size + 1) u v HR1.out
      have z5 := (hwr.setCell (p := ⟨w.heap.size + 1, 0, none⟩) (by show w.heap.size ≤ w.heap.size + 1; omega) u).setCell (p := ⟨w.heap.size + 1, 1, none⟩) (by show w.heap.size ≤ w.heap.size + 1; omega) v
      have z6 : ((wr.setCell ⟨w.heap.size + 1, 0, none⟩ u).setCell ⟨w.heap.size + 1, 1, none⟩ v).heap.size = wr.heap.size := by simp
      generalize (wr.setCell ⟨w.heap.size + 1, 0, none⟩ u).setCell ⟨w.heap.size + 1, 1, none⟩ v = Z at *
      have hal := (((Below.refl Z.heap.size Z).alloc (Nat.le_refl _) (.cells #[Value.int .i64 1] 3)).alloc (by simp) (.cells #[Value.bool false] 4)).alloc (by simp; omega) (.cells #[Value.int .i64 0] 3)
      obtain ⟨b1, b2, b4⟩ := alloc3 Z (.cells #[Value.int .i64 1] 3) (.cells #[Value.bool false] 4) (.cells #[Value.int .i64 0] 3)
      rw [z6] at b1 b2 b4
      have b3 := (hal.block _ (Array.getElem?_eq_some_iff.1 z2).1).trans z2
      have c5 := z5.trans (hal.mono z5.size)
      generalize ((Z.alloc (.cells #[Value.int .i64 1] 3)).alloc (.cells #[Value.bool false] 4)).alloc (.cells #[Value.int .i64 0] 3) = Zf at *
      rw [HS.out, HW.out, HX.out]
      refine bodyPost_ret (v := .tuple #[.agg #[u, v], .slice (some ⟨wr.heap.size + 1 + 1, 0, none⟩) 1 1]) ?_ rfl ⟨_, _, _, rfl, ?_, ?_, ?_, c5⟩
      · simp [results, loadGridR b3, Try.results93, asAddr]
      · rw [hu]
        exact ⟨⟨by simp, .inr ⟨wr.heap.size, 1, #[.int .i64 1], rfl, by omega, b1, by simp, by unfold maxLen; omega, rfl, rfl⟩⟩, by simp⟩
      · rw [hv]
        exact ⟨⟨by simp, .inr ⟨wr.heap.size + 1, 1, #[.bool false], rfl, by omega, b2, by simp, by unfold maxLen; omega, rfl, rfl⟩⟩, by simp⟩
      · exact ⟨⟨by simp, .inr ⟨wr.heap.size + 1 + 1, 1, #[.int .i64 0], rfl, by omega, b4, by simp, by unfold maxLen; omega, rfl, rfl⟩⟩, by simp⟩
    · have hlen0 : ((R3.length : Int) == 0) = false := beq_eq_false_iff_ne.2 (by have := List.length_pos_iff.2 hR; have := HRX.out; omega)
      have HS : Hid (parS p sizes = R1) := by show _ = _; unfold parS; rw [← X1.out, if_neg hR]
      have HW : Hid (parW p sizes wrap = R2) := by show _ = _; unfold parW; rw [← X1.out, ← X2.out, if_neg hR]
      have HX : Hid (parX p sizes xs = R3) := by show _ = _; unfold parX; rw [← X1.out, ← X3.out, if_neg hR]
      clear hR
      have m1 := Lib.hid (((N1.out.set (w.heap.size + 1) 0 (.slice a1 R1.length c1) (by omega)).set (w.heap.size + 1) 1 (.slice a2 R2.length c2) (by omega)).base (B' := w.heap.size) (by omega))
      have m2 := Lib.hid (((N2.out.set (w.heap.size + 1) 0 (.slice a1 R1.length c1) (by omega)).set (w.heap.size + 1) 1 (.slice a2 R2.length c2) (by omega)).base (B' := w.heap.size) (by omega))
      have m3 := Lib.hid (((N3.out.set (w.heap.size + 1) 0 (.slice a1 R1.length c1) (by omega)).set (w.heap.size + 1) 1 (.slice a2 R2.length c2) (by omega)).base (B' := w.heap.size) (by omega))
      have m5 := Lib.hid ((hwr.setCell (p := ⟨w.heap.size + 1, 0, none⟩) (by show w.heap.size ≤ w.heap.size + 1; omega) (.slice a1 R1.length c1)).setCell (p := ⟨w.heap.size + 1, 1, none⟩) (by show w.heap.size ≤ w.heap.size + 1; omega) (.slice a2 R2.length c2))
      have m6 := Lib.hid (below_heapAt_set _ (w.heap.size + 1) (.slice a1 R1.length c1) (.slice a2 R2.length c2) HR1.out)
      clear N1 N2 N3
      go_wp2_with fail
      generalize (wr.setCell ⟨w.heap.size + 1, 0, none⟩ (.slice a1 R1.length c1)).setCell ⟨w.heap.size + 1, 1, none⟩ (.slice a2 R2.length c2) = Z at *
      rw [HS.out, HW.out, HX.out]
      refine bodyPost_ret (v := .tuple #[.agg #[.slice a1 R1.length c1, .slice a2 R2.length c2], .slice a3 R3.length c3]) ?_ rfl ⟨_, _, _, rfl, m1.out, m2.out, m3.out, m5.out⟩
      simp [results, loadGridR m6.out, Try.results93, asAddr]
end Go.Proofs.Ytoloiingodigpaa
