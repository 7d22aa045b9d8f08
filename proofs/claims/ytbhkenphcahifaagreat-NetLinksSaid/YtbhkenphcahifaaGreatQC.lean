import Derived.Test.YtbhkenphcahifaaGreatOB
import Derived.Test.YtbhkenphcahifaaGreatQB
import Derived.Test.YtbhkenphcahifaaGreatPA
namespace Go.Proofs.YtbhkenphcahifaaGreat
open Go.RowKit Go.Shelf
attribute [local go_sem] Oper.semAt_some
set_option maxRecDepth 100000
set_option maxHeartbeats 4000000

theorem rNumber_any {w : World} {sa ta : Option Addr} {l a : List Int} (h : Ints w sa l) (ht : Ints w ta a) (hn : a.length = l.length) (h4 : l.length ≤ 4) (hb : ∀ i, i < l.length → 2 ≤ l.getD i 0 ∧ l.getD i 0 ≤ 16) (ha : ∀ i, i < l.length → 0 ≤ a.getD i 0 ∧ a.getD i 0 < l.getD i 0) (sc tc : Nat) (kind hosts : Int) :
    Calls Tryz.prog 61 #[.agg #[.int .i64 kind, .slice sa l.length sc, .int .i64 hosts], .slice ta l.length tc] w fun e w' => e = .returned (.int .i64 (numI l a)) ∧ Below w.heap.size w w' := by
  have HL := Lib.hid h
  have HA := Lib.hid ht
  obtain ⟨N, hN⟩ : ∃ N, N = l.length := ⟨_, rfl⟩
  have HN := Lib.hid hN
  have HN2 : Hid (N = a.length) := by show _ = _; rw [hN, hn]
  have HBD := Lib.hid (numK_bound hb ha)
  have HBB := Lib.hid hb
  have HAA := Lib.hid ha
  obtain ⟨R, hR⟩ : ∃ R, R = numI l a := ⟨_, rfl⟩
  have HR : Hid (R = numK l a N) := by show _ = _; rw [hR, hN]; rfl
  rw [← hN, ← hR]
  rw [← hN] at h4
  have HB := Lib.hid ((Below.refl w.heap.size w).alloc (Nat.le_refl _) (.cells #[.int .i64 kind, .slice sa N sc, .int .i64 hosts] 34))
  have Q0 := Lib.hid (heap_alloc_new w (.cells #[.int .i64 kind, .slice sa N sc, .int .i64 hosts] 34))
  clear h ht hn hb ha hN hR
  go_enter Tryz.func61, Tryz.ntmps61
  go_wp2_with fail
  generalize w.alloc (.cells #[.int .i64 kind, .slice sa N sc, .int .i64 hosts] 34) = X at *
  go_loopw [5, 6] (fun p i wr => ∃ (k : Nat), k ≤ N ∧ i = .int .i64 k ∧ p = .int .i64 (numK l a k) ∧ Hid (Below X.heap.size X wr)) (fun _ i _ => N - (intOf i).toNat)
  case atStart => exact ⟨0, Nat.zero_le _, rfl, rfl, Below.refl _ _⟩
  case round =>
    obtain ⟨k, hk, rfl, rfl, HW⟩ := hrel
    by_cases hlt : k < N
    · have k1 : k < l.length := by rw [← HN.out]; exact hlt
      have k2 : k < a.length := by rw [← HN2.out]; exact hlt
      have hbw := HB.out.trans (HW.out.mono HB.out.size)
      obtain ⟨g, o, rfl, hc⟩ := (HL.out.keep hbw).at_ (ne_nil_of_lt k1)
      obtain ⟨g2, o2, rfl, hc2⟩ := (HA.out.keep hbw).at_ (ne_nil_of_lt k2)
      have e0 := hc k k1
      have e1 := hc2 k k2
      have q1 := heapB HW.out Q0.out
      have c1 := cellR 1 q1 rfl
      have el : l.getD k 0 = l[k] := by simp [List.getD, k1]
      have ea : a.getD k 0 = a[k] := by simp [List.getD, k2]
      have HS : Hid (numK l a (k + 1) = numK l a k * l[k] + a[k]) := by show _ = _; rw [← el, ← ea]; rfl
      obtain ⟨y, hy⟩ : ∃ y, y = numK l a (k + 1) := ⟨_, rfl⟩
      have HY := Lib.hid hy
      obtain ⟨i1, i2⟩ := HBD.out k (by omega)
      obtain ⟨b1, b2⟩ := HBB.out k k1
      obtain ⟨a1, a2⟩ := HAA.out k k1
      rw [el] at b1 b2 a2
      rw [ea] at a1 a2
      have p1 := lim16 (show k ≤ 4 by omega)
      rw [← hy] at HS
      clear hy
      generalize numK l a k = x at *
      generalize l[k] = s at *
      generalize a[k] = c at *
      have m1 : 0 ≤ x * s := Int.mul_nonneg i1 (by omega)
      have m2 : x * s ≤ 65536 * 16 := Int.mul_le_mul (by omega) b2 (by omega) (by decide)
      have hw1 : wrap64 (x * s) = x * s := by generalize x * s = z at *; unfold wrap64; omega
      have hw2 : wrap64 (x * s + c) = x * s + c := by generalize x * s = z at *; unfold wrap64; omega
      clear hc hc2 k1 k2 el ea m1 m2 p1 i1 i2 b1 b2 a1 a2 hbw q1
      go_wp2_with fail
      go_quiet (fail)
      go_wp2_with fail
      go_roundw
      case rel => exact ⟨k + 1, by omega, by go_num, by rw [← HY.out, HS.out, hw2], below_drewN HW.out _⟩
      case measure => simp [intOf]; omega
    · have hkN : k = N := by omega
      have HE : Hid (numK l a k = R) := by show _ = _; rw [hkN, HR.out]
      rw [HE.out]
      clear HE hkN
      go_wp2_with fail
      go_ret
      exact ⟨rfl, HB.out.trans (HW.out.mono HB.out.size)⟩

/-- one more number in a row of one's own -/
theorem app_one {w : World} {lo : Nat} {v : Value} {R : List Int} (h : NewInts lo w v R) (s : Int) (hl : R.length ≤ 1000000) (hs : lo ≤ w.heap.size) :
    ∃ g cap w2, (Builtin.append_ #[22, 22] 22 #[v, .slice (some ⟨w.heap.size, 0, none⟩) 1 1]).run Tryz.prog (w.alloc (.cells #[.int .i64 s] 3)) = .ok (.slice (some ⟨g, 0, none⟩) (R.length + 1) cap) w2 ∧
      NewInts lo w2 (.slice (some ⟨g, 0, none⟩) (R.length + 1) cap) (R ++ [s]) ∧ (w.alloc (.cells #[.int .i64 s] 3)).grownBy w2 v.ownBlock ∧ (v.ownBlock = some g ∨ w.heap.size < g) ∧ w.heap.size + 1 ≤ w2.heap.size := by
  obtain ⟨i0, hi, hz0, hz1, hz2⟩ := info_parts Tryz.info3
  obtain ⟨g, cap, w2, hr, hown, hgrow, hat, hlt⟩ := run_append_lies (P := Tryz.prog) (w.alloc (.cells #[.int .i64 s] 3)) 22 22 lo 3 i0 (.int .i64 0) 1 8 Tryz.underlying22 hi hz0 hz1 hz2 rfl (by decide) v R.length (R.map (Value.int .i64)) (h.own.alloc _) ⟨w.heap.size, 0, none⟩ 1 1 [.int .i64 s] (by simp)
    (World.news_of_block (cs := #[.int .i64 s]) (heap_alloc_new w (.cells #[.int .i64 s] 3))) (by intro u hu; simp at hu; subst hu; rfl) (by decide) (by unfold maxLen; omega) (by omega) (by simp; omega) _ rfl
  have hsz := hgrow.size
  simp at hsz
  refine ⟨g, cap, w2, hr, ⟨by simpa using hown, by simp; omega⟩, hgrow, ?_, hsz⟩
  rcases hat with e | e
  · exact .inl e
  · simp at e; exact .inr (by omega)

/-- the two rows of coordinates, the path and its classes -/
structure TorS (lo ga ge : Nat) (cy c : List Int) (pv cv : Value) (P C : List Int) (w : World) : Prop where
  ra : RowAt w ga c
  re : RowAt w ge cy
  pp : NewInts lo w pv P
  cc : NewInts lo w cv C
  n1 : ga ≠ ge
  n2 : pv.ownBlock ≠ some ga
  n3 : pv.ownBlock ≠ some ge
  n4 : cv.ownBlock ≠ some ga
  n5 : cv.ownBlock ≠ some ge
  n6 : ∀ b, pv.ownBlock = some b → cv.ownBlock ≠ some b
  la : lo ≤ ga
theorem TorS.keep {lo ga ge : Nat} {cy c : List Int} {pv cv : Value} {P C : List Int} {w w' : World} (h : TorS lo ga ge cy c pv cv P C w) (hb : Below w.heap.size w w') : TorS lo ga ge cy c pv cv P C w' :=
  ⟨h.ra.keep hb, h.re.keep hb, ⟨ownsRow_bl h.pp.own hb, h.pp.len⟩, ⟨ownsRow_bl h.cc.own hb, h.cc.len⟩, h.n1, h.n2, h.n3, h.n4, h.n5, h.n6, h.la⟩
theorem TorS.store {lo ga ge : Nat} {cy c : List Int} {pv cv : Value} {P C : List Int} {w : World} (h : TorS lo ga ge cy c pv cv P C w) (i : Nat) (x : Int) : TorS lo ga ge cy (c.set i x) pv cv P C (w.setCell ⟨ga, i, none⟩ (.int .i64 x)) :=
  ⟨h.ra.set i x, h.re.set_other ga i _ (Ne.symm h.n1), ⟨ownsRow_setCell_other h.pp.own h.n2 _, h.pp.len⟩, ⟨ownsRow_setCell_other h.cc.own h.n4 _, h.cc.len⟩, h.n1, h.n2, h.n3, h.n4, h.n5, h.n6, h.la⟩
theorem row_grown {w w2 : World} {o : Obj} {row : Option Nat} {b : Nat} {l : List Int} (h : RowAt w b l) (hg : (w.alloc o).grownBy w2 row) (hne : row ≠ some b) : RowAt w2 b l :=
  (grown_far rfl hg h.lt (fun e => hne e.symm)).trans h
theorem TorS.appP {lo ga ge : Nat} {cy c : List Int} {pv cv : Value} {P C : List Int} {w : World} (h : TorS lo ga ge cy c pv cv P C w) (s : Int) (hl : P.length ≤ 1000000) :
    ∃ v' w2, (Builtin.append_ #[22, 22] 22 #[pv, .slice (some ⟨w.heap.size, 0, none⟩) 1 1]).run Tryz.prog (w.alloc (.cells #[.int .i64 s] 3)) = .ok v' w2 ∧ TorS lo ga ge cy c v' cv (P ++ [s]) C w2 ∧ Below lo w w2 := by
  have hs : lo ≤ w.heap.size := by have := h.la; have := h.ra.lt; omega
  obtain ⟨g, cap, w2, hr, hn, hg, hat, hz⟩ := app_one h.pp s hl hs
  have hga := h.ra.lt
  have hge := h.re.lt
  have hcv : ∀ b, cv.ownBlock = some b → some b ≠ pv.ownBlock := fun b hb e => h.n6 b e.symm hb
  have hgne : ∀ b, b < w.heap.size → pv.ownBlock ≠ some b → g ≠ b := fun b hb hne e => by
    rcases hat with e2 | e2
    · exact hne (e ▸ e2)
    · omega
  refine ⟨_, w2, hr, ⟨row_grown h.ra hg h.n2, row_grown h.re hg h.n3, hn, ⟨row_far rfl hg h.cc.own hcv, h.cc.len⟩, h.n1, ?_, ?_, h.n4, h.n5, ?_, h.la⟩, ?_⟩
  · intro e; exact hgne ga hga h.n2 (by simpa [Value.ownBlock] using e)
  · intro e; exact hgne ge hge h.n3 (by simpa [Value.ownBlock] using e)
  · intro b hb e
    obtain rfl : g = b := by simpa [Value.ownBlock] using hb
    rcases hat with e2 | e2
    · exact h.n6 g e2 e
    · have := (h.cc.own.lt g e).2; omega
  · exact ((Below.refl lo w).alloc hs _).trans ⟨hg.os, hg.tape, hg.output, hg.size, fun k hk => hg.block k (by simp; omega) (fun e => by have := (h.pp.own.lt k e.symm).1; omega)⟩
theorem TorS.appC {lo ga ge : Nat} {cy c : List Int} {pv cv : Value} {P C : List Int} {w : World} (h : TorS lo ga ge cy c pv cv P C w) (s : Int) (hl : C.length ≤ 1000000) :
    ∃ v' w2, (Builtin.append_ #[22, 22] 22 #[cv, .slice (some ⟨w.heap.size, 0, none⟩) 1 1]).run Tryz.prog (w.alloc (.cells #[.int .i64 s] 3)) = .ok v' w2 ∧ TorS lo ga ge cy c pv v' P (C ++ [s]) w2 ∧ Below lo w w2 := by
  have hs : lo ≤ w.heap.size := by have := h.la; have := h.ra.lt; omega
  obtain ⟨g, cap, w2, hr, hn, hg, hat, hz⟩ := app_one h.cc s hl hs
  have hga := h.ra.lt
  have hge := h.re.lt
  have hpv : ∀ b, pv.ownBlock = some b → some b ≠ cv.ownBlock := fun b hb e => h.n6 b hb e.symm
  have hgne : ∀ b, b < w.heap.size → cv.ownBlock ≠ some b → g ≠ b := fun b hb hne e => by
    rcases hat with e2 | e2
    · exact hne (e ▸ e2)
    · omega
  refine ⟨_, w2, hr, ⟨row_grown h.ra hg h.n4, row_grown h.re hg h.n5, ⟨row_far rfl hg h.pp.own hpv, h.pp.len⟩, hn, h.n1, h.n2, h.n3, ?_, ?_, ?_, h.la⟩, ?_⟩
  · intro e; exact hgne ga hga h.n4 (by simpa [Value.ownBlock] using e)
  · intro e; exact hgne ge hge h.n5 (by simpa [Value.ownBlock] using e)
  · intro b hb e
    obtain rfl : g = b := by simpa [Value.ownBlock] using e
    rcases hat with e2 | e2
    · exact h.n6 g hb e2
    · have := (h.pp.own.lt g hb).2; omega
  · exact ((Below.refl lo w).alloc hs _).trans ⟨hg.os, hg.tape, hg.output, hg.size, fun k hk => hg.block k (by simp; omega) (fun e => by have := (h.cc.own.lt k e.symm).1; omega)⟩
end Go.Proofs.YtbhkenphcahifaaGreat
