import Derived.Test.YtoloiingodigpaaO
namespace Go.Proofs.Ytoloiingodigpaa
open Go.RowKit Go.Shelf
attribute [local go_sem] Oper.semAt_some litE

/-- an int of Go -/
def I64 (n : Int) : Prop := -9223372036854775808 ≤ n ∧ n ≤ 9223372036854775807

/-- how many numbers a range has -/
def strideN (first last stride : Int) : Nat :=
  if 0 < stride then (if last < first then 0 else ((last - first) / stride).toNat + 1)
  else (if first < last then 0 else ((first - last) / (-stride)).toNat + 1)

/-- a function that yields the numbers of a range, whatever is written to the blocks ex between two rounds -/
def SIter (first last stride : Int) (lb : Array Value) (ex : Nat → Prop) (w : World) : Prop :=
  (∀ args w, (callFunc 109 args).run Try.prog w = .ok (.enter 109 args) w) ∧
  ∀ n, SeqStopsK (α := Nat) Fence.wide n Try.prog 109 lb (fun i => #[.int .i64 (first + i * stride)]) (KeepP ex) (fun xs => xs = List.range (strideN first last stride)) (fun pre => pre <+: List.range (strideN first last stride)) (strideN first last stride) w

set_option maxRecDepth 100000 in
set_option maxHeartbeats 4000000 in
theorem strideIter_pos {w : World} (b1 b2 b3 : Nat) (ex : Nat → Prop) (h1 : ¬ ex b1) (h2 : ¬ ex b2) (h3 : ¬ ex b3) (first last stride : Int) (hf : I64 first) (hl : I64 last) (hs : I64 stride) (hpos : 0 < stride)
    (c1 : w.cell? ⟨b1, 0, none⟩ = some (.int .i64 stride)) (c2 : w.cell? ⟨b2, 0, none⟩ = some (.int .i64 first)) (c3 : w.cell? ⟨b3, 0, none⟩ = some (.int .i64 last)) :
    SIter first last stride #[.pointer (some ⟨b1, 0, none⟩), .pointer (some ⟨b2, 0, none⟩), .pointer (some ⟨b3, 0, none⟩)] ex w := by
  obtain ⟨f1, f2⟩ := hf
  obtain ⟨l1, l2⟩ := hl
  obtain ⟨s1, s2⟩ := hs
  refine ⟨enters_of Try.func109 (by kernel_rfl) rfl, fun n ll J Jx W hW hJ hJx hY h0 => ?_⟩
  refine callsIn_of_wp Try.func109 rfl trivial ?_ rfl
  simp only [Try.ntmps109, List.size_toArray, List.length_cons, List.length_nil, Nat.reduceAdd, Nat.reduceSub, Array.replicate_succ, Array.replicate_zero, List.push_toArray, List.append_toArray, List.nil_append, List.cons_append]
  have hW' : KeepP ex w W := KeepP.of_below hW
  have d1 := hW'.cell c1 h1
  have d2 := hW'.cell c2 h2
  have d3 := hW'.cell c3 h3
  have HY := Lib.hid hY
  clear hY c2 c3
  have hneg : ¬ stride < 0 := by omega
  have hdec : decide (stride < 0) = false := by simp; omega
  by_cases hlt : last < first
  · have HN : Hid (strideN first last stride = 0) := by show _ = _; unfold strideN; rw [if_pos hpos, if_pos hlt]
    gi_wp2
    refine bodyPost_ret (results_none rfl _ _ _) rfl ⟨⟨_, rfl⟩, .inl ?_⟩
    rw [HN.out]; exact h0
  · obtain ⟨m, hm⟩ : ∃ m : Nat, m = ((last - first) / stride).toNat := ⟨_, rfl⟩
    have hL0 : 0 ≤ last - first := by omega
    have hq0 : 0 ≤ (last - first) / stride := Int.ediv_nonneg hL0 (by omega)
    have HN : Hid (strideN first last stride = m + 1) := by show _ = _; unfold strideN; rw [if_pos hpos, if_neg hlt, hm]
    have HK : Hid (∀ k : Nat, k ≤ m ↔ (k : Int) * stride ≤ last - first) := fun k => by
      rw [hm, ← Int.le_ediv_iff_mul_le hpos]; omega
    have hU1 : IntKind.u64.wrap (IntKind.u64.wrap last - IntKind.u64.wrap first) = last - first := by
      simp only [IntKind.wrap, IntKind.signed, IntKind.bits]; simp; omega
    have hU2 : IntKind.u64.wrap stride = stride := by
      simp only [IntKind.wrap, IntKind.signed, IntKind.bits]; simp; omega
    clear hm hq0
    gi_wp2
    refine wpIn_wide.2 ?_
    go_region_held3 (fun w' => w'.cell? ⟨b1, 0, none⟩ = some (.int .i64 stride) ∧ w'.cell? ⟨b2, 0, none⟩ = some (.int .i64 first) ∧ w'.cell? ⟨b3, 0, none⟩ = some (.int .i64 last)) (go_keep) (fail)
    gi_wp2
    have HU := Lib.hid hU1
    have hL64 : last - first ≤ 18446744073709551615 := by omega
    have HS1 := Lib.hid (show ∀ k : Nat, (k : Int) * stride + stride = ((k + 1 : Nat) : Int) * stride from fun k => by rw [Int.natCast_succ, Int.add_mul, Int.one_mul])
    have HW0 : Below W.heap.size W W.drew := (Below.refl _ _).drew
    have hJd : J [] W.drew := hJ _ _ _ none h0 ⟨rfl, rfl, rfl, Nat.le_refl _, fun _ _ _ => rfl⟩ (fun r e => by cases e)
    clear hU1 h0 d1 d2 d3
    obtain ⟨L, hL⟩ : ∃ L, L = last - first := ⟨_, rfl⟩
    rw [← hL] at hL0 hL64
    have HL := Lib.hid hL
    gi_loopw [5, 7] (fun lf x wr => ∃ (k : Nat) (xv lv : Int), Hid (xv = first + (k : Int) * stride) ∧ Hid (lv = L - (k : Int) * stride) ∧ 0 ≤ lv ∧ lv ≤ 18446744073709551615 ∧ first ≤ xv ∧ xv ≤ last ∧ x = .int .i64 xv ∧ lf = .int .u64 lv ∧ J (List.range k) wr ∧ KeepP ex w wr ∧ W.heap.size ≤ wr.heap.size)
      (fun lf _ _ => (intOf lf).toNat)
    case atStart => exact ⟨0, first, last - first, by show _ = _; omega, by show _ = _; rw [HL.out]; omega, by omega, by omega, Int.le_refl _, hlt, rfl, rfl, hJd, hW'.drew, Nat.le_refl _⟩
    case round =>
      obtain ⟨k, xv, lv, HX, HLV, hl0, hl1, hx0, hx1, rfl, rfl, hJ1, hb1, hWz⟩ := hrel
      have e1 := hb1.cell c1 h1
      have hkm : k ≤ m := (HK.out k).2 (by have := HLV.out; have := HL.out; omega)
      obtain ⟨fn, tmps, assign, body, hy, hR⟩ := HY.out (List.range k) k wr hJ1 (by rw [HN.out, List.length_range]; omega)
      rw [← HX.out] at hy
      have hrs : List.range k ++ [k] = List.range (k + 1) := List.range_succ.symm
      rw [hrs] at hR
      clear hrs
      have hpre : List.range (k + 1) <+: List.range (strideN first last stride) := by
        rw [HN.out]
        exact ⟨(List.range (m + 1)).drop (k + 1), by
          have := List.take_append_drop (k + 1) (List.range (m + 1))
          rwa [List.take_range, Nat.min_eq_left (by omega)] at this⟩
      have hpre := Lib.hid hpre
      by_cases hge : stride ≤ lv
      · have hnext : xv + stride ≤ last := by have := HX.out; have := HLV.out; have := HL.out; omega
        have HX2 : Hid (xv + stride = first + ((k + 1 : Nat) : Int) * stride) := by show _ = _; have := HX.out; have := HS1.out k; omega
        have HL2 : Hid (lv - stride = L - ((k + 1 : Nat) : Int) * stride) := by show _ = _; have := HLV.out; have := HS1.out k; omega
        have hw1 : wrap64 (xv + stride) = xv + stride := by unfold wrap64; omega
        have hw2 : IntKind.u64.wrap (lv - stride) = lv - stride := by
          simp only [IntKind.wrap, IntKind.signed, IntKind.bits]; simp; omega
        gi_wp2
        refine ⟨fun h => (by cases h), ?_⟩
        refine hR.mono ?_
        rintro e W2 (⟨rfl, hJ4, hk4⟩ | ⟨rfl, hJ4⟩)
        · have e2 := hk4.cell e1 h1
          have hsz := hk4.size
          gi_wp2
          go_roundw
          case rel => exact ⟨k + 1, _, _, HX2, HL2, by omega, by omega, by omega, by omega, by go_num, by go_num, hJ4, hb1.trans hk4, by omega⟩
          case measure => simp [intOf]; omega
        · gi_wp2
          go_end0
          exact ⟨⟨_, rfl⟩, .inr ⟨_, hpre.out, hJ4⟩⟩
      · have hke : k = m := by
          have h2 : ¬ k + 1 ≤ m := fun h => by have := (HK.out (k + 1)).1 h; have := HLV.out; have := HS1.out k; have := HL.out; omega
          omega
        have hfull : Hid (List.range (k + 1) = List.range (strideN first last stride)) := by show _ = _; rw [HN.out, hke]
        clear hke
        gi_wp2
        refine ⟨fun h => (by cases h), ?_⟩
        refine hR.mono ?_
        rintro e W2 (⟨rfl, hJ4, hk4⟩ | ⟨rfl, hJ4⟩)
        · gi_wp2
          go_end0
          exact ⟨⟨_, rfl⟩, .inl ⟨_, hfull.out, hJ4⟩⟩
        · gi_wp2
          go_end0
          exact ⟨⟨_, rfl⟩, .inr ⟨_, hpre.out, hJ4⟩⟩
set_option maxRecDepth 100000 in
set_option maxHeartbeats 4000000 in
theorem strideIter_neg {w : World} (b1 b2 b3 : Nat) (ex : Nat → Prop) (h1 : ¬ ex b1) (h2 : ¬ ex b2) (h3 : ¬ ex b3) (first last stride : Int) (hf : I64 first) (hl : I64 last) (hs : I64 stride) (hpos : stride < 0)
    (c1 : w.cell? ⟨b1, 0, none⟩ = some (.int .i64 stride)) (c2 : w.cell? ⟨b2, 0, none⟩ = some (.int .i64 first)) (c3 : w.cell? ⟨b3, 0, none⟩ = some (.int .i64 last)) :
    SIter first last stride #[.pointer (some ⟨b1, 0, none⟩), .pointer (some ⟨b2, 0, none⟩), .pointer (some ⟨b3, 0, none⟩)] ex w := by
  obtain ⟨f1, f2⟩ := hf
  obtain ⟨l1, l2⟩ := hl
  obtain ⟨s1, s2⟩ := hs
  refine ⟨enters_of Try.func109 (by kernel_rfl) rfl, fun n ll J Jx W hW hJ hJx hY h0 => ?_⟩
  refine callsIn_of_wp Try.func109 rfl trivial ?_ rfl
  simp only [Try.ntmps109, List.size_toArray, List.length_cons, List.length_nil, Nat.reduceAdd, Nat.reduceSub, Array.replicate_succ, Array.replicate_zero, List.push_toArray, List.append_toArray, List.nil_append, List.cons_append]
  have hW' : KeepP ex w W := KeepP.of_below hW
  have d1 := hW'.cell c1 h1
  have d2 := hW'.cell c2 h2
  have d3 := hW'.cell c3 h3
  have HY := Lib.hid hY
  clear hY c2 c3
  have hneg : ¬ 0 < stride := by omega
  have hdec : decide (stride < 0) = true := by simp; omega
  by_cases hlt : first < last
  · have HN : Hid (strideN first last stride = 0) := by show _ = _; unfold strideN; rw [if_neg hneg, if_pos hlt]
    gi_wp2
    refine bodyPost_ret (results_none rfl _ _ _) rfl ⟨⟨_, rfl⟩, .inl ?_⟩
    rw [HN.out]; exact h0
  · obtain ⟨m, hm⟩ : ∃ m : Nat, m = ((first - last) / (-stride)).toNat := ⟨_, rfl⟩
    have hL0 : 0 ≤ first - last := by omega
    have hq0 : 0 ≤ (first - last) / (-stride) := Int.ediv_nonneg hL0 (by omega)
    have HN : Hid (strideN first last stride = m + 1) := by show _ = _; unfold strideN; rw [if_neg hneg, if_neg hlt, hm]
    have HK : Hid (∀ k : Nat, k ≤ m ↔ (k : Int) * (-stride) ≤ first - last) := fun k => by
      rw [hm, ← Int.le_ediv_iff_mul_le (show 0 < -stride by omega)]; omega
    have hU1 : IntKind.u64.wrap (-IntKind.u64.wrap (IntKind.u64.wrap last - IntKind.u64.wrap first)) = first - last := by
      simp only [IntKind.wrap, IntKind.signed, IntKind.bits]; simp; omega
    have hU2 : IntKind.u64.wrap (-IntKind.u64.wrap stride) = -stride := by
      simp only [IntKind.wrap, IntKind.signed, IntKind.bits]; simp; omega
    clear hm hq0
    gi_wp2
    refine wpIn_wide.2 ?_
    go_region_held3 (fun w' => w'.cell? ⟨b1, 0, none⟩ = some (.int .i64 stride) ∧ w'.cell? ⟨b2, 0, none⟩ = some (.int .i64 first) ∧ w'.cell? ⟨b3, 0, none⟩ = some (.int .i64 last)) (go_keep) (fail)
    gi_wp2
    have HU := Lib.hid hU1
    have hL64 : first - last ≤ 18446744073709551615 := by omega
    have HS1 := Lib.hid (show ∀ k : Nat, (k : Int) * stride + stride = ((k + 1 : Nat) : Int) * stride from fun k => by rw [Int.natCast_succ, Int.add_mul, Int.one_mul])
    have HW0 : Below W.heap.size W W.drew := (Below.refl _ _).drew
    have hJd : J [] W.drew := hJ _ _ _ none h0 ⟨rfl, rfl, rfl, Nat.le_refl _, fun _ _ _ => rfl⟩ (fun r e => by cases e)
    clear hU1 h0 d1 d2 d3
    obtain ⟨L, hL⟩ : ∃ L, L = first - last := ⟨_, rfl⟩
    rw [← hL] at hL0 hL64
    have HL := Lib.hid hL
    gi_loopw [5, 7] (fun lf x wr => ∃ (k : Nat) (xv lv : Int), Hid (xv = first + (k : Int) * stride) ∧ Hid (lv = L + (k : Int) * stride) ∧ 0 ≤ lv ∧ lv ≤ 18446744073709551615 ∧ last ≤ xv ∧ xv ≤ first ∧ x = .int .i64 xv ∧ lf = .int .u64 lv ∧ J (List.range k) wr ∧ KeepP ex w wr ∧ W.heap.size ≤ wr.heap.size)
      (fun lf _ _ => (intOf lf).toNat)
    case atStart => exact ⟨0, first, first - last, by show _ = _; omega, by show _ = _; rw [HL.out]; omega, by omega, by omega, hlt, Int.le_refl _, rfl, rfl, hJd, hW'.drew, Nat.le_refl _⟩
    case round =>
      obtain ⟨k, xv, lv, HX, HLV, hl0, hl1, hx0, hx1, rfl, rfl, hJ1, hb1, hWz⟩ := hrel
      have e1 := hb1.cell c1 h1
      have hkm : k ≤ m := (HK.out k).2 (by have := HLV.out; have := HL.out; rw [Int.mul_neg]; omega)
      obtain ⟨fn, tmps, assign, body, hy, hR⟩ := HY.out (List.range k) k wr hJ1 (by rw [HN.out, List.length_range]; omega)
      rw [← HX.out] at hy
      have hrs : List.range k ++ [k] = List.range (k + 1) := List.range_succ.symm
      rw [hrs] at hR
      clear hrs
      have hpre : List.range (k + 1) <+: List.range (strideN first last stride) := by
        rw [HN.out]
        exact ⟨(List.range (m + 1)).drop (k + 1), by
          have := List.take_append_drop (k + 1) (List.range (m + 1))
          rwa [List.take_range, Nat.min_eq_left (by omega)] at this⟩
      have hpre := Lib.hid hpre
      by_cases hge : -stride ≤ lv
      · have hnext : last ≤ xv + stride := by have := HX.out; have := HLV.out; have := HL.out; omega
        have HX2 : Hid (xv + stride = first + ((k + 1 : Nat) : Int) * stride) := by show _ = _; have := HX.out; have := HS1.out k; omega
        have HL2 : Hid (lv - -stride = L + ((k + 1 : Nat) : Int) * stride) := by show _ = _; have := HLV.out; have := HS1.out k; omega
        have hw1 : wrap64 (xv + stride) = xv + stride := by unfold wrap64; omega
        have hw2 : IntKind.u64.wrap (lv - -stride) = lv - -stride := by
          simp only [IntKind.wrap, IntKind.signed, IntKind.bits]; simp; omega
        gi_wp2
        refine ⟨fun h => (by cases h), ?_⟩
        refine hR.mono ?_
        rintro e W2 (⟨rfl, hJ4, hk4⟩ | ⟨rfl, hJ4⟩)
        · have e2 := hk4.cell e1 h1
          have hsz := hk4.size
          gi_wp2
          go_roundw
          case rel => exact ⟨k + 1, _, _, HX2, HL2, by omega, by omega, by omega, by omega, by go_num, by go_num, hJ4, hb1.trans hk4, by omega⟩
          case measure => simp [intOf]; omega
        · gi_wp2
          go_end0
          exact ⟨⟨_, rfl⟩, .inr ⟨_, hpre.out, hJ4⟩⟩
      · have hke : k = m := by
          have h2 : ¬ k + 1 ≤ m := fun h => by have h3 := (HK.out (k + 1)).1 h; rw [Int.mul_neg] at h3; have := HLV.out; have := HS1.out k; have := HL.out; omega
          omega
        have hfull : Hid (List.range (k + 1) = List.range (strideN first last stride)) := by show _ = _; rw [HN.out, hke]
        clear hke
        gi_wp2
        refine ⟨fun h => (by cases h), ?_⟩
        refine hR.mono ?_
        rintro e W2 (⟨rfl, hJ4, hk4⟩ | ⟨rfl, hJ4⟩)
        · gi_wp2
          go_end0
          exact ⟨⟨_, rfl⟩, .inl ⟨_, hfull.out, hJ4⟩⟩
        · gi_wp2
          go_end0
          exact ⟨⟨_, rfl⟩, .inr ⟨_, hpre.out, hJ4⟩⟩
end Go.Proofs.Ytoloiingodigpaa
