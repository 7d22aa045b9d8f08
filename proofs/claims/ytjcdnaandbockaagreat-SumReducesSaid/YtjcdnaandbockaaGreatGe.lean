import Derived.Test.YtjcdnaandbockaaGreatGd
import Derived.Laws.StructEq
import Derived.ChangeKeysEq
import Derived.BigQuiet
import Derived.Laws.IdiomStrings
namespace Go.Proofs.YtjcdnaandbockaaGreat
open Go.RowKit Go.Shelf
attribute [local go_sem] Oper.semAt_some
set_option maxRecDepth 100000
set_option maxHeartbeats 1000000

theorem part_w (f : Nat → Nat) (i : Nat) (hi : i < 36) (w : World) : (part 22 (lA f) (i * 1)).run Tryz.prog w = .ok (.int .u64 (f i)) w := by
  have := lA_at f i hi
  simp [part, isAgg, run_underlying Tryz.underlying22, this]
theorem run_equalIn_words (d : Nat) (f g : Nat → Nat) (w : World) :
    (Op.equalIn (d + 2) 85 (.agg (lA f)) (.agg (lA g))).run Tryz.prog w = .ok ((List.range 36).all fun i => f i == g i) w := by
  rw [List.range_eq_range', Op.equalIn]
  simp only [Sem.run_bind, run_underlying und38, Result.andThen_ok, size33, Std.Legacy.Range.forIn_eq_forIn_range', Std.Legacy.Range.size, Nat.sub_zero, Nat.add_sub_cancel, Nat.div_one]
  have hl : ∀ i ∈ List.range' 0 36 1, i < 36 := fun i hi => by simpa using (List.mem_range'_1.1 hi).2
  generalize List.range' 0 36 1 = l at hl ⊢
  induction l with
  | nil => simp
  | cons i l ih =>
    have hi : i < 36 := hl i (by simp)
    have pe : (Op.equalIn (d + 1) 22 (.int .u64 (f i)) (.int .u64 (g i))).run Tryz.prog w = .ok (f i == g i) w := by
      rw [run_equalIn_int w d 22 .u64 .u64 _ _ Tryz.underlying22]
      congr 1
      rw [Bool.eq_iff_iff]; simp; omega
    simp only [List.forIn_cons, Sem.run_bind, part_w f i hi, part_w g i hi, pe, Result.andThen_ok, List.all_cons]
    cases hb : (f i == g i)
    · simp
    · simp only [Bool.not_true, Bool.false_eq_true, if_false, Sem.run_pure, Result.andThen_ok, Bool.true_and]
      exact ih fun j hj => hl j (by simp [hj])

theorem part_words (F : Facts) (w : World) : (part 85 (fA F) 0).run Tryz.prog w = .ok (.agg (lA (limb F.V))) w := by
  have : (fA F).extract 0 36 = lA (limb F.V) := by
    unfold fA
    rw [Array.extract_append]
    simp
  simp [part, isAgg, run_underlying und38, this]
theorem part_saw (F : Facts) (w : World) : (part 5 (fA F) 36).run Tryz.prog w = .ok (.int .u8 F.saw) w := by
  have := fA_at36 F
  unfold part
  simp only [isAgg, Sem.run_bind, run_underlying Tryz.underlying5, Result.andThen_ok, Sem.run_pure, this]
  rfl
theorem part_zero (F : Facts) (w : World) : (part 5 (fA F) 37).run Tryz.prog w = .ok (.int .u8 F.zero) w := by
  have := fA_at37 F
  unfold part
  simp only [isAgg, Sem.run_bind, run_underlying Tryz.underlying5, Result.andThen_ok, Sem.run_pure, this]
  rfl

theorem words_eq (V X : Nat) (hV : V < big) (hX : X < big) : ((List.range 36).all fun i => limb V i == limb X i) = decide (V = X) := by
  rw [Bool.eq_iff_iff]
  simp
  constructor
  · intro h
    rw [big_eq] at hV hX
    exact limb_ext 36 V X hV hX (fun i hi => h i hi)
  · rintro rfl; intro i _; rfl

theorem run_eql_facts (F G : Facts) (hF : F.V < big) (hG : G.V < big) (w : World) : (binOp .eql 87 (.agg (fA F)) (.agg (fA G))).run Tryz.prog w = .ok (.bool (decide (F.V = G.V ∧ F.saw = G.saw ∧ F.zero = G.zero))) w := by
  rw [run_eql_struct, run_equalIn_struct w 9999 87 _ _ (by kernel_rfl) (by kernel_rfl)]
  have hfs : ∃ s0 s1 s2 : Field, (Tryz.prog.fieldsOf 87).toList = [s0, s1, s2] ∧ s0.name ≠ "_" ∧ s1.name ≠ "_" ∧ s2.name ≠ "_" ∧ s0.type = 85 ∧ s0.offset = 0 ∧ s1.type = 5 ∧ s1.offset = 36 ∧ s2.type = 5 ∧ s2.offset = 37 := by
    refine ⟨_, _, _, rfl, by decide, by decide, by decide, rfl, rfl, rfl, rfl, rfl, rfl⟩
  obtain ⟨s0, s1, s2, hs, n0, n1, n2, t0, o0, t1, o1, t2, o2⟩ := hfs
  rw [hs]
  simp only [Op.eqFields, n0, n1, n2, t0, o0, t1, o1, t2, o2, ne_eq, not_false_eq_true, if_true, Sem.run_bind, part_words, part_saw, part_zero, Result.andThen_ok]
  rw [run_equalIn_words 9997 _ _ w, words_eq _ _ hF hG]
  simp only [Result.andThen_ok]
  have e5 : ∀ a b : Nat, (Op.equalIn 9999 5 (.int .u8 (a : Int)) (.int .u8 (b : Int))).run Tryz.prog w = .ok (decide (a = b)) w := fun a b => by
    rw [run_equalIn_int w 9998 5 .u8 .u8 _ _ Tryz.underlying5]
    congr 1
    rw [Bool.eq_iff_iff]; simp; omega
  by_cases h1 : F.V = G.V
  · by_cases h2 : F.saw = G.saw
    · by_cases h3 : F.zero = G.zero
      · simp [h1, h2, h3, e5, part_saw, part_zero, Result.andThen]
      · simp [h1, h2, h3, e5, part_saw, part_zero, Result.andThen]
    · simp [h1, h2, e5, part_saw, part_zero, Result.andThen]
  · simp [h1, Result.andThen]
end Go.Proofs.YtjcdnaandbockaaGreat

namespace Go.Proofs.YtjcdnaandbockaaGreat
open Go.RowKit Go.Shelf
attribute [local go_sem] Oper.semAt_some
set_option maxRecDepth 100000
set_option maxHeartbeats 1000000

section
variable {P : Program} {C : World → Prop} {a : Act} {o : Oper} {K : Act → Prop}
theorem quiet_loadp (ty : TypeId) (x : Operand) (ho : o.op = .load ty x) (g off : Nat) (cs : Array Value) (hx : a.eval x = .pointer (some ⟨g, off, none⟩)) (hrun : ∀ w, C w → (loadVar ty ⟨g, off, none⟩).run P w = .ok (.agg cs) w)
    (hk : K (a.put o.dst (.agg cs))) : o.quiet P a C K :=
  ⟨.agg cs, fun w hw => by
    unfold Oper.quietAt execOp
    simp only [ho, hx, Instr.loadAt, Instr.sureAddr, Sem.run_bind, Sem.run_pure, Result.andThen_ok, hrun w hw]
    exact ⟨rfl, rfl⟩, hk⟩
end

def possN (f : Facts) : Bool := decide (f.zero = 2) || (decide (f.zero < 2) && decide (f.V = 0 ∧ f.saw = 0))

theorem quiet_eqlf {P : Program} {C : World → Prop} {a : Act} {o : Oper} {K : Act → Prop} (t yt : TypeId) (x y : Operand) (ho : o.op = .binOp .eql t x y yt) (vx vy : Value) (v : Value) (hx : a.eval x = vx) (hy : a.eval y = vy)
    (hg : ∀ w, (eqGuard .eql t x y vx vy).run P w = .ok () w) (hrun : ∀ w, (binOp .eql t vx vy).run P w = .ok v w) (hk : K (a.put o.dst v)) : o.quiet P a C K :=
  ⟨v, fun w hw => by
    unfold Oper.quietAt execOp
    simp only [ho, hx, hy, Sem.run_bind, hg, hrun, Result.andThen_ok, Sem.run_pure]
    exact ⟨rfl, rfl⟩, hk⟩

theorem litFz (z : Nat) : #[Value.int IntKind.u64 0, Value.int IntKind.u64 0, Value.int IntKind.u64 0, Value.int IntKind.u64 0, Value.int IntKind.u64 0, Value.int IntKind.u64 0, Value.int IntKind.u64 0, Value.int IntKind.u64 0, Value.int IntKind.u64 0, Value.int IntKind.u64 0, Value.int IntKind.u64 0, Value.int IntKind.u64 0, Value.int IntKind.u64 0, Value.int IntKind.u64 0, Value.int IntKind.u64 0, Value.int IntKind.u64 0, Value.int IntKind.u64 0, Value.int IntKind.u64 0, Value.int IntKind.u64 0, Value.int IntKind.u64 0, Value.int IntKind.u64 0, Value.int IntKind.u64 0, Value.int IntKind.u64 0, Value.int IntKind.u64 0, Value.int IntKind.u64 0, Value.int IntKind.u64 0, Value.int IntKind.u64 0, Value.int IntKind.u64 0, Value.int IntKind.u64 0, Value.int IntKind.u64 0, Value.int IntKind.u64 0, Value.int IntKind.u64 0, Value.int IntKind.u64 0, Value.int IntKind.u64 0, Value.int IntKind.u64 0, Value.int IntKind.u64 0, Value.int IntKind.u8 0, Value.int IntKind.u8 z] = fA ⟨0, 0, z⟩ := by
  unfold fA
  have e : lA (limb 0) = #[Value.int IntKind.u64 0, Value.int IntKind.u64 0, Value.int IntKind.u64 0, Value.int IntKind.u64 0, Value.int IntKind.u64 0, Value.int IntKind.u64 0, Value.int IntKind.u64 0, Value.int IntKind.u64 0, Value.int IntKind.u64 0, Value.int IntKind.u64 0, Value.int IntKind.u64 0, Value.int IntKind.u64 0, Value.int IntKind.u64 0, Value.int IntKind.u64 0, Value.int IntKind.u64 0, Value.int IntKind.u64 0, Value.int IntKind.u64 0, Value.int IntKind.u64 0, Value.int IntKind.u64 0, Value.int IntKind.u64 0, Value.int IntKind.u64 0, Value.int IntKind.u64 0, Value.int IntKind.u64 0, Value.int IntKind.u64 0, Value.int IntKind.u64 0, Value.int IntKind.u64 0, Value.int IntKind.u64 0, Value.int IntKind.u64 0, Value.int IntKind.u64 0, Value.int IntKind.u64 0, Value.int IntKind.u64 0, Value.int IntKind.u64 0, Value.int IntKind.u64 0, Value.int IntKind.u64 0, Value.int IntKind.u64 0, Value.int IntKind.u64 0] := by rw [litZ]; exact lA_congr (fun j _ => limb_zero j)
  rw [e]
  rfl

theorem possible_any {w : World} {b o : Nat} {f : Facts} (h : FIn w b o f) (hV : f.V < big) :
    Calls Tryz.prog 54 #[.pointer (some ⟨b, o, none⟩)] w fun e w' => e = .returned (.bool (possN f)) ∧ Below w.heap.size w w' := by
  obtain ⟨c1, c2, hb⟩ := h.cells
  obtain ⟨V, saw, zz⟩ := f
  obtain ⟨t, pre, post, ho, hg⟩ := h
  simp only at c1 c2 hV hg
  have HL : Hid (∀ W : World, (∃ n, W = w.drewN n) → (loadVar 87 ⟨b, o, none⟩).run Tryz.prog W = .ok (.agg (fA ⟨V, saw, zz⟩)) W) := by
    rintro W ⟨n, rfl⟩
    exact run_load_part 87 pre (fA ⟨V, saw, zz⟩) post (t := t) (by show w.heap[b]? = _; rw [hg]; unfold fA; simp) ho.symm _ Tryz.underlying87 rfl (info40' _)
  clear hg
  by_cases h2 : zz = 2
  · subst h2
    have HE : Hid (possN ⟨V, saw, 2⟩ = true) := by show _ = _; unfold possN; simp
    go_enter Tryz.func54, Tryz.ntmps54
    go_wp2_with fail
    go_quiet (fail)
    go_wp2_with fail
    go_ret
    exact ⟨by rw [HE.out]; rfl, below_drewN (Below.refl _ _) _⟩
  · have hz1 : ((zz : Int) == 2) = false := beq_eq_false_iff_ne.2 (by omega)
    by_cases h3 : zz < 2
    · have HE : Hid (possN ⟨V, saw, zz⟩ = decide (V = 0 ∧ saw = 0)) := by show _ = _; unfold possN; simp [h2, h3]
      have hz2 : decide ((zz : Int) < 2) = true := decide_eq_true (by omega)
      go_enter Tryz.func54, Tryz.ntmps54
      go_wp2_with fail
      refine wp_region_quiet_lit (by kernel_rfl) (by kernel_rfl) ?_
      repeat (go_big_quiet_step (fail))
      refine BigFrame.wpQuiet_want rfl ?_
      intro K hK
      refine quiet_loadp 87 _ rfl b o (fA ⟨V, saw, zz⟩) rfl HL.out ?_
      refine hK _ ?_
      simp only [Act.put, List.setIfInBounds_toArray, List.set_cons_succ, List.set_cons_zero]
      repeat (go_big_quiet_step (fail))
      refine BigFrame.wpQuiet_want rfl ?_
      intro K2 hK2
      refine quiet_eqlf 87 _ _ _ rfl (.agg (fA ⟨V, saw, zz⟩)) (.agg (fA ⟨0, 0, zz⟩)) (.bool (decide (V = 0 ∧ saw = 0))) rfl (by rw [← litFz zz]; rfl) (fun W => run_eqGuard_agg W _ _ _ _ _ _ (by kernel_rfl)) (fun W => by
        have := run_eql_facts ⟨V, saw, zz⟩ ⟨0, 0, zz⟩ hV big_pos W
        simpa using this) ?_
      refine hK2 _ ?_
      simp only [Act.put, List.setIfInBounds_toArray, List.set_cons_succ, List.set_cons_zero]
      repeat (go_big_quiet_step (fail))
      refine wpQuiet_nil ?_
      intro _ hw'
      obtain ⟨nq, rfl⟩ := hw'
      go_wp2_with fail
      go_ret
      exact ⟨by rw [HE.out, Bool.decide_and]; rfl, below_drewN (Below.refl _ _) _⟩
    · have HE : Hid (possN ⟨V, saw, zz⟩ = false) := by show _ = _; unfold possN; simp [h2, h3]
      have hz2 : decide ((zz : Int) < 2) = false := decide_eq_false (by omega)
      go_enter Tryz.func54, Tryz.ntmps54
      go_wp2_with fail
      go_quiet (fail)
      go_wp2_with fail
      go_ret
      exact ⟨by rw [HE.out]; rfl, below_drewN (Below.refl _ _) _⟩
end Go.Proofs.YtjcdnaandbockaaGreat

namespace Go.Proofs.YtjcdnaandbockaaGreat
open Go.RowKit Go.Shelf
attribute [local go_sem] Oper.semAt_some
set_option maxRecDepth 100000
set_option maxHeartbeats 1000000

/-- Encode -/
theorem Encode_any {w : World} {b : Nat} {f : Facts} (h : AAt w b f) (hs : f.saw < 8) (hz : f.zero < 32) (hV : f.V < big) :
    Calls Tryz.prog 27 #[.pointer (some ⟨b, 0, none⟩)] w fun e w' => ∃ v, e = .returned (.tuple #[v, .int .i64 0]) ∧ NewBs w.heap.size w' v (encN f) ∧ Below w.heap.size w w' := by
  have hv := valid_any h
  have HE := Lib.hid (encode_any h.fin hs hz hV)
  clear h hs hz hV
  generalize encN f = L at *
  go_enter Tryz.func27, Tryz.ntmps27
  go_wp2_with (first | (with_reducible refine hv.mono ?_; clear hv; rintro e w1 ⟨rfl, rfl⟩) | (with_reducible refine HE.out.mono ?_; clear HE; rintro e w1 ⟨v, rfl, h1, h2⟩))
  go_ret2
  exact ⟨v, rfl, h1, h2⟩
end Go.Proofs.YtjcdnaandbockaaGreat

namespace Go.Proofs.YtjcdnaandbockaaGreat
open Go.RowKit Go.Shelf
attribute [local go_sem] Oper.semAt_some
set_option maxRecDepth 100000
set_option maxHeartbeats 2000000

/-- Same -/
theorem Same_any {w : World} {b b' : Nat} {f g : Facts} (h : AAt w b f) (h' : AAt w b' g) (hV : f.V < big) (hX : g.V < big) :
    Calls Tryz.prog 32 #[.pointer (some ⟨b, 0, none⟩), .pointer (some ⟨b', 0, none⟩)] w fun e w' => e = .returned (.bool (decide (f.V = g.V ∧ f.saw = g.saw ∧ f.zero = g.zero))) ∧ Below w.heap.size w w' := by
  have hv : ∀ n, Calls Tryz.prog 46 #[.pointer (some ⟨b, 0, none⟩)] (w.drewN n) fun e w' => e = .returned (.bool true) ∧ w' = w.drewN n := fun n => (valid_any (h.keep (below_drewN (Below.refl _ _) n))).mono fun _ _ ⟨h1, h2⟩ => ⟨h1, h2.symm⟩
  have hv' : ∀ n, Calls Tryz.prog 46 #[.pointer (some ⟨b', 0, none⟩)] (w.drewN n) fun e w' => e = .returned (.bool true) ∧ w' = w.drewN n := fun n => (valid_any (h'.keep (below_drewN (Below.refl _ _) n))).mono fun _ _ ⟨h1, h2⟩ => ⟨h1, h2.symm⟩
  have HL : Hid (∀ W : World, (∃ n, W = w.drewN n) → (loadVar 87 ⟨b, 1, none⟩).run Tryz.prog W = .ok (.agg (fA f)) W) := by
    rintro W ⟨n, rfl⟩
    exact run_load_part 87 #[.bool true] (fA f) #[] (t := 89) (by have : w.heap[b]? = some (.cells (#[.bool true] ++ fA f) 89 (0, 0)) := h; show w.heap[b]? = _; rw [this]; simp) rfl _ Tryz.underlying87 rfl (info40' _)
  have HL' : Hid (∀ W : World, (∃ n, W = w.drewN n) → (loadVar 87 ⟨b', 1, none⟩).run Tryz.prog W = .ok (.agg (fA g)) W) := by
    rintro W ⟨n, rfl⟩
    exact run_load_part 87 #[.bool true] (fA g) #[] (t := 89) (by have : w.heap[b']? = some (.cells (#[.bool true] ++ fA g) 89 (0, 0)) := h'; show w.heap[b']? = _; rw [this]; simp) rfl _ Tryz.underlying87 rfl (info40' _)
  have HV := Lib.hid hv; have HV' := Lib.hid hv'
  have hb := h.lt; have hb' := h'.lt
  have HE := Lib.hid (fun W => run_eql_facts f g hV hX W)
  clear h h' hv hv' hV hX
  generalize decide (f.V = g.V ∧ f.saw = g.saw ∧ f.zero = g.zero) = r at *
  generalize fA f = A at *
  generalize fA g = B at *
  go_enter Tryz.func32, Tryz.ntmps32
  go_wp2_with fail
  refine wp_region_quiet_lit (by kernel_rfl) (by kernel_rfl) ?_
  repeat (go_big_quiet_step (first | (go_at_call 46; first | (with_reducible refine Calls.quiet_of_same (HV.out _)) | (with_reducible refine Calls.quiet_of_same (HV'.out _)))))
  refine BigFrame.wpQuiet_want rfl ?_
  intro K hK
  refine quiet_loadp 87 _ rfl b 1 A rfl HL.out ?_
  refine hK _ ?_
  simp only [Act.put, List.setIfInBounds_toArray, List.set_cons_succ, List.set_cons_zero]
  repeat (go_big_quiet_step (fail))
  refine BigFrame.wpQuiet_want rfl ?_
  intro K2 hK2
  refine quiet_loadp 87 _ rfl b' 1 B rfl HL'.out ?_
  refine hK2 _ ?_
  simp only [Act.put, List.setIfInBounds_toArray, List.set_cons_succ, List.set_cons_zero]
  repeat (go_big_quiet_step (fail))
  refine BigFrame.wpQuiet_want rfl ?_
  intro K3 hK3
  refine quiet_eqlf 87 _ _ _ rfl (.agg A) (.agg B) (.bool r) rfl rfl (fun W => run_eqGuard_agg W _ _ _ _ _ _ (by kernel_rfl)) HE.out ?_
  refine hK3 _ ?_
  simp only [Act.put, List.setIfInBounds_toArray, List.set_cons_succ, List.set_cons_zero]
  repeat (go_big_quiet_step (fail))
  refine wpQuiet_nil ?_
  intro _ hw'
  obtain ⟨nq, rfl⟩ := hw'
  go_wp2_with fail
  go_ret
  exact ⟨rfl, below_drewN (Below.refl _ _) _⟩
end Go.Proofs.YtjcdnaandbockaaGreat

namespace Go.Proofs.YtjcdnaandbockaaGreat
open Go.RowKit Go.Shelf
set_option maxRecDepth 100000
set_option maxHeartbeats 2000000
theorem build40 (f : Nat → Nat) (s z : Nat) (w : World) : (Instr.build 87 #[(0, .agg (lA f)), (1, .int .u8 s), (2, .int .u8 z)]).run Tryz.prog w = .ok (.agg (lA f ++ #[.int .u8 s, .int .u8 z])) w := by
  unfold lA
  kernel_rfl
end Go.Proofs.YtjcdnaandbockaaGreat

namespace Go.Proofs.YtjcdnaandbockaaGreat
open Go.RowKit Go.Shelf
attribute [local go_sem] Oper.semAt_some litF0
set_option maxRecDepth 100000
set_option maxHeartbeats 4000000

/-- what the sum with some bytes knows -/
def decN (l : List Nat) : Facts := ⟨if l.getD 1 0 = 1 then opp (wordsN (l.drop 2)) else wordsN (l.drop 2), l.getD 0 0 % 8, l.getD 0 0 / 8⟩

theorem build40f (V s z : Nat) (w : World) : (Instr.build 87 #[(0, .agg (lA (limb V))), (1, .int .u8 s), (2, .int .u8 z)]).run Tryz.prog w = .ok (.agg (fA ⟨V, s, z⟩)) w := by
  rw [build40]; unfold fA; rfl
theorem sem_build3 {P : Program} {o : Oper} {a : Act} {w : World} {t : TypeId} {x y z : Operand} {vx vy vz : Value} {v : Value} (hop : o.op = .build t #[(0, x), (1, y), (2, z)]) (hx : a.eval x = vx) (hy : a.eval y = vy) (hz : a.eval z = vz) (h : (Instr.build t #[(0, vx), (1, vy), (2, vz)]).run P w = .ok v w) : (o.semAt none a.eval).run P w = .ok (.value v) w := by
  simp [Oper.semAt, hop, execOp, hx, hy, hz, h, Result.andThen]
theorem sem_slice2 {P : Program} {o : Oper} {a : Act} {w : World} {t : TypeId} {x y : Operand} {vx vy v : Value} (hop : o.op = .slice t x (some y) none none) (hx : a.eval x = vx) (hy : a.eval y = vy) (h : (Instr.sliceAt t vx (some vy) none none).run P w = .ok v w) : (o.semAt none a.eval).run P w = .ok (.value v) w := by
  simp [Oper.semAt, hop, execOp, hx, hy, h, Result.andThen]
theorem slice22 (b off n cap : Nat) (h : 2 ≤ n) (hc : n ≤ cap) (W : World) :
    (Instr.sliceAt 46 (.slice (some ⟨b, off, none⟩) n cap) (some (.int .i64 2)) none none).run Tryz.prog W = .ok (.slice (some ⟨b, if cap = 2 then off else off + 2, none⟩) (n - 2) (cap - 2)) W := by
  obtain ⟨i0, hi, hz0, hz1, hz2⟩ := info_parts Tryz.info5
  have hE : Tryz.prog.elem 46 = 5 := by kernel_rfl
  have hu : Tryz.prog.underlying 46 = some (.slice (Tryz.prog.elem 46)) := by rw [hE]; exact Tryz.underlying46
  rw [run_sliceAt_slice W 46 _ _ _ _ hu, run_slice_l W 46 _ n cap hu .i64 2 (by decide) (by omega), hE]
  have hs : (sizeOf 5).run Tryz.prog W = .ok 1 W := by simp [go_sem]
  rw [hs]
  by_cases e : cap = 2 <;> simp [Result.andThen, sliced, Addr.add, e]
theorem and7 (x : Nat) (hx : x < 256) (w : World) : (binOp .and 5 (.int .u8 x) (.int .u8 7)).run Tryz.prog w = .ok (.int .u8 ((x % 8 : Nat) : Int)) w := by
  have h : bits .and .u8 x ((7 : Nat) : Int) = ((x &&& 7 : Nat) : Int) := (bits_nat .u8 8 (by decide) (fun n h0 h1 => by rw [IntKind.wrap_u8]; omega) x 7 (by omega) (by omega)).1
  have e : x &&& 7 = x % 8 := Nat.and_two_pow_sub_one_eq_mod x 3
  rw [e] at h
  simp [go_sem]
  simpa using h
theorem shr3 (x : Nat) (hx : x < 256) (w : World) : (binOp .shr 5 (.int .u8 x) (.int .u64 3)).run Tryz.prog w = .ok (.int .u8 ((x / 8 : Nat) : Int)) w := by
  simp [go_sem]

theorem wordsN_big {l : List Nat} (h : ∀ x ∈ l, x < 256) (hl : l.length ≤ 280) : wordsN l < big := by
  unfold wordsN
  have h1 := valB_lt (rev l) (rev_lt h) l.length
  obtain ⟨m, hm, hm2⟩ : ∃ m, m < 36 ∧ 8 * l.length ≤ 64 * m := ⟨35, by decide, by omega⟩
  exact Nat.lt_of_lt_of_le h1 (Nat.le_trans (Nat.pow_le_pow_right (by decide) hm2) (big_ge m hm))

theorem decode_any {w : World} {a : Option Addr} {l : List Nat} (h : Bs w a l) (h2 : 2 ≤ l.length) (hl : l.length ≤ 282) (cap : Nat) (hcap : l.length ≤ cap) :
    Calls Tryz.prog 53 #[.slice a l.length cap] w fun e w' => e = .returned (.agg (fA (decN l))) ∧ Below w.heap.size w w' := by
  have hdl : (l.drop 2).length = l.length - 2 := by simp
  obtain ⟨b, off, rfl, hc⟩ := h.at_ (ne_nil_of_lt (k := 0) (by omega))
  obtain ⟨l0, hl0⟩ : ∃ x, x = l.getD 0 0 := ⟨_, rfl⟩
  obtain ⟨l1, hl1⟩ : ∃ x, x = l.getD 1 0 := ⟨_, rfl⟩
  have e0 : l[0]'(by omega) = l0 := by rw [hl0, List.getD_eq_getElem?_getD, List.getElem?_eq_getElem (by omega)]; rfl
  have e1 : l[1]'(by omega) = l1 := by rw [hl1, List.getD_eq_getElem?_getD, List.getElem?_eq_getElem (by omega)]; rfl
  have hs0 : l0 < 256 := by rw [← e0]; exact h.small _ (List.getElem_mem _)
  have hs1 : l1 < 256 := by rw [← e1]; exact h.small _ (List.getElem_mem _)
  have c0 : w.cell? ⟨b, off, none⟩ = some (.int .u8 (l0 : Nat)) := by rw [← e0]; exact hc 0 (by omega)
  have c1 : w.cell? ⟨b, off + 1, none⟩ = some (.int .u8 (l1 : Nat)) := by rw [← e1]; exact hc 1 (by omega)
  obtain ⟨a2, ha2⟩ : ∃ x : Option Addr, x = some ⟨b, if cap = 2 then off else off + 2, none⟩ := ⟨_, rfl⟩
  have h22 : Bs w a2 (l.drop 2) := ⟨by have := h.len; omega, fun x hx => h.small x (List.mem_of_mem_drop hx), fun hne => by
    have : 0 < (l.drop 2).length := List.length_pos_iff.2 hne
    refine ⟨b, off + 2, by rw [ha2, if_neg (by omega)], fun j hj => ?_⟩
    have := hc (2 + j) (by omega)
    rw [Nat.add_assoc, this]
    simp⟩
  have HSL : Hid (∀ W, (Instr.sliceAt 46 (.slice (some ⟨b, off, none⟩) l.length cap) (some (.int .i64 2)) none none).run Tryz.prog W = .ok (.slice a2 (l.drop 2).length (cap - 2)) W) := Lib.hid (fun W => by rw [hdl, ha2]; exact slice22 b off l.length cap h2 hcap W)
  obtain ⟨sv, hsv⟩ : ∃ s, s = l0 % 8 := ⟨_, rfl⟩
  obtain ⟨zv, hzv⟩ : ∃ s, s = l0 / 8 := ⟨_, rfl⟩
  have HAN : Hid (∀ W, (binOp .and 5 (.int .u8 l0) (.int .u8 7)).run Tryz.prog W = .ok (.int .u8 (sv : Int)) W) := by rw [hsv]; exact Lib.hid (fun W => and7 l0 hs0 W)
  have HSH : Hid (∀ W, (binOp .shr 5 (.int .u8 l0) (.int .u64 3)).run Tryz.prog W = .ok (.int .u8 (zv : Int)) W) := by rw [hzv]; exact Lib.hid (fun W => shr3 l0 hs0 W)
  have HLN : Hid (¬ l.length = 0 ∧ 0 < l.length ∧ (0 : Int) < l.length ∧ 1 < l.length ∧ (1 : Int) < l.length) := Lib.hid (by omega)
  have hb0 : Below w.heap.size w (w.alloc (.cells (fA ⟨0, 0, 0⟩) 87)) := (Below.refl _ _).alloc (Nat.le_refl _) _
  have HQ0 : Hid (FAt (w.alloc (.cells (fA ⟨0, 0, 0⟩) 87)) w.heap.size ⟨0, 0, 0⟩) := heap_alloc_new w _
  have HE : Hid (decN l = ⟨if l1 = 1 then opp (wordsN (l.drop 2)) else wordsN (l.drop 2), sv, zv⟩) := by show _ = _; rw [hsv, hzv, hl0, hl1]; rfl
  have HVB : Hid (wordsN (l.drop 2) < big) := Lib.hid (wordsN_big h22.small (by omega))
  have hbl : b < w.heap.size := block_lt_of_cell c0
  obtain ⟨X, hX⟩ : ∃ X, X = w.alloc (.cells (fA ⟨0, 0, 0⟩) 87) := ⟨_, rfl⟩
  rw [← hX] at hb0 HQ0
  have hszx : w.heap.size < X.heap.size := by rw [hX]; simp
  have HBX := Lib.hid hb0
  have hszw : w.heap.size ≤ X.heap.size := hb0.size
  have HC : Hid (∀ W, Below X.heap.size X W → W.cell? ⟨b, off, none⟩ = some (.int .u8 (l0 : Nat))) := Lib.hid (fun W hW => ((hW.mono (Nat.le_refl _)).cell (p := ⟨b, off, none⟩) (by show b < _; omega)).trans ((hb0.cell (p := ⟨b, off, none⟩) hbl).trans c0))
  have HC1 : Hid (∀ W, Below X.heap.size X W → W.cell? ⟨b, off + 1, none⟩ = some (.int .u8 (l1 : Nat))) := Lib.hid (fun W hW => ((hW.mono (Nat.le_refl _)).cell (p := ⟨b, off + 1, none⟩) (by show b < _; omega)).trans ((hb0.cell (p := ⟨b, off + 1, none⟩) hbl).trans c1))
  have HWO : Hid (∀ W, Below X.heap.size X W → Calls Tryz.prog 78 #[.slice a2 (l.drop 2).length (cap - 2)] W fun e w' => e = .returned (.agg (lA (limb (wordsN (l.drop 2))))) ∧ Below W.heap.size W w') :=
    Lib.hid (fun W hW => wordsOf_any ((h22.keep hb0).keep hW) (by omega) _)
  clear hsv hzv hc e0 e1 hl0 hl1 hs0 hs1 c0 c1 ha2 h22 hb0 h hdl h2 hl hcap
  go_enter Tryz.func53, Tryz.ntmps53
  go_wp2_with fail
  rw [← hX]
  refine (wpIn_wide (n := 0)).1 ?_
  refine region_det (by kernel_rfl) (I := fun listed a' w' => ∃ (g : Nat), Hid (Below X.heap.size X w') ∧ Hid (listed.getD 12 false = true → FAt w' g (if listed.getD 13 false = true then ⟨wordsN (l.drop 2), sv, zv⟩ else ⟨0, 0, 0⟩) ∧ X.heap.size ≤ g) ∧ Hid (listed.getD 13 false = true → listed.getD 12 false = true) ∧ a' = ⟨#[Value.slice (some ⟨b, off, none⟩) l.length cap, undef, Value.pointer (some ⟨w.heap.size, 0, none⟩), (if listed.getD 12 false = true then Value.pointer (some ⟨g, 0, none⟩) else undef), (if listed.getD 0 false = true then Value.slice (some ⟨b, off, none⟩) l.length cap else undef), (if listed.getD 1 false = true then Value.slice a2 (l.drop 2).length (cap - 2) else undef), (if listed.getD 2 false = true then Value.agg (lA (limb (wordsN (l.drop 2)))) else undef), (if listed.getD 3 false = true then Value.slice (some ⟨b, off, none⟩) l.length cap else undef), (if listed.getD 4 false = true then Value.pointer (some ⟨b, off, none⟩) else undef), (if listed.getD 5 false = true then Value.int IntKind.u8 (l0 : Nat) else undef), (if listed.getD 6 false = true then Value.int IntKind.u8 ↑sv else undef), (if listed.getD 7 false = true then Value.slice (some ⟨b, off, none⟩) l.length cap else undef), (if listed.getD 8 false = true then Value.pointer (some ⟨b, off, none⟩) else undef), (if listed.getD 9 false = true then Value.int IntKind.u8 (l0 : Nat) else undef), (if listed.getD 10 false = true then Value.int IntKind.u8 ↑zv else undef), (if listed.getD 11 false = true then Value.agg (fA ⟨wordsN (l.drop 2), sv, zv⟩) else undef), undef, undef, undef, undef, undef, undef, undef, undef, undef], []⟩) (hup_check (by kernel_rfl)) ?h0 ?step ?fin
  case h0 => exact ⟨0, (Below.refl _ _).drew, (fun h => by simp at h), (fun h => by simp at h), rfl⟩
  case step =>
    intro listed a' w' i hs hbi hdep hi ⟨g, IB, IG, J13, ha⟩
    obtain ⟨ls⟩ := listed
    match ls, hs with
    | [x0, x1, x2, x3, x4, x5, x6, x7, x8, x9, x10, x11, x12, x13], _ =>
    subst ha
    have hi' : i = 0 ∨ i = 1 ∨ i = 2 ∨ i = 3 ∨ i = 4 ∨ i = 5 ∨ i = 6 ∨ i = 7 ∨ i = 8 ∨ i = 9 ∨ i = 10 ∨ i = 11 ∨ i = 12 ∨ i = 13 := by simp at hi; omega
    have hsz : X.heap.size ≤ w'.heap.size := IB.out.size
    have c0 := HC.out w' IB.out
    rcases hi' with rfl | rfl | rfl | rfl | rfl | rfl | rfl | rfl | rfl | rfl | rfl | rfl | rfl | rfl
    · obtain rfl : x0 = false := by simpa using hbi
      refine wpOpIn_plain rfl rfl rfl ?_
      exact ⟨g, IB, IG, J13, rfl⟩
    · obtain rfl : x1 = false := by simpa using hbi
      obtain rfl : x0 = true := hdep _ rfl ⟨0, .data⟩ (by simp) rfl
      refine wpOpIn_plain (v := Value.slice a2 (l.drop 2).length (cap - 2)) (w' := w') rfl rfl (sem_slice2 rfl rfl rfl (HSL.out w')) ?_
      exact ⟨g, IB, IG, J13, rfl⟩
    · obtain rfl : x2 = false := by simpa using hbi
      obtain rfl : x1 = true := hdep _ rfl ⟨1, .data⟩ (by simp) rfl
      refine wpOpIn_call (args := #[Value.slice a2 (l.drop 2).length (cap - 2)]) rfl rfl (sem_call1 rfl rfl (enters_of Tryz.func78 (by kernel_rfl) rfl)) (HWO.out w' IB.out) ?_
      rintro e W ⟨rfl, hb⟩
      exact ⟨_, rfl, g, (IB.out.trans (hb.mono hsz)), (fun h => ⟨(hb.block _ (IG.out h).1.lt).trans (IG.out h).1, (IG.out h).2⟩), J13, rfl⟩
    · obtain rfl : x3 = false := by simpa using hbi
      refine wpOpIn_plain rfl rfl rfl ?_
      exact ⟨g, IB, IG, J13, rfl⟩
    · obtain rfl : x4 = false := by simpa using hbi
      obtain rfl : x3 = true := hdep _ rfl ⟨3, .data⟩ (by simp) rfl
      refine wpOpIn_plain (v := Value.pointer (some ⟨b, off, none⟩)) (w' := w') rfl rfl (by simp [Oper.semAt, execOp, go_sem, Addr.add, HLN.out]) ?_
      exact ⟨g, IB, IG, J13, rfl⟩
    · obtain rfl : x5 = false := by simpa using hbi
      obtain rfl : x4 = true := hdep _ rfl ⟨4, .data⟩ (by simp) rfl
      refine wpOpIn_plain (v := Value.int IntKind.u8 (l0 : Nat)) (w' := w') rfl rfl (by simp [Oper.semAt, execOp, go_sem, c0]) ?_
      exact ⟨g, IB, IG, J13, rfl⟩
    · obtain rfl : x6 = false := by simpa using hbi
      obtain rfl : x5 = true := hdep _ rfl ⟨5, .data⟩ (by simp) rfl
      refine wpOpIn_plain (v := Value.int IntKind.u8 ↑sv) (w' := w') rfl rfl (sem_bin (vx := Value.int IntKind.u8 (l0 : Nat)) (vy := Value.int IntKind.u8 7) rfl rfl rfl rfl (HAN.out w')) ?_
      exact ⟨g, IB, IG, J13, rfl⟩
    · obtain rfl : x7 = false := by simpa using hbi
      refine wpOpIn_plain rfl rfl rfl ?_
      exact ⟨g, IB, IG, J13, rfl⟩
    · obtain rfl : x8 = false := by simpa using hbi
      obtain rfl : x7 = true := hdep _ rfl ⟨7, .data⟩ (by simp) rfl
      refine wpOpIn_plain (v := Value.pointer (some ⟨b, off, none⟩)) (w' := w') rfl rfl (by simp [Oper.semAt, execOp, go_sem, Addr.add, HLN.out]) ?_
      exact ⟨g, IB, IG, J13, rfl⟩
    · obtain rfl : x9 = false := by simpa using hbi
      obtain rfl : x8 = true := hdep _ rfl ⟨8, .data⟩ (by simp) rfl
      refine wpOpIn_plain (v := Value.int IntKind.u8 (l0 : Nat)) (w' := w') rfl rfl (by simp [Oper.semAt, execOp, go_sem, c0]) ?_
      exact ⟨g, IB, IG, J13, rfl⟩
    · obtain rfl : x10 = false := by simpa using hbi
      obtain rfl : x9 = true := hdep _ rfl ⟨9, .data⟩ (by simp) rfl
      refine wpOpIn_plain (v := Value.int IntKind.u8 ↑zv) (w' := w') rfl rfl (sem_bin (vx := Value.int IntKind.u8 (l0 : Nat)) (vy := Value.int IntKind.u64 3) rfl rfl rfl rfl (HSH.out w')) ?_
      exact ⟨g, IB, IG, J13, rfl⟩
    · obtain rfl : x11 = false := by simpa using hbi
      obtain rfl : x2 = true := hdep _ rfl ⟨2, .data⟩ (by simp) rfl
      obtain rfl : x6 = true := hdep _ rfl ⟨6, .data⟩ (by simp) rfl
      obtain rfl : x10 = true := hdep _ rfl ⟨10, .data⟩ (by simp) rfl
      refine wpOpIn_plain (v := Value.agg (fA ⟨wordsN (l.drop 2), sv, zv⟩)) (w' := w') rfl rfl (sem_build3 rfl rfl rfl rfl (build40f (wordsN (l.drop 2)) sv zv w')) ?_
      exact ⟨g, IB, IG, J13, rfl⟩
    · obtain rfl : x12 = false := by simpa using hbi
      obtain rfl : x13 = false := Bool.eq_false_iff.2 fun h => by have := J13.out h; cases this
      refine wpOpIn_plain (v := Value.pointer (some ⟨w'.heap.size, 0, none⟩)) (w' := w'.alloc (.cells (fA ⟨0, 0, 0⟩) 87)) rfl rfl (by simp [Oper.semAt, execOp, go_sem, litF0]) ?_
      exact ⟨w'.heap.size, (IB.out.alloc hsz _), (fun _ => ⟨heap_alloc_new w' _, hsz⟩), (fun _ => rfl), rfl⟩
    · obtain rfl : x13 = false := by simpa using hbi
      obtain rfl : x12 = true := hdep _ rfl ⟨12, .data⟩ (by simp) rfl
      obtain rfl : x11 = true := hdep _ rfl ⟨11, .data⟩ (by simp) rfl
      obtain ⟨g1, g2⟩ := IG.out rfl
      refine wpOpIn_store_row rfl rfl 87 _ _ rfl g (fA ⟨wordsN (l.drop 2), sv, zv⟩) rfl rfl 87 _ g1 (info40' _) (by simp) (fA_one _) ?_
      exact ⟨g, (IB.out.trans (below_setRow g2 _)), (fun _ => ⟨(setRow_heap _ g _ (fA ⟨wordsN (l.drop 2), sv, zv⟩) 87 _ g1), g2⟩), (fun _ => rfl), rfl⟩
  case fin =>
  intro listed a' Z hs hall ⟨g, IB, IG, J13, ha⟩
  obtain ⟨ls⟩ := listed
  match ls, hs with
  | [x0, x1, x2, x3, x4, x5, x6, x7, x8, x9, x10, x11, x12, x13], _ =>
  obtain rfl : x0 = true := hall 0 (by simp)
  obtain rfl : x1 = true := hall 1 (by simp)
  obtain rfl : x2 = true := hall 2 (by simp)
  obtain rfl : x3 = true := hall 3 (by simp)
  obtain rfl : x4 = true := hall 4 (by simp)
  obtain rfl : x5 = true := hall 5 (by simp)
  obtain rfl : x6 = true := hall 6 (by simp)
  obtain rfl : x7 = true := hall 7 (by simp)
  obtain rfl : x8 = true := hall 8 (by simp)
  obtain rfl : x9 = true := hall 9 (by simp)
  obtain rfl : x10 = true := hall 10 (by simp)
  obtain rfl : x11 = true := hall 11 (by simp)
  obtain rfl : x12 = true := hall 12 (by simp)
  obtain rfl : x13 = true := hall 13 (by simp)
  subst ha
  obtain ⟨g1, g2⟩ := IG.out rfl
  have hb := IB.out
  have c1 := HC1.out Z hb
  have hn1 := HLN.out.2.2.2.2
  clear J13 IG IB hall hs
  dsimp only [Exit.then, Exit.inBlock]
  have HG1 : Hid (Z.heap[g]? = some (.cells (#[] ++ lA (limb (wordsN (l.drop 2))) ++ #[.int .u8 sv, .int .u8 zv]) 87 (0, 0))) := by have := g1; unfold FAt fA at this; show _ = _; rw [this]; simp
  have HF1 := Lib.hid g1
  by_cases h1 : l1 = 1
  · have e1 : ((l1 : Int) == 1) = true := by rw [beq_iff_eq]; omega
    rw [if_pos h1] at HE
    clear h1
    go_wp2_with (refine wpList_load_part rfl 85 _ rfl g 0 rfl 87 #[] (lA (limb (wordsN (l.drop 2)))) #[.int .u8 sv, .int .u8 zv] _ HG1.out rfl und38 rfl (info38' _) ?_)
    refine (opposite_any (wordsN (l.drop 2)) HVB.out Z).mono ?_
    rintro e Z1 ⟨rfl, hb1⟩
    have HG2 : Hid (Z1.heap[g]? = some (.cells (#[] ++ lA (limb (wordsN (l.drop 2))) ++ #[.int .u8 sv, .int .u8 zv]) 87 (0, 0))) := (hb1.block g g1.lt).trans HG1.out
    have HG3 : Hid ((Z1.setRow g (lA (limb (opp (wordsN (l.drop 2)))) ++ #[.int .u8 sv, .int .u8 zv])).heap[g]? = some (.cells (fA ⟨opp (wordsN (l.drop 2)), sv, zv⟩) 87 (0, 0))) := by have := setRow_heap Z1 g _ (lA (limb (opp (wordsN (l.drop 2)))) ++ #[.int .u8 sv, .int .u8 zv]) 87 _ HG2.out; show _ = _; rw [this]; unfold fA; rfl
    have HG4 : Hid ((Z1.setRow g (#[] ++ lA (limb (opp (wordsN (l.drop 2)))) ++ #[.int .u8 sv, .int .u8 zv])).heap[g]? = some (.cells (fA ⟨opp (wordsN (l.drop 2)), sv, zv⟩) 87 (0, 0))) := by rw [Array.empty_append]; exact HG3
    have hb9 : Below w.heap.size w (Z1.setRow g (lA (limb (opp (wordsN (l.drop 2)))) ++ #[.int .u8 sv, .int .u8 zv])) := (HBX.out.trans ((hb.trans (hb1.mono hb.size)).mono hszw)).trans (below_setRow (Nat.le_trans hszw g2) _)
    have HQ1 : Hid ((Z1.setRow g (lA (limb (opp (wordsN (l.drop 2)))) ++ #[.int .u8 sv, .int .u8 zv])).heap[w.heap.size]? = some (.cells (fA ⟨0, 0, 0⟩) 87 (0, 0))) := (Go.setRow_other _ _ _ _ (by omega)).trans ((hb1.block _ (by have := hb.size; omega)).trans ((hb.block _ hszx).trans HQ0.out))
    have HQ2 : Hid ((Z1.setRow g (#[] ++ lA (limb (opp (wordsN (l.drop 2)))) ++ #[.int .u8 sv, .int .u8 zv])).heap[w.heap.size]? = some (.cells (fA ⟨0, 0, 0⟩) 87 (0, 0))) := by rw [Array.empty_append]; exact HQ1
    go_wp2_with (first | (refine wpList_store_part rfl 85 _ _ rfl g 0 (lA (limb (opp (wordsN (l.drop 2))))) rfl rfl 87 #[] _ _ HG2.out rfl (info38' _) (by simp) (lA_one _) ?_) | (refine wpList_load_row rfl 87 _ rfl g rfl 87 _ _ _ HG4.out Tryz.underlying87 rfl (info40' _) ?_) | (refine wpList_load_row rfl 87 _ rfl g rfl 87 _ _ _ HG3.out Tryz.underlying87 rfl (info40' _) ?_) | (refine wpList_store_row rfl 87 _ _ rfl w.heap.size (fA ⟨opp (wordsN (l.drop 2)), sv, zv⟩) rfl rfl 87 _ HQ1.out (info40' _) (by simp) (fA_one _) ?_) | (refine wpList_store_row rfl 87 _ _ rfl w.heap.size (fA ⟨opp (wordsN (l.drop 2)), sv, zv⟩) rfl rfl 87 _ HQ2.out (info40' _) (by simp) (fA_one _) ?_))
    try rw [Array.empty_append]
    have hr := setRow_heap _ w.heap.size _ (fA ⟨opp (wordsN (l.drop 2)), sv, zv⟩) 87 _ HQ1.out
    have hb8 := hb9.trans (below_setRow (Nat.le_refl w.heap.size) (fA ⟨opp (wordsN (l.drop 2)), sv, zv⟩))
    generalize (Z1.setRow g (lA (limb (opp (wordsN (l.drop 2)))) ++ #[.int .u8 sv, .int .u8 zv])).setRow w.heap.size (fA ⟨opp (wordsN (l.drop 2)), sv, zv⟩) = Z9 at *
    refine bodyPost_ret (v := .agg (fA ⟨opp (wordsN (l.drop 2)), sv, zv⟩)) ?_ rfl ⟨by rw [HE.out], hb8⟩
    simp [results, Act.put, run_loadVar_row Z9 _ 87 87 _ _ _ hr Tryz.underlying87 rfl (info40' _), Tryz.results53, asAddr]
  · have e1 : ((l1 : Int) == 1) = false := by rw [beq_eq_false_iff_ne]; omega
    rw [if_neg h1] at HE
    clear h1
    have HQ1 : Hid (Z.heap[w.heap.size]? = some (.cells (fA ⟨0, 0, 0⟩) 87 (0, 0))) := (hb.block _ hszx).trans HQ0.out
    go_wp2_with (first | (refine wpList_load_row rfl 87 _ rfl g rfl 87 _ _ _ HF1.out Tryz.underlying87 rfl (info40' _) ?_) | (refine wpList_store_row rfl 87 _ _ rfl w.heap.size (fA ⟨wordsN (l.drop 2), sv, zv⟩) rfl rfl 87 _ HQ1.out (info40' _) (by simp) (fA_one _) ?_))
    have hr := setRow_heap _ w.heap.size _ (fA ⟨wordsN (l.drop 2), sv, zv⟩) 87 _ HQ1.out
    have hb8 := (HBX.out.trans (hb.mono hszw)).trans (below_setRow (Nat.le_refl w.heap.size) (fA ⟨wordsN (l.drop 2), sv, zv⟩))
    generalize Z.setRow w.heap.size (fA ⟨wordsN (l.drop 2), sv, zv⟩) = Z9 at *
    refine bodyPost_ret (v := .agg (fA ⟨wordsN (l.drop 2), sv, zv⟩)) ?_ rfl ⟨by rw [HE.out], hb8⟩
    simp [results, Act.put, run_loadVar_row Z9 _ 87 87 _ _ _ hr Tryz.underlying87 rfl (info40' _), Tryz.results53, asAddr]
end Go.Proofs.YtjcdnaandbockaaGreat

namespace Go.Proofs.YtjcdnaandbockaaGreat
open Go.RowKit Go.Shelf
attribute [local go_sem] Oper.semAt_some
set_option maxRecDepth 100000
set_option maxHeartbeats 1000000

def strN (l : List Nat) : ByteArray := ⟨(l.map UInt8.ofNat).toArray⟩
theorem strN_inj {l m : List Nat} (hl : ∀ x ∈ l, x < 256) (hm : ∀ x ∈ m, x < 256) (h : strN l = strN m) : l = m := by
  have h1 : l.map UInt8.ofNat = m.map UInt8.ofNat := by
    have := congrArg ByteArray.data h
    have := congrArg Array.toList this
    simpa [strN] using this
  have h2 := congrArg (List.map UInt8.toNat) h1
  have e : ∀ (k : List Nat), (∀ x ∈ k, x < 256) → (k.map UInt8.ofNat).map UInt8.toNat = k := fun k hk => by
    rw [List.map_map]
    conv => rhs; rw [← List.map_id k]
    refine List.map_congr_left fun x hx => ?_
    show (UInt8.ofNat x).toNat = x
    rw [UInt8.toNat_ofNat']
    exact Nat.mod_eq_of_lt (hk x hx)
  rwa [e l hl, e m hm] at h2
theorem conv_str {w : World} {a : Option Addr} {l : List Nat} (h : Bs w a l) (hne : l ≠ []) (cap : Nat) : (convert 46 9 (.slice a l.length cap)).run Tryz.prog w = .ok (.string (strN l)) w := by
  obtain ⟨b, off, rfl, hc⟩ := h.at_ hne
  have := run_convert_bytes_back (P := Tryz.prog) w 46 9 5 ⟨b, off, none⟩ cap (l.map UInt8.ofNat) Tryz.underlying46 Tryz.underlying5 Tryz.underlying9 (fun j hj => by
    have hj' : j < l.length := by simpa using hj
    have e : (⟨b, off, none⟩ : Addr).add j = ⟨b, off + j, none⟩ := by unfold Addr.add; split <;> simp_all
    rw [e, hc j hj']
    simp [Nat.mod_eq_of_lt (h.small _ (List.getElem_mem hj'))])
  rw [List.length_map] at this
  exact this
theorem str_eq {l m : List Nat} (hl : ∀ x ∈ l, x < 256) (hm : ∀ x ∈ m, x < 256) : ((strN l).toList == (strN m).toList) = decide (l = m) := by
  by_cases h : l = m
  · subst h; simp
  · rw [decide_eq_false h, beq_eq_false_iff_ne]
    intro e
    exact h (strN_inj hl hm (by unfold strN at e ⊢; simp only [ByteArray.toList_mk] at e; rw [e]))

theorem equal_any {w : World} {a a' : Option Addr} {l m : List Nat} (h : Bs w a l) (h' : Bs w a' m) (hl : l ≠ []) (hm : m ≠ []) (cap cap' : Nat) :
    Calls Tryz.prog 55 #[.slice a l.length cap, .slice a' m.length cap'] w fun e w' => e = .returned (.bool (decide (l = m))) ∧ w = w' := by
  have h1 := conv_str h hl cap
  have h2 := conv_str h' hm cap'
  have h3 := str_eq h.small h'.small
  clear h h' hl hm
  go_enter Tryz.func55, Tryz.ntmps55
  go_wp2_with fail
  go_ret
  exact ⟨by first | rw [h3] | simp [h3], rfl⟩
end Go.Proofs.YtjcdnaandbockaaGreat

namespace Go.Proofs.YtjcdnaandbockaaGreat
open Go.RowKit Go.Shelf
attribute [local go_sem] Oper.semAt_some litF0
set_option maxRecDepth 100000
set_option maxHeartbeats 1000000

theorem Decode_short {w : World} {a : Option Addr} {n : Nat} (cap : Nat) (h : n < 2) :
    Calls Tryz.prog 29 #[.slice a n cap] w fun e w' => e = .returned (.tuple #[.pointer none, .int .i64 7]) ∧ Below w.heap.size w w' := by
  have h1 : ¬ (282 : Int) < n := by omega
  have h2 : (n : Int) < 2 := by omega
  have hb0 : Below w.heap.size w (w.alloc (.cells (fA ⟨0, 0, 0⟩) 87)) := (Below.refl _ _).alloc (Nat.le_refl _) _
  clear h
  go_enter Tryz.func29, Tryz.ntmps29
  go_wp2_with fail
  go_ret2
  exact ⟨rfl, by first | exact hb0 | exact Below.refl _ _⟩
theorem Decode_long {w : World} {a : Option Addr} {n : Nat} (cap : Nat) (h : 282 < n) :
    Calls Tryz.prog 29 #[.slice a n cap] w fun e w' => e = .returned (.tuple #[.pointer none, .int .i64 8]) ∧ Below w.heap.size w w' := by
  have h1 : (282 : Int) < n := by omega
  have hb0 : Below w.heap.size w (w.alloc (.cells (fA ⟨0, 0, 0⟩) 87)) := (Below.refl _ _).alloc (Nat.le_refl _) _
  clear h
  go_enter Tryz.func29, Tryz.ntmps29
  go_wp2_with fail
  go_ret2
  exact ⟨rfl, by first | exact hb0 | exact Below.refl _ _⟩
/-- is a list of bytes a sum's -/
def decOk (l : List Nat) : Prop := possN (decN l) = true ∧ encN (decN l) = l
instance (l : List Nat) : Decidable (decOk l) := by unfold decOk; infer_instance
theorem decN_big {l : List Nat} (h : ∀ x ∈ l, x < 256) (hl : l.length ≤ 282) : (decN l).V < big := by
  unfold decN
  simp only
  split
  · exact opp_lt _
  · exact wordsN_big (fun x hx => h x (List.mem_of_mem_drop hx)) (by rw [List.length_drop]; omega)
theorem decN_small {l : List Nat} (h : ∀ x ∈ l, x < 256) : (decN l).saw < 8 ∧ (decN l).zero < 32 := by
  have : l.getD 0 0 < 256 := by
    cases l with
    | nil => decide
    | cons x l => exact h x (by simp)
  unfold decN
  simp only
  omega

theorem encN_small {f : Facts} (hs : f.saw < 8) (hz : f.zero < 32) : ∀ x ∈ encN f, x < 256 := by
  intro x hx
  unfold encN at hx
  rcases List.mem_cons.1 hx with rfl | hx
  · omega
  rcases List.mem_cons.1 hx with rfl | hx
  · split <;> decide
  · exact bytesN_small _ x hx
theorem NewBs.bs {B : Nat} {w : World} {v : Value} {l : List Nat} (h : NewBs B w v l) (hne : l ≠ []) (hs : ∀ x ∈ l, x < 256) : ∃ a cap, v = .slice a l.length cap ∧ Bs w a l := by
  obtain ⟨⟨h1, h2⟩, h3⟩ := h
  rcases h2 with ⟨_, h⟩ | ⟨g, cap, cur, rfl, hg, hb, hc, hm, hz, ht⟩
  · exact absurd (List.eq_nil_of_length_eq_zero h) hne
  · refine ⟨_, cap, rfl, h3, hs, fun _ => ⟨g, 0, rfl, fun j hj => ?_⟩⟩
    rw [cell_of_row w g _ _ _ _ hb, Nat.zero_add]
    have e : cur.toList[j]? = (bvals l)[j]? := by
      rw [← ht, List.getElem?_take_of_lt (by omega)]
    rw [← Array.getElem?_toList, e]
    simp [bvals, hj]
theorem encN_ne (f : Facts) : encN f ≠ [] := by unfold encN; simp
theorem fold42 (f : Facts) : Array.foldl (fun cs x => cs.setIfInBounds (1 + x.snd) x.fst) #[Value.bool true, Value.int IntKind.u64 0, Value.int IntKind.u64 0, Value.int IntKind.u64 0, Value.int IntKind.u64 0, Value.int IntKind.u64 0, Value.int IntKind.u64 0, Value.int IntKind.u64 0, Value.int IntKind.u64 0, Value.int IntKind.u64 0, Value.int IntKind.u64 0, Value.int IntKind.u64 0, Value.int IntKind.u64 0, Value.int IntKind.u64 0, Value.int IntKind.u64 0, Value.int IntKind.u64 0, Value.int IntKind.u64 0, Value.int IntKind.u64 0, Value.int IntKind.u64 0, Value.int IntKind.u64 0, Value.int IntKind.u64 0, Value.int IntKind.u64 0, Value.int IntKind.u64 0, Value.int IntKind.u64 0, Value.int IntKind.u64 0, Value.int IntKind.u64 0, Value.int IntKind.u64 0, Value.int IntKind.u64 0, Value.int IntKind.u64 0, Value.int IntKind.u64 0, Value.int IntKind.u64 0, Value.int IntKind.u64 0, Value.int IntKind.u64 0, Value.int IntKind.u64 0, Value.int IntKind.u64 0, Value.int IntKind.u64 0, Value.int IntKind.u64 0, Value.int IntKind.u8 0, Value.int IntKind.u8 0] (fA f).zipIdx 0 38 = #[Value.bool true] ++ fA f := by
  unfold fA lA
  kernel_rfl
theorem run_storeF {w : World} {g : Nat} {f0 : Facts} (hg : w.heap[g]? = some (.cells (fA f0) 87 (0, 0))) (f : Facts) :
    (storeCells ⟨g, 0, none⟩ (fA f).toList).run Tryz.prog w = .ok () (w.setRow g (fA f)) := by
  have h := run_storeCells_mid (P := Tryz.prog) g 0 87 (fA f).toList 0 (fA f0) w hg (by simp) (fun v hv => (Array.all_eq_true_iff_forall_mem.1 (fA_one f)) v (by simpa using hv))
  have e : ((fA f0).toList.take (0 + 0) ++ (fA f).toList ++ (fA f0).toList.drop (0 + 0 + (fA f).toList.length)).toArray = fA f := by
    rw [List.drop_eq_nil_of_le (by simp)]
    simp
  rwa [e] at h

theorem Decode_any {w : World} {a : Option Addr} {l : List Nat} (h : Bs w a l) (h2 : 2 ≤ l.length) (hl : l.length ≤ 282) (cap : Nat) (hcap : l.length ≤ cap) :
    Calls Tryz.prog 29 #[.slice a l.length cap] w fun e w' => Below w.heap.size w w' ∧ if decOk l then ∃ b, e = .returned (.tuple #[.pointer (some ⟨b, 0, none⟩), .int .i64 0]) ∧ w.heap.size ≤ b ∧ AAt w' b (decN l) else e = .returned (.tuple #[.pointer none, .int .i64 7]) := by
  have h1 : ¬ (282 : Int) < l.length := by omega
  have h2' : ¬ (l.length : Int) < 2 := by omega
  have HD := Lib.hid (decode_any h h2 hl cap hcap)
  have HS := Lib.hid (decN_small h.small)
  have HV := Lib.hid (decN_big h.small hl)
  have HBs := Lib.hid h
  have HL2 := Lib.hid h2
  have HNE : Hid (l ≠ []) := Lib.hid (ne_nil_of_lt (k := 0) (by omega))
  clear h h2 hl hcap
  go_enter Tryz.func29, Tryz.ntmps29
  go_wp2_with (refine HD.out.mono ?_; rintro e w1 ⟨rfl, hb1⟩)
  have HB1 := Lib.hid hb1
  have HOK : Hid (decOk l ↔ possN (decN l) = true ∧ encN (decN l) = l) := Lib.hid Iff.rfl
  generalize hf : decN l = f at *
  have HFE := Lib.hid hf
  clear hf
  clear hb1
  have HQ0 : Hid ((w1.alloc (.cells (fA ⟨0, 0, 0⟩) 87)).heap[w1.heap.size]? = some (.cells (fA ⟨0, 0, 0⟩) 87 (0, 0))) := heap_alloc_new w1 _
  have hst := run_storeF (g := w1.heap.size) HQ0.out f
  go_wp2_with fail
  rw [hst]
  simp only [Result.andThen_ok]
  have HF : Hid (FAt ((w1.alloc (.cells (fA ⟨0, 0, 0⟩) 87)).setRow w1.heap.size (fA f)) w1.heap.size f) := setRow_heap _ w1.heap.size _ (fA f) 87 _ HQ0.out
  have HBX : Hid (Below w1.heap.size w1 ((w1.alloc (.cells (fA ⟨0, 0, 0⟩) 87)).setRow w1.heap.size (fA f))) := ((Below.refl _ _).alloc (Nat.le_refl _) _).trans (below_setRow (Nat.le_refl _) _)
  obtain ⟨X, hX⟩ : ∃ X, X = (w1.alloc (.cells (fA ⟨0, 0, 0⟩) 87)).setRow w1.heap.size (fA f) := ⟨_, rfl⟩
  try rw [← hX] at HF HBX ⊢
  clear hst HQ0
  rw [Oper.upon_skip]
  go_wp2_with fail
  rw [← hX]
  clear hX
  refine (possible_any HF.out.fin HV.out).mono ?_
  rintro e w2 ⟨rfl, hb2⟩
  have HB2 := Lib.hid hb2
  have HF2 : Hid (FAt w2 w1.heap.size f) := (hb2.block _ HF.out.lt).trans HF.out
  clear hb2
  have hn2 : w1.heap.size < w2.heap.size := HF2.out.lt
  have hbb : Below w.heap.size w w2 := HB1.out.trans ((HBX.out.trans (HB2.out.mono HBX.out.size)).mono HB1.out.size)
  have HBB := Lib.hid hbb
  have hsz1 : w.heap.size ≤ w1.heap.size := HB1.out.size
  clear hbb
  cases hp : possN f with
  | false =>
    have HNO : Hid (¬ decOk l) := Lib.hid (fun h => by have := (HOK.out.1 h).1; rw [hp] at this; cases this)
    clear hp
    go_wp2_with fail
    go_ret2
    exact ⟨HBB.out, by first | rfl | (rw [if_neg HNO.out]; rfl) | (simp only [if_neg HNO.out]; rfl)⟩
  | true =>
    have HE := Lib.hid (encode_any HF2.out.fin HS.out.1 HS.out.2 HV.out)
    go_wp2_with fail
    refine HE.out.mono ?_
    rintro e w3 ⟨v, rfl, hnew, hb3⟩
    obtain ⟨a3, cap3, rfl, hbs3⟩ := hnew.bs (encN_ne f) (encN_small HS.out.1 HS.out.2)
    have hB3 : Below w.heap.size w w3 := HBB.out.trans (hb3.mono HBB.out.size)
    have HEQ := Lib.hid (equal_any hbs3 (HBs.out.keep hB3) (encN_ne f) HNE.out cap3 cap)
    have HB3 := Lib.hid hB3
    have HF3 : Hid (FAt w3 w1.heap.size f) := (hb3.block _ HF2.out.lt).trans HF2.out
    have hn3 : w1.heap.size < w3.heap.size := HF3.out.lt
    clear hB3 hbs3 hnew hb3 HE
    generalize encN f = L at *
    go_wp2_with fail
    refine HEQ.out.mono ?_
    rintro e w4 ⟨rfl, rfl⟩
    clear HEQ
    by_cases he : L = l
    · have HY : Hid (decOk l) := Lib.hid (HOK.out.2 ⟨hp, he⟩)
      rw [decide_eq_true he]
      clear he hp
      go_wp2_with (refine wpList_load_row rfl 87 _ rfl w1.heap.size rfl 87 _ _ _ HF3.out Tryz.underlying87 rfl (info40' _) ?_)
      rw [fold42]
      have hA : AAt (w3.alloc (.cells (#[Value.bool true] ++ fA f) 89)) w3.heap.size f := by
        have := heap_alloc_new w3 (.cells (#[.bool true] ++ fA f) 89)
        simpa [AAt] using this
      have hbz : Below w.heap.size w (w3.alloc (.cells (#[Value.bool true] ++ fA f) 89)) := HB3.out.alloc HB3.out.size _
      go_ret2
      exact ⟨hbz, _, rfl, HB3.out.size, by rw [HFE.out]; exact hA⟩
    · have HNO : Hid (¬ decOk l) := Lib.hid (fun h => he (HOK.out.1 h).2)
      rw [decide_eq_false he]
      clear he hp
      go_wp2_with fail
      go_ret2
      exact ⟨HB3.out, by first | rfl | (rw [if_neg HNO.out]; rfl) | (simp only [if_neg HNO.out]; rfl)⟩
end Go.Proofs.YtjcdnaandbockaaGreat
