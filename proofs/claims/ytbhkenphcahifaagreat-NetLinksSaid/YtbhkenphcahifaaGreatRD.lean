import Derived.OrdersIn
import Derived.Laws.Rows
import Derived.Laws.Tables
import Derived.Test.YtbhkenphcahifaaGreatNA
namespace Go.Proofs.YtbhkenphcahifaaGreat
open Go.RowKit

section
variable {F : Fence} {n : Nat} {P : Program} {md : Region.Mode} {ops : Array Oper} {Q : Exit → Act → World → Prop}

theorem ready_spec {listed : Array Bool} {i : Nat} (_ : listed.size = ops.size) (h : i ∈ Region.ready md ops listed) :
    i < ops.size ∧ listed.getD i true = false ∧ ∀ o, ops[i]? = some o → ∀ e ∈ o.after, Region.binds md e = true → listed.getD e.on false = true := by
  unfold Region.ready at h
  simp only [List.mem_filter, List.mem_range] at h
  obtain ⟨h1, h2⟩ := h
  have h1' : i < ops.size := by omega
  rw [Array.getElem?_eq_getElem h1'] at h2
  simp only [Option.map_some, Option.getD_some, Bool.and_eq_true, Bool.not_eq_true', Array.all_eq_true_iff_forall_mem] at h2
  refine ⟨h1', h2.1, fun o ho e he hb => ?_⟩
  rw [Array.getElem?_eq_getElem h1'] at ho
  cases ho
  have := h2.2 e he
  simpa [hb] using this

theorem ready_nil {listed : Array Bool} (hs : listed.size = ops.size) (h : Region.ready md ops listed = []) (hup : ∀ (i : Nat) (o : Oper), ops[i]? = some o → ∀ e ∈ o.after, Region.binds md e = true → e.on < i) :
    ∀ i, i < ops.size → listed.getD i true = true := by
  intro i
  induction i using Nat.strongRecOn with
  | _ i ih =>
    intro hi
    by_cases hb : listed.getD i true = true
    · exact hb
    · have hb : listed.getD i true = false := by simpa using hb
      have hmem : i ∈ Region.ready md ops listed := by
        unfold Region.ready
        simp only [List.mem_filter, List.mem_range]
        refine ⟨by omega, ?_⟩
        rw [Array.getElem?_eq_getElem hi]
        simp only [Option.map_some, Option.getD_some, Bool.and_eq_true, Bool.not_eq_true', Array.all_eq_true_iff_forall_mem]
        refine ⟨hb, fun e he => ?_⟩
        cases hbe : Region.binds md e with
        | false => rfl
        | true =>
        have hlt := hup i ops[i] (Array.getElem?_eq_getElem hi) e he hbe
        have := ih e.on hlt (by omega)
        have h2 : listed.getD e.on false = true := by
          have hl : e.on < listed.size := by omega
          simp [Array.getD, hl] at this ⊢
          exact this
        simp [h2]
      rw [h] at hmem
      cases hmem

theorem count_set {listed : Array Bool} {i : Nat} (hi : i < listed.size) (hb : listed.getD i true = false) :
    (listed.setIfInBounds i true).toList.count false + 1 = listed.toList.count false := by
  have hb' : listed[i] = false := by simpa [Array.getD, hi] using hb
  have hmem : 0 < listed.toList.count false := List.count_pos_iff.2 (by rw [← hb']; simp)
  rw [Array.toList_setIfInBounds, List.count_set (by simpa using hi)]
  have e1 : listed.toList[i]'(by simpa using hi) = false := by simpa using hb'
  simp only [e1]
  have hm' : 0 < Array.count false listed := by simpa using (show 0 < listed.toList.count false from hmem)
  simp
  omega

theorem anyIn_det {I : Array Bool → Act → World → Prop}
    (step : ∀ listed a w i, listed.size = ops.size → i ∈ Region.ready md ops listed → I listed a w → wpOpIn F n P ops Q i (I (listed.setIfInBounds i true)) a w)
    (fin : ∀ listed a w, listed.size = ops.size → Region.ready md ops listed = [] → I listed a w → Q .normal a w) :
    ∀ fuel listed a w, listed.size = ops.size → listed.toList.count false ≤ fuel → I listed a w → wpAnyIn F n P md ops Q fuel listed a w := by
  intro fuel
  induction fuel with
  | zero =>
    intro listed a w hs hc h
    have hr : Region.ready md ops listed = [] := by
      refine List.eq_nil_iff_forall_not_mem.2 fun i hi => ?_
      obtain ⟨h1, h2, _⟩ := ready_spec hs hi
      have := count_set (by omega) h2
      omega
    exact ⟨hr, fin listed a w hs hr h⟩
  | succ fuel ih =>
    intro listed a w hs hc h
    refine ⟨fun hr => fin listed a w hs hr h, fun i hi => ?_⟩
    obtain ⟨h1, h2, _⟩ := ready_spec hs hi
    have := count_set (by omega) h2
    exact wpOpIn_mono (fun a' w' h' => ih _ a' w' (by simpa using hs) (by omega) h') (step listed a w i hs hi h)

/-- A region that draws its order, by an invariant of what has been done. -/
theorem region_det {id : Nat} {a : Act} {w : World} (hm : P.follows .mixedOrders = true) {I : Array Bool → Act → World → Prop}
    (hup : ∀ (i : Nat) (o : Oper), ops[i]? = some o → ∀ e ∈ o.after, Region.binds .any e = true → e.on < i)
    (h0 : I (Array.replicate ops.size false) a w.drew)
    (step : ∀ listed a w i, listed.size = ops.size → listed.getD i true = false → (∀ o, ops[i]? = some o → ∀ e ∈ o.after, Region.binds .any e = true → listed.getD e.on false = true) → i < ops.size → I listed a w → wpOpIn F n P ops Q i (I (listed.setIfInBounds i true)) a w)
    (fin : ∀ listed a w, listed.size = ops.size → (∀ i, i < ops.size → listed.getD i true = true) → I listed a w → Q .normal a w) :
    (Code.region id ops true).wpIn F n P Q a w :=
  wpIn_region_any hm (anyIn_det (fun listed a w i hs hi h => by
    obtain ⟨h1, h2, h3⟩ := ready_spec hs hi
    exact step listed a w i hs h2 h3 h1 h) (fun listed a w hs hr h => fin listed a w hs (ready_nil hs hr hup) h) _ _ _ _ (by simp) (by simp) h0)
end
end Go.Proofs.YtbhkenphcahifaaGreat
namespace Go.Proofs.YtbhkenphcahifaaGreat
theorem hup_check {ops : Array Oper} (h : (List.range ops.size).all (fun i => ((ops[i]?).map fun o => o.after.all fun e => !Region.binds .any e || decide (e.on < i)).getD true) = true) : ∀ (i : Nat) (o : Oper), ops[i]? = some o → ∀ e ∈ o.after, Region.binds .any e = true → e.on < i := by
  intro i o ho e he hb
  have hi : i < ops.size := (Array.getElem?_eq_some_iff.1 ho).1
  have := List.all_eq_true.1 h i (by simpa using hi)
  rw [ho] at this
  simp only [Option.map_some, Option.getD_some, Array.all_eq_true_iff_forall_mem] at this
  simpa [hb] using this e he
end Go.Proofs.YtbhkenphcahifaaGreat

namespace Go.Proofs.YtbhkenphcahifaaGreat
section
variable {n : Nat} {P : Program} {ops : Array Oper} {Q : Exit → Act → World → Prop}

theorem wpIn_of_wp_plain {o : Oper} {a : Act} {w w' : World} {K : Act → World → Prop} {v : Value} (h : (o.semAt Fence.wide.round a.eval).run P w = .ok (.value v) w') (hk : K (a.put o.dst v) w') : Oper.wpIn Fence.wide n P o a w K Q := by
  refine ⟨fun f _ => trivial, ?_⟩
  rw [h]
  exact hk

theorem wpInF_plain {F : Fence} {o : Oper} {a : Act} {w w' : World} {K : Act → World → Prop} {v : Value} (hab : ∀ f, o.about P w a.eval = some f → F.fn f) (h : (o.semAt F.round a.eval).run P w = .ok (.value v) w') (hk : K (a.put o.dst v) w') : Oper.wpIn F n P o a w K Q := by
  refine ⟨hab, ?_⟩
  rw [h]
  exact hk
theorem wpInF_skip {F : Fence} {o : Oper} {a : Act} {w w' : World} {K : Act → World → Prop} (hab : ∀ f, o.about P w a.eval = some f → F.fn f) (h : (o.semAt F.round a.eval).run P w = .ok .skip w') (hk : K (a.put o.dst undef) w') : Oper.wpIn F n P o a w K Q := by
  refine ⟨hab, ?_⟩
  rw [h]
  exact hk

theorem wpIn_of_wp_skip {o : Oper} {a : Act} {w w' : World} {K : Act → World → Prop} (h : (o.semAt Fence.wide.round a.eval).run P w = .ok .skip w') (hk : K (a.put o.dst undef) w') : Oper.wpIn Fence.wide n P o a w K Q := by
  refine ⟨fun f _ => trivial, ?_⟩
  rw [h]
  exact hk

theorem wpOpIn_load_row {i : Nat} {o : Oper} {K : Act → World → Prop} {a : Act} {w : World} (ho : ops[i]? = some o) (hgd : o.guard = none) (ty : TypeId) (x : Operand) (hop : o.op = .load ty x)
    (g : Nat) (hx : a.eval x = .pointer (some ⟨g, 0, none⟩)) (t : TypeId) (cs : Array Value) (fr : Nat × Nat) (d : TypeDesc) (hg : w.heap[g]? = some (.cells cs t fr))
    (hu : P.underlying ty = some d) (hd : (match d with | .struct _ | .array _ _ => true | _ => false) = true) (hi : (P.info? ty).map (·.size) = some cs.size)
    (h : K (a.put o.dst (.agg cs)) w) : wpOpIn Fence.wide n P ops Q i K a w := by
  refine wpOpIn_step ho (fun K' hK => ?_)
  rw [if_pos (by simp [Region.wanted, hgd])]
  refine wpIn_of_wp_plain (v := .agg cs) ?_ (hK _ _ h)
  have : Fence.wide.round = none := rfl
  simp only [this, Oper.semAt, hop, execOp, hx, Instr.loadAt, Instr.sureAddr, Sem.run_bind, Sem.run_pure, Result.andThen_ok, run_loadVar_row w g t ty cs fr d hg hu hd hi]

theorem wpOpIn_store_row {i : Nat} {o : Oper} {K : Act → World → Prop} {a : Act} {w : World} (ho : ops[i]? = some o) (hgd : o.guard = none) (ty : TypeId) (x y : Operand) (hop : o.op = .store ty x y)
    (g : Nat) (cells : Array Value) (hx : a.eval x = .pointer (some ⟨g, 0, none⟩)) (hy : a.eval y = .agg cells)
    (t : TypeId) (old : Array Value) (hg : w.heap[g]? = some (.cells old t (0, 0))) (hi : (P.info? ty).map (·.size) = some cells.size)
    (hold : old.size = cells.size) (h1 : cells.all (·.oneCell') = true)
    (h : K (a.put o.dst undef) (w.setRow g cells)) : wpOpIn Fence.wide n P ops Q i K a w := by
  refine wpOpIn_step ho (fun K' hK => ?_)
  rw [if_pos (by simp [Region.wanted, hgd])]
  refine wpIn_of_wp_skip ?_ (hK _ _ h)
  have : Fence.wide.round = none := rfl
  simp only [this, Oper.semAt, hop, execOp, hx, hy, Instr.storeAt, Instr.sureAddr, Sem.run_bind, Sem.run_pure, Result.andThen_ok, run_storeVar_row w g t ty old cells hg hi hold h1]
end
section
variable {n : Nat} {P : Program} {ops : Array Oper} {Q : Exit → Act → World → Prop}

/-- an operation that yields a value, in a region that draws its order -/
theorem wpOpIn_plain {i : Nat} {o : Oper} {K : Act → World → Prop} {a : Act} {w w' : World} {v : Value} (ho : ops[i]? = some o) (hgd : o.guard = none)
    (h : (o.semAt none a.eval).run P w = .ok (.value v) w') (hk : K (a.put o.dst v) w') : wpOpIn Fence.wide n P ops Q i K a w := by
  refine wpOpIn_step ho (fun K' hK => ?_)
  rw [if_pos (by simp [Region.wanted, hgd])]
  exact wpIn_of_wp_plain h (hK _ _ hk)

/-- an operation that yields nothing -/
theorem wpOpIn_skip {i : Nat} {o : Oper} {K : Act → World → Prop} {a : Act} {w w' : World} (ho : ops[i]? = some o) (hgd : o.guard = none)
    (h : (o.semAt none a.eval).run P w = .ok .skip w') (hk : K (a.put o.dst undef) w') : wpOpIn Fence.wide n P ops Q i K a w := by
  refine wpOpIn_step ho (fun K' hK => ?_)
  rw [if_pos (by simp [Region.wanted, hgd])]
  exact wpIn_of_wp_skip h (hK _ _ hk)

/-- a call of a Go function, by its contract -/
theorem wpOpIn_call {i : Nat} {o : Oper} {K : Act → World → Prop} {a : Act} {w : World} {f : FuncId} {args : Array Value} {R : Ending → World → Prop} (ho : ops[i]? = some o) (hgd : o.guard = none)
    (h : (o.semAt none a.eval).run P w = .ok (.enter f args) w) (hc : Calls P f args w R) (hk : ∀ e w', R e w' → ∃ v, e = .returned v ∧ K (a.put o.dst v) w') : wpOpIn Fence.wide n P ops Q i K a w := by
  refine wpOpIn_step ho (fun K' hK => ?_)
  rw [if_pos (by simp [Region.wanted, hgd])]
  refine ⟨fun f _ => trivial, ?_⟩
  have e : Fence.wide.round = none := rfl
  rw [e, h, Oper.uponIn_enter]
  refine ⟨(fun hd => by cases hd), callsIn_wide.2 (hc.mono ?_)⟩
  intro e w' hr
  obtain ⟨v, rfl, hv⟩ := hk e w' hr
  exact hK _ _ hv

theorem sem_call {o : Oper} {a : Act} {w : World} {g : FuncId} {xs : Array Operand} {ts : Array TypeId} {vs : Array Value} (hop : o.op = .call { callee := .value (.func g), args := xs, argTypes := ts }) (hvs : xs.map a.eval = vs)
    (eg : ∀ args w, (callFunc g args).run P w = .ok (.enter g args) w) : (o.semAt none a.eval).run P w = .ok (.enter g vs) w := by
  simp [Oper.semAt, hop, execOp, resolve, invoke, eg, hvs, Deferred.ofValue, Act.eval]
theorem sem_call2 {o : Oper} {a : Act} {w : World} {g : FuncId} {x y : Operand} {ts : Array TypeId} {vx vy : Value} (hop : o.op = .call { callee := .value (.func g), args := #[x, y], argTypes := ts }) (hx : a.eval x = vx) (hy : a.eval y = vy)
    (eg : ∀ args w, (callFunc g args).run P w = .ok (.enter g args) w) : (o.semAt none a.eval).run P w = .ok (.enter g #[vx, vy]) w :=
  sem_call hop (by simp [hx, hy]) eg
theorem sem_call4 {o : Oper} {a : Act} {w : World} {g : FuncId} {x y z u : Operand} {ts : Array TypeId} {vx vy vz vu : Value} (hop : o.op = .call { callee := .value (.func g), args := #[x, y, z, u], argTypes := ts }) (hx : a.eval x = vx) (hy : a.eval y = vy) (hz : a.eval z = vz) (hu : a.eval u = vu)
    (eg : ∀ args w, (callFunc g args).run P w = .ok (.enter g args) w) : (o.semAt none a.eval).run P w = .ok (.enter g #[vx, vy, vz, vu]) w :=
  sem_call hop (by simp [hx, hy, hz, hu]) eg
/-- an append, by the equation of its run -/
theorem wpOpIn_append {i : Nat} {o : Oper} {K : Act → World → Prop} {a : Act} {w w' : World} {v' : Value} (ho : ops[i]? = some o) (hgd : o.guard = none) (s x : Operand) (t : TypeId) (hop : o.op = Op.call { callee := Callee.builtin Builtin.append, args := #[s, x], argTypes := #[t, t] })
    {vs vx : Value} (hs : a.eval s = vs) (hx : a.eval x = vx) (hrun : (Builtin.append_ #[t, t] o.type #[vs, vx]).run P w = .ok v' w') (hk : K (a.put o.dst v') w') : wpOpIn Fence.wide n P ops Q i K a w := by
  refine wpOpIn_plain ho hgd (v := v') (w' := w') ?_ hk
  simp [Oper.semAt, hop, execOp, resolve, invoke, builtin, hs, hx, hrun, Result.andThen]

/-- a load of one cell -/
theorem wpOpIn_load_cell {i : Nat} {o : Oper} {K : Act → World → Prop} {a : Act} {w : World} {v : Value} (ho : ops[i]? = some o) (hgd : o.guard = none)
    (h : (o.semAt none a.eval).run P w = .ok (.value v) w) (hk : K (a.put o.dst v) w) : wpOpIn Fence.wide n P ops Q i K a w := wpOpIn_plain ho hgd h hk
end

theorem sem_call1 {P : Program} {o : Oper} {a : Act} {w : World} {g : FuncId} {x : Operand} {ts : Array TypeId} {vx : Value} (hop : o.op = .call { callee := .value (.func g), args := #[x], argTypes := ts }) (hx : a.eval x = vx)
    (eg : ∀ args w, (callFunc g args).run P w = .ok (.enter g args) w) : (o.semAt none a.eval).run P w = .ok (.enter g #[vx]) w :=
  sem_call hop (by simp [hx]) eg

theorem sem_bin {P : Program} {o : Oper} {a : Act} {w : World} {op : BinOp} {t yt : TypeId} {x y : Operand} {vx vy v : Value} (hop : o.op = .binOp op t x y yt) (hx : a.eval x = vx) (hy : a.eval y = vy)
    (hg : (eqGuard op t x y vx vy).run P w = .ok () w) (h : (binOp op t vx vy).run P w = .ok v w) : (o.semAt none a.eval).run P w = .ok (.value v) w := by
  simp [Oper.semAt, hop, execOp, hx, hy, hg, h, Result.andThen]
theorem sem_conv {P : Program} {o : Oper} {a : Act} {w : World} {s d : TypeId} {x : Operand} {vx v : Value} (hop : o.op = .convert s d x) (hx : a.eval x = vx) (h : (convert s d vx).run P w = .ok v w) : (o.semAt none a.eval).run P w = .ok (.value v) w := by
  simp [Oper.semAt, hop, execOp, hx, h, Result.andThen]
theorem list_cons {n : Nat} (l : List Bool) (h : l.length = n + 1) : ∃ x t, l = x :: t ∧ t.length = n := by
  cases l with
  | nil => cases h
  | cons x t => exact ⟨x, t, rfl, by simpa using h⟩
section
variable {n : Nat} {P : Program} {ops : Array Oper} {Q : Exit → Act → World → Prop}
/-- a guarded operation that is wanted -/
theorem wpOpIn_guard {i j : Nat} {want : Bool} {o : Oper} {K : Act → World → Prop} {a : Act} {w w' : World} {v : Value} (ho : ops[i]? = some o) (hgd : o.guard = some (j, want)) (hy : yielded ops a.tmps j = some want)
    (h : (o.semAt none a.eval).run P w = .ok (.value v) w') (hk : K (a.put o.dst v) w') : wpOpIn Fence.wide n P ops Q i K a w := by
  refine wpOpIn_step ho (fun K' hK => ?_)
  rw [if_pos (by simp [Region.wanted, hgd, hy])]
  exact wpIn_of_wp_plain h (hK _ _ hk)
/-- a guarded operation that is not -/
theorem wpOpIn_off {i j : Nat} {want : Bool} {o : Oper} {K : Act → World → Prop} {a : Act} {w : World} (ho : ops[i]? = some o) (hgd : o.guard = some (j, want)) (hy : yielded ops a.tmps j = some (!want))
    (hk : K (a.put o.dst undef) w) : wpOpIn Fence.wide n P ops Q i K a w := by
  refine wpOpIn_step ho (fun K' hK => ?_)
  rw [if_neg (by cases want <;> simp [Region.wanted, hgd, hy])]
  exact ⟨fun f _ => trivial, hK _ _ hk⟩
/-- a guarded call -/
theorem wpOpIn_callg {i j : Nat} {want : Bool} {o : Oper} {K : Act → World → Prop} {a : Act} {w : World} {f : FuncId} {args : Array Value} {R : Ending → World → Prop} (ho : ops[i]? = some o) (hgd : o.guard = some (j, want)) (hy : yielded ops a.tmps j = some want)
    (h : (o.semAt none a.eval).run P w = .ok (.enter f args) w) (hc : Calls P f args w R) (hk : ∀ e w', R e w' → ∃ v, e = .returned v ∧ K (a.put o.dst v) w') : wpOpIn Fence.wide n P ops Q i K a w := by
  refine wpOpIn_step ho (fun K' hK => ?_)
  rw [if_pos (by simp [Region.wanted, hgd, hy])]
  refine ⟨fun f _ => trivial, ?_⟩
  have e : Fence.wide.round = none := rfl
  rw [e, h, Oper.uponIn_enter]
  refine ⟨(fun hd => by cases hd), callsIn_wide.2 (hc.mono ?_)⟩
  intro e w' hr
  obtain ⟨v, rfl, hv⟩ := hk e w' hr
  exact hK _ _ hv
end
end Go.Proofs.YtbhkenphcahifaaGreat
