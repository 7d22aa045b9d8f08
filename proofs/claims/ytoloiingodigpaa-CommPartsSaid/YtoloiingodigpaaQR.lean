import Derived.Test.YtoloiingodigpaaR
import Derived.Test.YtoloiingodigpaaE
namespace Go.Proofs.Ytoloiingodigpaa
open Go.RowKit Go.Shelf
section
variable {n : Nat} {P : Program} {ops : Array Oper} {Q : Exit → Act → World → Prop}

/-- an operation that yields a value, in a region that draws its order -/
theorem wpOpIn_plain {i : Nat} {o : Oper} {K : Act → World → Prop} {a : Act} {w w' : World} {v : Value} (ho : ops[i]? = some o) (hgd : o.guard = none)
    (h : (o.semAt none a.eval).run P w = .ok (.value v) w') (hk : K (a.put o.dst v) w') : wpOpIn Fence.wide n P ops Q i K a w := by
  refine wpOpIn_step ho (fun K' hK => ?_)
  rw [if_pos (by simp [Region.wanted, hgd])]
  exact wpIn_of_wp_plain h (hK _ _ hk)

/-- an operation that yields nothing -/
theorem wpOpIn_skip {i : Nat} {o : Oper} {K : Act → World → Prop} {a : Act} {w w' : World} (ho : ops[i]? = some o) (hgd : o.guard = none)
    (h : (o.semAt none a.eval).run P w = .ok .skip w') (hk : K (a.put o.dst undef) w') : wpOpIn Fence.wide n P ops Q i K a w := by
  refine wpOpIn_step ho (fun K' hK => ?_)
  rw [if_pos (by simp [Region.wanted, hgd])]
  exact wpIn_of_wp_skip h (hK _ _ hk)

/-- a call of a Go function, by its contract -/
theorem wpOpIn_call {i : Nat} {o : Oper} {K : Act → World → Prop} {a : Act} {w : World} {f : FuncId} {args : Array Value} {R : Ending → World → Prop} (ho : ops[i]? = some o) (hgd : o.guard = none)
    (h : (o.semAt none a.eval).run P w = .ok (.enter f args) w) (hc : Calls P f args w R) (hk : ∀ e w', R e w' → ∃ v, e = .returned v ∧ K (a.put o.dst v) w') : wpOpIn Fence.wide n P ops Q i K a w := by
  refine wpOpIn_step ho (fun K' hK => ?_)
  rw [if_pos (by simp [Region.wanted, hgd])]
  refine ⟨fun f _ => trivial, ?_⟩
  have e : Fence.wide.round = none := rfl
  rw [e, h, Oper.uponIn_enter]
  refine ⟨(fun hd => by cases hd), callsIn_wide.2 (hc.mono ?_)⟩
  intro e w' hr
  obtain ⟨v, rfl, hv⟩ := hk e w' hr
  exact hK _ _ hv

theorem sem_call {o : Oper} {a : Act} {w : World} {g : FuncId} {xs : Array Operand} {ts : Array TypeId} {vs : Array Value} (hop : o.op = .call { callee := .value (.func g), args := xs, argTypes := ts }) (hvs : xs.map a.eval = vs)
    (eg : ∀ args w, (callFunc g args).run P w = .ok (.enter g args) w) : (o.semAt none a.eval).run P w = .ok (.enter g vs) w := by
  simp [Oper.semAt, hop, execOp, resolve, invoke, eg, hvs, Deferred.ofValue, Act.eval]
theorem sem_call2 {o : Oper} {a : Act} {w : World} {g : FuncId} {x y : Operand} {ts : Array TypeId} {vx vy : Value} (hop : o.op = .call { callee := .value (.func g), args := #[x, y], argTypes := ts }) (hx : a.eval x = vx) (hy : a.eval y = vy)
    (eg : ∀ args w, (callFunc g args).run P w = .ok (.enter g args) w) : (o.semAt none a.eval).run P w = .ok (.enter g #[vx, vy]) w :=
  sem_call hop (by simp [hx, hy]) eg
theorem sem_call4 {o : Oper} {a : Act} {w : World} {g : FuncId} {x y z u : Operand} {ts : Array TypeId} {vx vy vz vu : Value} (hop : o.op = .call { callee := .value (.func g), args := #[x, y, z, u], argTypes := ts }) (hx : a.eval x = vx) (hy : a.eval y = vy) (hz : a.eval z = vz) (hu : a.eval u = vu)
    (eg : ∀ args w, (callFunc g args).run P w = .ok (.enter g args) w) : (o.semAt none a.eval).run P w = .ok (.enter g #[vx, vy, vz, vu]) w :=
  sem_call hop (by simp [hx, hy, hz, hu]) eg
/-- an append, by the equation of its run -/
theorem wpOpIn_append {i : Nat} {o : Oper} {K : Act → World → Prop} {a : Act} {w w' : World} {v' : Value} (ho : ops[i]? = some o) (hgd : o.guard = none) (s x : Operand) (t : TypeId) (hop : o.op = Op.call { callee := Callee.builtin Builtin.append, args := #[s, x], argTypes := #[t, t] })
    {vs vx : Value} (hs : a.eval s = vs) (hx : a.eval x = vx) (hrun : (Builtin.append_ #[t, t] o.type #[vs, vx]).run P w = .ok v' w') (hk : K (a.put o.dst v') w') : wpOpIn Fence.wide n P ops Q i K a w := by
  refine wpOpIn_plain ho hgd (v := v') (w' := w') ?_ hk
  simp [Oper.semAt, hop, execOp, resolve, invoke, builtin, hs, hx, hrun, Result.andThen]

/-- a load of one cell -/
theorem wpOpIn_load_cell {i : Nat} {o : Oper} {K : Act → World → Prop} {a : Act} {w : World} {v : Value} (ho : ops[i]? = some o) (hgd : o.guard = none)
    (h : (o.semAt none a.eval).run P w = .ok (.value v) w) (hk : K (a.put o.dst v) w) : wpOpIn Fence.wide n P ops Q i K a w := wpOpIn_plain ho hgd h hk
end
end Go.Proofs.Ytoloiingodigpaa
