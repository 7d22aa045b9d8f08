import Derived.Test.YtbhkenphcahifaaGreatNP
import Derived.Deep.AppendLies
namespace Go.Proofs.YtbhkenphcahifaaGreat
open Go.RowKit Go.Shelf

theorem OutI.own {α : Type} {n0 o B : Nat} (g : List α → List Int) : OwnFrom B (fun (pre : List α) W => OutI n0 o (g pre) W) := by
  rintro s X Y row ⟨v, h1, h2, h3⟩ hg hr
  refine ⟨v, h1.kept hg (fun e => ?_), h2.kept hg ?_, h3⟩
  · obtain ⟨_, ob, ho, hc⟩ := hr o e.symm
    rw [show X.heap[o]? = _ from h1] at ho
    cases ho; cases hc
  · rcases h2.2 with ⟨rfl, _⟩ | ⟨q, cap, cur, rfl, _, hq, _⟩
    · exact .inl rfl
    · refine .inr (fun e => ?_)
      obtain ⟨_, ob, ho, hc⟩ := hr q e.symm
      rw [hq] at ho
      cases ho; cases hc
theorem wpListIn_append_run {F : Fence} {n : Nat} {P : Program} {w w' : World} {ops : Array Oper} {rest : List Oper} {o : Oper} {a : Act} {Q : Exit → Act → World → Prop}
    (hg : o.guard = none) (s x : Operand) (t : TypeId) (hop : o.op = Op.call { callee := Callee.builtin Builtin.append, args := #[s, x], argTypes := #[t, t] }) {v vx v' : Value} (hs : a.eval s = v) (hx : a.eval x = vx)
    (hrun : (Builtin.append_ #[t, t] o.type #[v, vx]).run P w = .ok v' w') (hK : wpListIn F n P ops Q rest (a.put o.dst v') w') : wpListIn F n P ops Q (o :: rest) a w := by
  refine wpListIn_plain hg fun K hK' => ?_
  unfold Oper.wpIn
  refine ⟨?_, ?_⟩
  · simp [Oper.about, hop, resolve, Target.leads, Sem.run_pure]
  · rw [Oper.semAt_plain F _ _ (by rw [hop]; intro c hc'; cases hc')]
    simp [execOp, hop, resolve, invoke, builtin, hs, hx, hrun, Result.andThen]
    exact hK' _ _ hK
/-- one more number -/
theorem OutI.append {n0 o : Nat} {xs : List Int} {W : World} (h : OutI n0 o xs W) (s : Int) (hl : xs.length ≤ 200000) (hn : n0 ≤ W.heap.size) (ho : n0 ≤ o) :
    ∃ v g cap wA, Boxed W o 22 v ∧ Boxed wA o 22 v ∧ (Builtin.append_ #[22, 22] 22 #[v, .slice (some ⟨W.heap.size, 0, none⟩) 1 1]).run Tryz.prog (W.alloc (.cells #[.int .i64 s] 3)) = .ok (.slice (some ⟨g, 0, none⟩) (xs.length + 1) cap) wA ∧
      OutI n0 o (xs ++ [s]) (wA.setCell ⟨o, 0, none⟩ (.slice (some ⟨g, 0, none⟩) (xs.length + 1) cap)) ∧ KeepsOthers W (wA.setCell ⟨o, 0, none⟩ (.slice (some ⟨g, 0, none⟩) (xs.length + 1) cap)) ∧ Kq n0 o W (wA.setCell ⟨o, 0, none⟩ (.slice (some ⟨g, 0, none⟩) (xs.length + 1) cap)) := by
  obtain ⟨v, h1, h2, h3⟩ := h
  obtain ⟨i0, hi, hz0, hz1, hz2⟩ := info_parts Tryz.info3
  obtain ⟨g, cap, wA, hr, hown, hgrow, hat, hlt⟩ := run_append_lies (P := Tryz.prog) (W.alloc (.cells #[.int .i64 s] 3)) 22 22 n0 3 i0 (.int .i64 0) 1 8 Tryz.underlying22 hi hz0 hz1 hz2 rfl (by decide) v xs.length (xs.map (Value.int .i64)) (h2.alloc _) ⟨W.heap.size, 0, none⟩ 1 1 [.int .i64 s] (by simp)
    (World.news_of_block (cs := #[.int .i64 s]) (heap_alloc_new W (.cells #[.int .i64 s] 3))) (by intro u hu; simp at hu; subst hu; rfl) (by decide) (by unfold maxLen; omega) (by omega) (by simp; omega) _ rfl
  obtain ⟨hv1, hv2, hr2, hk2, hb2⟩ := h1.appended (by decide) h2 hn ho hown hgrow
  refine ⟨v, g, cap, wA, h1, hv1, hr, ⟨_, hv2, by simpa using hr2, by simp⟩, hk2, hb2, ?_⟩
  rintro b ⟨⟨ob, m1, m2⟩, m3, m4, m5⟩
  have hbl := (Array.getElem?_eq_some_iff.1 m1).1
  have hnb := m5 v h1.cell
  have e1 : (wA.setCell ⟨o, 0, none⟩ (.slice (some ⟨g, 0, none⟩) (xs.length + 1) cap)).heap[b]? = W.heap[b]? := by
    rw [heap_setCell_other _ _ _ _ m4, hgrow.block b (by simp; omega) (fun e => hnb e.symm), Below.heap_alloc _ _ _ hbl]
  refine ⟨e1, ⟨ob, e1.trans m1, m2⟩, m3, m4, fun u hu => ?_⟩
  rw [hv2.cell] at hu
  cases hu
  intro e
  have hgb : g = b := by simpa [Value.ownBlock] using e
  rcases hat with hat | hat
  · exact hnb (by rw [hat, hgb])
  · simp at hat; omega
end Go.Proofs.YtbhkenphcahifaaGreat
