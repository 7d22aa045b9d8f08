import Derived.Test.YtbhkenphcahifaaGreatPC
namespace Go.Proofs.YtbhkenphcahifaaGreat
open Go.RowKit Go.Shelf
attribute [local go_sem] Oper.semAt_some
set_option maxRecDepth 100000
set_option maxHeartbeats 4000000

def boolA (l : List Bool) : Array Value := (l.map Value.bool).toArray
def BAt (w : World) (b : Nat) (l : List Bool) : Prop := w.heap[b]? = some (.cells (boolA l) 4 (0, 0))
theorem BAt.lt {w : World} {b : Nat} {l : List Bool} (h : BAt w b l) : b < w.heap.size := (Array.getElem?_eq_some_iff.1 h).1
theorem BAt.cell {w : World} {b : Nat} {l : List Bool} (h : BAt w b l) (j : Nat) (hj : j < l.length) : w.cell? ⟨b, j, none⟩ = some (.bool (l.getD j true)) := by
  rw [cell_of_row w b j _ _ _ h]; simp [boolA, List.getD, hj]
theorem BAt.open_ {w : World} {b : Nat} {l : List Bool} (h : BAt w b l) (j : Nat) : w.frozen? ⟨b, j, none⟩ = false := frozen_of_row w b j _ _ h
theorem BAt.set {w : World} {b : Nat} {l : List Bool} (h : BAt w b l) (x : Nat) (v : Bool) : BAt (w.setCell ⟨b, x, none⟩ (.bool v)) b (l.set x v) := by
  unfold BAt
  rw [setCell_eq_setRow w b x _ _ _ _ h, setRow_heap w b _ _ _ _ h]
  congr 2
  simp [boolA, List.map_set]
theorem BAt.drew {w : World} {b : Nat} {l : List Bool} (h : BAt w b l) : BAt w.drew b l := h
theorem Tryz.info4 : (Tryz.prog.info? 4).map (fun i => (i.zero, i.size, i.bytes)) = some (some (.bool false), 1, 1) := by kernel_rfl
theorem make_bools (n : Nat) (hn : n ≤ 17592186044416) (w : World) : (Instr.makeSlice 49 (.int .i64 n) (.int .i64 n)).run Tryz.prog w = .ok (.slice (some ⟨w.heap.size, 0, none⟩) n n) (w.alloc (.cells (boolA (List.replicate n false)) 4)) := by
  obtain ⟨i0, hi, hz0, hz1, hz2⟩ := info_parts Tryz.info4
  have := run_make (P := Tryz.prog) w 49 4 i0 (.bool false) Tryz.underlying49 hi hz0 .i64 .i64 n n (by omega) (Int.le_refl _) (by rw [hz2]; omega) (by omega)
  rw [this, hz1]
  simp only [Int.toNat_natCast, Nat.mul_one]
  congr 3
  unfold boolA madeCells
  apply Array.ext
  · simp
  · intro i h1 h2
    simp [Value.cells, Nat.mod_one]

/-- the lists, read -/
theorem Wt.lists {F : Nat → Prop} {lo B : Nat} {ns : List N3} {ts : List (List Int)} {nv tv : Value} {us : List Value} {w : World} (h : Wt F lo B ns ts nv tv us w) (hb : ∀ i, (ts.getD i []).length ≤ 1000000000) :
    ∃ x cT, tv = .slice x ts.length cT ∧ ∀ m, m < ts.length → ∃ gT a c, x = some ⟨gT, 0, none⟩ ∧ w.cell? ⟨gT, m, none⟩ = some (.slice a (ts.getD m []).length c) ∧ Ints w a (ts.getD m []) := by
  obtain ⟨x, cT, rfl, hs⟩ := own_shape h.trow
  refine ⟨x, cT, rfl, fun m hm => ?_⟩
  obtain ⟨gT, rfl, hg⟩ := hs m hm
  have hni : NewInts lo w (us.getD m (.slice none 0 0)) (ts.getD m []) := ⟨h.each m hm, by have := hb m; omega⟩
  obtain ⟨a, c, hum, hints⟩ := hni.ints
  have hul := h.usl
  refine ⟨gT, a, c, rfl, own_cell h.trow hg m _ ?_, hints⟩
  rw [← hum]; simp [List.getD, show m < us.length by omega]

def cntF (l : List Bool) : Nat := l.countP (fun b => !b)
/-- how many have not gone, in memory -/
def cntW (g : Nat) (w : World) : Nat := match w.heap[g]? with
  | some (.cells cs _ _) => cs.toList.countP (fun v => match v with | .bool false => true | _ => false)
  | _ => 0
theorem cntW_at {w : World} {g : Nat} {l : List Bool} (h : BAt w g l) : cntW g w = cntF l := by
  unfold cntW
  rw [show w.heap[g]? = _ from h]
  simp only [boolA, cntF, List.countP_map]
  congr 1
  funext b
  cases b <;> rfl
theorem cntF_set : ∀ (l : List Bool) (i : Nat), i < l.length → l.getD i true = false → cntF (l.set i true) < cntF l
  | a :: r, 0, _, h => by
    simp [List.getD] at h
    subst h
    simp [cntF]
  | a :: r, i + 1, hi, h => by
    have := cntF_set r i (by simpa using hi) (by simpa [List.getD] using h)
    simp only [List.set_cons_succ, cntF, List.countP_cons] at *
    omega

theorem rk_max (rk : N3 → Nat) : ∀ ns : List N3, ∃ M, ∀ j, j < ns.length → rk (ns.getD j (0, 0, 0)) ≤ M
  | [] => ⟨0, fun j hj => by simp at hj⟩
  | a :: r => by
    obtain ⟨M, hM⟩ := rk_max rk r
    refine ⟨max (rk a) M, fun j hj => ?_⟩
    cases j with
    | zero => simp [List.getD]; omega
    | succ j =>
      have := hM j (by simpa using hj)
      simp only [List.getD_cons_succ]
      omega
/-- who waits for no one that is left goes: at last all are gone -/
theorem all_gone {rk : N3 → Nat} {q : Nat} {ns : List N3} {ts : List (List Int)} (hG : Good rk q ns ts) {bs : List Bool} (h : ∀ j, j < ns.length → bs.getD j true = false → ∃ k ∈ ts.getD j [], bs.getD k.toNat true = false) : ∀ j, j < ns.length → bs.getD j true = true := by
  obtain ⟨M, hM⟩ := rk_max rk ns
  have key : ∀ d j, j < ns.length → bs.getD j true = false → rk (ns.getD j (0, 0, 0)) + d ≤ M := by
    intro d
    induction d with
    | zero => intro j hj _; exact hM j hj
    | succ d ih =>
      intro j hj hb
      obtain ⟨k, hk, hkb⟩ := h j hj hb
      obtain ⟨m, rfl, hm, hlt⟩ := hG.up j k (by have := hG.len; omega) hk
      have := ih m hm (by simpa using hkb)
      omega
  intro j hj
  cases hb : bs.getD j true with
  | true => rfl
  | false =>
    have := key (M + 1) j hj hb
    omega
end Go.Proofs.YtbhkenphcahifaaGreat
