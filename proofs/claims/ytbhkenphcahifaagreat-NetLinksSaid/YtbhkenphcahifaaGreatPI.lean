import Derived.Test.YtbhkenphcahifaaGreatPH
namespace Go.Proofs.YtbhkenphcahifaaGreat
open Go.RowKit Go.Shelf
attribute [local go_sem] Oper.semAt_some
set_option maxRecDepth 100000
set_option maxHeartbeats 4000000

theorem stepsL_len {kind : Int} {l : List Int} {hosts x y : Int} (hE : rteE kind l hosts x y = 0) : (stepsL kind l x y).length ≤ 100000 := by
  obtain ⟨hv, hin, hy⟩ := rte_ok hE
  rcases v_kind hv with rfl | rfl | rfl
  · rw [show stepsL 1 l x y = torusL l x y from rfl]
    have ht : tOk l hosts := by
      rcases hv with ⟨_, h1⟩ | ⟨h0, _⟩ | ⟨h0, _⟩
      · exact h1
      · cases h0
      · cases h0
    have := dimK_len (l := l) (coordsL l y) (fun i hi => by
      have := ht.2.2.1 (l.getD i 0) (by simp [List.getD, hi])
      exact this) l.length (Nat.le_refl _) (coordsL l x)
    have := ht.1.2
    unfold torusL
    omega
  · exact treeSteps_len hv hin
  · exact Nat.le_trans (dragL_len _ _ _ _) (by decide)
theorem rte_zero {kind : Int} {l : List Int} {hosts : Int} (hv : vOk kind l hosts) {x y : Nat} (hx : (x : Int) < swI kind l) (hy : (y : Int) < hoI kind l) : rteE kind l hosts x y = 0 := by
  obtain ⟨b1, b2, b3, b4, b5, b6⟩ := v_bound hv
  unfold rteE
  rw [if_pos hv, if_pos ?_, if_pos hy]
  simp [inB]; omega
/-- a list that is new -/
structure Fresh (B : Nat) (a : Option Addr) : Prop where
  ge : ∀ b, a.map (·.block) = some b → B ≤ b
theorem NewInts.fresh {B : Nat} {w : World} {v : Value} {l : List Int} (h : NewInts B w v l) : ∃ a cap, v = .slice a l.length cap ∧ Ints w a l ∧ Fresh B a := by
  obtain ⟨a, cap, rfl, hi⟩ := h.ints
  refine ⟨a, cap, rfl, hi, ⟨fun b hb => ?_⟩⟩
  cases a with
  | none => cases hb
  | some ad =>
    have := h.own.lt ad.block rfl
    have e : ad.block = b := by simpa using hb
    omega
theorem Route_new {w : World} {sa : Option Addr} {l : List Int} (h : Ints w sa l) (sc : Nat) (kind hosts x y : Int) (hE : rteE kind l hosts x y = 0) :
    Calls Tryz.prog 87 #[.agg #[.int .i64 kind, .slice sa l.length sc, .int .i64 hosts], .int .i64 x, .int .i64 y] w fun e w' => (∃ a c, e = .returned (.tuple #[.slice a ((stepsL kind l x y).length + 1) c, .int .i64 0]) ∧ Ints w' a (x :: (stepsL kind l x y).map (·.1)) ∧ Fresh w.heap.size a) ∧ Below w.heap.size w w' := by
  obtain ⟨hv, hin, hy⟩ := rte_ok hE
  have key : Calls Tryz.prog 87 #[.agg #[.int .i64 kind, .slice sa l.length sc, .int .i64 hosts], .int .i64 x, .int .i64 y] w fun e w' => ∃ v, e = .returned (.tuple #[v, .int .i64 0]) ∧ NewInts w.heap.size w' v (x :: (stepsL kind l x y).map (·.1)) ∧ Below w.heap.size w w' := by
    rcases v_kind hv with rfl | rfl | rfl
    · exact Route_torus h sc hosts x y hv hin hy
    · exact Route_tree h sc hosts x y hv hin hy
    · exact Route_drag h sc hosts x y hv hin hy
  refine key.mono ?_
  rintro e w' ⟨v, rfl, hn, hb⟩
  obtain ⟨a, c, rfl, hi, hf⟩ := hn.fresh
  exact ⟨⟨a, c, by simp, hi, hf⟩, hb⟩
theorem Classes_new {w : World} {sa : Option Addr} {l : List Int} (h : Ints w sa l) (sc : Nat) (kind hosts x y : Int) (hE : rteE kind l hosts x y = 0) :
    Calls Tryz.prog 88 #[.agg #[.int .i64 kind, .slice sa l.length sc, .int .i64 hosts], .int .i64 x, .int .i64 y] w fun e w' => (∃ a c, e = .returned (.tuple #[.slice a (stepsL kind l x y).length c, .int .i64 0]) ∧ Ints w' a ((stepsL kind l x y).map (·.2)) ∧ Fresh w.heap.size a) ∧ Below w.heap.size w w' := by
  obtain ⟨hv, hin, hy⟩ := rte_ok hE
  have key : Calls Tryz.prog 88 #[.agg #[.int .i64 kind, .slice sa l.length sc, .int .i64 hosts], .int .i64 x, .int .i64 y] w fun e w' => ∃ v, e = .returned (.tuple #[v, .int .i64 0]) ∧ NewInts w.heap.size w' v ((stepsL kind l x y).map (·.2)) ∧ Below w.heap.size w w' := by
    rcases v_kind hv with rfl | rfl | rfl
    · exact Classes_torus h sc hosts x y hv hin hy
    · exact Classes_tree h sc hosts x y hv hin hy
    · exact Classes_drag h sc hosts x y hv hin hy
  refine key.mono ?_
  rintro e w' ⟨v, rfl, hn, hb⟩
  obtain ⟨a, c, rfl, hi, hf⟩ := hn.fresh
  exact ⟨⟨a, c, by simp, hi, hf⟩, hb⟩

/-- the state of the law between two routes -/
def CycS (rk : N3 → Nat) (B : Nat) (X : World) (q : Nat) (wr : World) : Prop := ∃ (F : Nat → Prop) (ns : List N3) (ts : List (List Int)) (nv tv : Value) (us : List Value), Wt F B B ns ts nv tv us wr ∧ Good rk q ns ts ∧ Below B X wr
theorem cyc_start (rk : N3 → Nat) (X : World) : CycS rk X.heap.size X 0 (X.alloc (.cells #[.slice none 0 0, .slice none 0 0] 82)) := by
  have hz : (X.alloc (.cells #[.slice none 0 0, .slice none 0 0] 82)).heap.size = X.heap.size + 1 := by simp
  refine ⟨fun b => b = X.heap.size, [], [], .slice none 0 0, .slice none 0 0, [], ⟨heap_alloc_new X _, World.ownsRow_nil _ _ _ _, World.ownsRow_nil _ _ _ _, fun i hi => absurd hi (Nat.not_lt_zero _), fun i j hi => absurd hi (Nat.not_lt_zero _), rfl, fun b h => (by cases h), fun b h => (by cases h), fun i hi => absurd hi (Nat.not_lt_zero _), ?_⟩, ⟨rfl, Nat.le_refl _, fun i => by simp [List.getD], fun i k hi => absurd hi (Nat.not_lt_zero _)⟩, (Below.refl _ _).alloc (Nat.le_refl _) _⟩
  rintro b rfl
  omega

end Go.Proofs.YtbhkenphcahifaaGreat
