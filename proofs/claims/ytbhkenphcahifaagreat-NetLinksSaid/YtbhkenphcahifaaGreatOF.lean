import Derived.Test.YtbhkenphcahifaaGreatOE
namespace Go.Proofs.YtbhkenphcahifaaGreat
open Go.RowKit Go.Shelf
attribute [local go_sem] Oper.semAt_some
set_option maxRecDepth 100000
set_option maxHeartbeats 4000000

theorem torusMake (lo g off sc : Nat) (l : List Int) (mm x y : Int) (hg : g < lo) (hl1 : 1 ≤ l.length) (hl4 : l.length ≤ 4) (hb : ∀ i, i < l.length → 2 ≤ l.getD i 0 ∧ l.getD i 0 ≤ 16) (hx : 0 ≤ x) (hx2 : x ≤ 1000) (hy : 0 ≤ y) (hy2 : y ≤ 1000) (w : World) (hlow : LowL g off l w) :
    RMake lo 142 (.agg #[.slice (some ⟨g, off, none⟩) l.length sc, .int .i64 mm]) x y (torusL l x y) w := by
  obtain ⟨hbw, q0, q1, q2⟩ := three_new w (.cells #[.slice (some ⟨g, off, none⟩) l.length sc, .int .i64 mm] 138) (.cells #[.int .i64 x] 3) (.cells #[.int .i64 y] 3)
  have HB := Lib.hid hbw
  have hlow2 : LowL g off l (((w.alloc (.cells #[.slice (some ⟨g, off, none⟩) l.length sc, .int .i64 mm] 138)).alloc (.cells #[.int .i64 x] 3)).alloc (.cells #[.int .i64 y] 3)) := fun j hj => kcell hbw (hlow j hj)
  have HI : Hid (RIter lo 151 #[.pointer (some ⟨w.heap.size, 0, none⟩), .pointer (some ⟨w.heap.size + 1, 0, none⟩), .pointer (some ⟨w.heap.size + 2, 0, none⟩)] (torusL l x y) w.heap.size (((w.alloc (.cells #[.slice (some ⟨g, off, none⟩) l.length sc, .int .i64 mm] 138)).alloc (.cells #[.int .i64 x] 3)).alloc (.cells #[.int .i64 y] 3))) := by
    refine ⟨enters_of Tryz.func151 (by kernel_rfl) rfl, _, ?_, fun n n0 o hlo => torusIter n0 o w.heap.size (w.heap.size + 1) (w.heap.size + 2) g off sc l mm x y (by omega) hl1 hl4 hb hx hx2 hy hy2 q0 q1 q2 hlow2 n⟩
    rintro b (rfl | rfl | rfl)
    · exact ⟨Nat.le_refl _, _, q0, rfl⟩
    · exact ⟨by omega, _, q1, rfl⟩
    · exact ⟨by omega, _, q2, rfl⟩
  clear hbw q0 q1 q2 hlow hlow2 hb
  generalize l.length = N at *
  unfold RMake
  go_enter Tryz.func142, Tryz.ntmps142
  go_wp2_with fail
  go_ret
  exact ⟨151, _, rfl, HI.out, HB.out⟩
theorem tOk_sides {l : List Int} {h : Int} (ht : tOk l h) : (1 ≤ l.length ∧ l.length ≤ 4) ∧ ∀ i, i < l.length → 2 ≤ l.getD i 0 ∧ l.getD i 0 ≤ 16 := by
  refine ⟨by have := ht.1; omega, fun i hi => ?_⟩
  have := ht.2.2.1 l[i] (List.getElem_mem hi)
  rw [show l.getD i 0 = l[i] by simp [List.getD, hi]]
  exact this
theorem torus_v {l : List Int} {hosts : Int} (hv : vOk 1 l hosts) : tOk l hosts := by
  rcases hv with ⟨h0, h1⟩ | ⟨h0, h1⟩ | ⟨h0, h1⟩
  · exact h1
  · cases h0
  · cases h0
theorem torusL_len {l : List Int} {hosts x y : Int} (hv : vOk 1 l hosts) : (torusL l x y).length ≤ 100000 := by
  obtain ⟨⟨h1, h2⟩, hb⟩ := tOk_sides (torus_v hv)
  have := dimK_len (coordsL l y) hb l.length (Nat.le_refl _) (coordsL l x)
  unfold torusL
  omega
theorem torusSteps_make {w : World} {sa : Option Addr} {l : List Int} {hosts x y : Int} (h : Ints w sa l) (sc : Nat) (hv : vOk 1 l hosts) (hin : inB (swI 1 l) [x, y] = true) (W : World) (hb : Below w.heap.size w W) :
    RMake w.heap.size 142 (.agg #[.slice sa l.length sc, .int .i64 (prodI l)]) x y (torusL l x y) W := by
  obtain ⟨⟨h1, h2⟩, hs⟩ := tOk_sides (torus_v hv)
  obtain ⟨⟨hx0, hx1⟩, hy0, hy1⟩ := inB_two hin
  have hvb := v_bound hv
  have hne : l ≠ [] := by rintro rfl; simp at h1
  obtain ⟨g, off, rfl, hc⟩ := h.at_ hne
  have hg : g < w.heap.size := block_lt_of_cell (hc 0 (by omega))
  exact torusMake w.heap.size g off sc l (prodI l) x y hg h1 h2 hs hx0 (by omega) hy0 (by omega) W (fun j hj => kcell hb (hc j hj))
theorem Route_torus {w : World} {sa : Option Addr} {l : List Int} (h : Ints w sa l) (sc : Nat) (hosts x y : Int) (hv : vOk 1 l hosts) (hin : inB (swI 1 l) [x, y] = true) (hy : y < hoI 1 l) :
    Calls Tryz.prog 87 #[.agg #[.int .i64 1, .slice sa l.length sc, .int .i64 hosts], .int .i64 x, .int .i64 y] w fun e w' => ∃ v, e = .returned (.tuple #[v, .int .i64 0]) ∧ NewInts w.heap.size w' v (x :: (torusL l x y).map (·.1)) ∧ Below w.heap.size w w' :=
  Route1_any h sc hosts x y hv hin hy _ (torusL_len hv) (fun W hb => torusSteps_make h sc hv hin W hb)
theorem Classes_torus {w : World} {sa : Option Addr} {l : List Int} (h : Ints w sa l) (sc : Nat) (hosts x y : Int) (hv : vOk 1 l hosts) (hin : inB (swI 1 l) [x, y] = true) (hy : y < hoI 1 l) :
    Calls Tryz.prog 88 #[.agg #[.int .i64 1, .slice sa l.length sc, .int .i64 hosts], .int .i64 x, .int .i64 y] w fun e w' => ∃ v, e = .returned (.tuple #[v, .int .i64 0]) ∧ NewInts w.heap.size w' v ((torusL l x y).map (·.2)) ∧ Below w.heap.size w w' :=
  Classes1_any h sc hosts x y hv hin hy _ (torusL_len hv) (fun W hb => torusSteps_make h sc hv hin W hb)
end Go.Proofs.YtbhkenphcahifaaGreat
