import Derived.Test.YtbhkenphcahifaaGreatPA
import Derived.Test.YtbhkenphcahifaaGreatNT
import Derived.Laws.StructEq
import Derived.ChangeKeysEq
namespace Go.Proofs.YtbhkenphcahifaaGreat
open Go.RowKit Go.Shelf
attribute [local go_sem] Oper.semAt_some
set_option maxRecDepth 100000
set_option maxHeartbeats 4000000

/-- nodes, read -/
structure TrisAt (w : World) (a : Option Addr) (ns : List N3) : Prop where
  at_ : ∀ i (h : i < ns.length), ∃ g, a = some ⟨g, 0, none⟩ ∧ w.cell? ⟨g, i * 3, none⟩ = some (.int .i64 ns[i].1) ∧ w.cell? ⟨g, i * 3 + 1, none⟩ = some (.int .i64 ns[i].2.1) ∧ w.cell? ⟨g, i * 3 + 2, none⟩ = some (.int .i64 ns[i].2.2)
theorem own_cell {w : World} {lo e k n g : Nat} {v : Value} {xs : List Value} (h : w.ownsRow lo e k v n xs) (hg : v.ownBlock = some g) (j : Nat) (u : Value) (hu : xs[j]? = some u) : w.cell? ⟨g, j, none⟩ = some u := by
  have := h.cells hg j u hu
  have hadd : (⟨g, 0, none⟩ : Addr).add j = ⟨g, j, none⟩ := by unfold Addr.add; split <;> simp_all
  rwa [hadd] at this
theorem own_shape {w : World} {lo e k n : Nat} {v : Value} {xs : List Value} (h : w.ownsRow lo e k v n xs) : ∃ a cap, v = .slice a n cap ∧ (∀ i, i < n → ∃ g, a = some ⟨g, 0, none⟩ ∧ v.ownBlock = some g) := by
  rcases h.2 with ⟨rfl, rfl⟩ | ⟨g, cap, cur, rfl, _⟩
  · exact ⟨none, 0, rfl, fun i hi => absurd hi (Nat.not_lt_zero _)⟩
  · exact ⟨_, cap, rfl, fun i _ => ⟨g, rfl, rfl⟩⟩
theorem Wt.nodes {F : Nat → Prop} {lo B : Nat} {ns : List N3} {ts : List (List Int)} {nv tv : Value} {us : List Value} {w : World} (h : Wt F lo B ns ts nv tv us w) : ∃ a cap, nv = .slice a ns.length cap ∧ TrisAt w a ns := by
  obtain ⟨a, cap, rfl, hs⟩ := own_shape h.nrow
  refine ⟨a, cap, rfl, ⟨fun i hi => ?_⟩⟩
  obtain ⟨g, rfl, hg⟩ := hs i hi
  obtain ⟨t0, t1, t2⟩ := tris_get ns i hi
  exact ⟨g, rfl, own_cell h.nrow hg _ _ t0, own_cell h.nrow hg _ _ t1, own_cell h.nrow hg _ _ t2⟩

theorem eql127 (p q r x y z : Int) (w : World) : (Op.equalIn 10000 166 (.agg #[.int .i64 p, .int .i64 q, .int .i64 r]) (.agg #[.int .i64 x, .int .i64 y, .int .i64 z])).run Tryz.prog w = .ok (p == x && (q == y && r == z)) w := by
  obtain ⟨i0, hi⟩ : ∃ i0, Tryz.prog.info? 3 = some i0 := by cases h : Tryz.prog.info? 3 with
    | none => have : (Tryz.prog.info? 3).isSome = true := by kernel_rfl
              rw [h] at this; cases this
    | some i => exact ⟨i, rfl⟩
  have hc : Tryz.prog.cellsOf 3 = 1 := by kernel_rfl
  have h3 : ∀ a b, (Op.equalIn 9999 3 (.int .i64 a) (.int .i64 b)).run Tryz.prog w = .ok (a == b) w := fun a b => run_equalIn_int w 9998 3 .i64 .i64 a b Tryz.underlying3
  rw [run_equalIn_array w 9999 _ _ Tryz.underlying166 hi, hc]
  have e : List.range 3 = [0, 1, 2] := by decide
  rw [e]
  simp only [Op.eqItems, part, isAgg, Sem.run_bind, run_underlying Tryz.underlying3]
  cases h0 : (p == x) <;> cases h1 : (q == y) <;> cases h2 : (r == z) <;> simp [h3, h0, h1, h2]
def NodeP (F : Nat → Prop) (lo B : Nat) (ns : List N3) (ts : List (List Int)) (w : World) (t : N3) (e : Ending) (w' : World) : Prop :=
  ∃ (k : Nat) (F' : Nat → Prop) (ns' : List N3) (ts' : List (List Int)) (nv' tv' : Value) (us' : List Value), e = .returned (.int .i64 (k : Int)) ∧ Wt F' lo B ns' ts' nv' tv' us' w' ∧ Ext F w F' w' ∧
      ns'[k]? = some t ∧ ((ns' = ns ∧ ts' = ts) ∨ (ns' = ns ++ [t] ∧ ts' = ts ++ [[]]))
theorem node_any {F : Nat → Prop} {lo B : Nat} {ns : List N3} {ts : List (List Int)} {nv tv : Value} {us : List Value} {w : World} (h : Wt F lo B ns ts nv tv us w) (hs : lo ≤ w.heap.size) (hl : ns.length ≤ 1000000000) (htl : ts.length = ns.length) (x y c : Int) :
    Calls Tryz.prog 86 #[.pointer (some ⟨B, 0, none⟩), .int .i64 x, .int .i64 y, .int .i64 c] w fun e w' => NodeP F lo B ns ts w (x, y, c) e w' := by
  obtain ⟨a, cap, rfl, hT⟩ := h.nodes
  obtain ⟨g1, cap1, w2, hr1, hB2, h3, x1⟩ := h.pushN x y c hl hs
  have hsz2 := x1.b0.size
  obtain ⟨g2, cap2, w4, hr2, hB4, h5, x2⟩ := h3.pushT (by omega) (by omega)
  have HR1 := Lib.hid hr1
  have HR2 := Lib.hid hr2
  have HT := Lib.hid hT
  have HW := Lib.hid h
  have HN : Hid (Wt (More (More F w w2) (w2.setCell ⟨B, 0, none⟩ (.slice (some ⟨g1, 0, none⟩) (ns.length + 1) cap1)) w4) lo B (ns ++ [(x, y, c)]) (ts ++ [[]]) (.slice (some ⟨g1, 0, none⟩) (ns.length + 1) cap1) (.slice (some ⟨g2, 0, none⟩) (ts.length + 1) cap2) (us ++ [.slice none 0 0]) (w4.setCell ⟨B, 1, none⟩ (.slice (some ⟨g2, 0, none⟩) (ts.length + 1) cap2)) ∧ Ext F w (More (More F w w2) (w2.setCell ⟨B, 0, none⟩ (.slice (some ⟨g1, 0, none⟩) (ns.length + 1) cap1)) w4) (w4.setCell ⟨B, 1, none⟩ (.slice (some ⟨g2, 0, none⟩) (ts.length + 1) cap2))) := ⟨h5, x1.trans x2⟩
  have c0 := cellR 0 h.box rfl
  have c1 := cellR 1 h.box rfl
  have d0 := cellR 0 hB2 rfl
  have d1 := cellR 1 hB2 rfl
  have f0 := frozen_of_row _ _ 0 _ _ hB2
  have l0 := (Array.getElem?_eq_some_iff.1 hB2).1
  have e0 := cellR 0 h3.box rfl
  have e1 := cellR 1 h3.box rfl
  have g0 := cellR 0 hB4 rfl
  have g1' := cellR 1 hB4 rfl
  have k1 := frozen_of_row _ _ 1 _ _ hB4
  have l1 := (Array.getElem?_eq_some_iff.1 hB4).1
  have m0 := cellR 0 h5.box rfl
  have m1 := cellR 1 h5.box rfl
  have hsz3 : (w2.setCell ⟨B, 0, none⟩ (.slice (some ⟨g1, 0, none⟩) (ns.length + 1) cap1)).heap.size = w2.heap.size := by simp
  rw [hsz3] at HR2
  obtain ⟨N, hN⟩ : ∃ N, N = ns.length := ⟨_, rfl⟩
  have HNN := Lib.hid hN
  try rw [htl] at HR1
  try rw [htl] at HR2
  try rw [htl] at HN
  try rw [htl] at c0
  try rw [htl] at d0
  try rw [htl] at e0
  try rw [htl] at g0
  try rw [htl] at m0
  try rw [htl] at c1
  try rw [htl] at d1
  try rw [htl] at e1
  try rw [htl] at g1'
  try rw [htl] at m1
  try rw [htl] at f0
  try rw [htl] at l0
  try rw [htl] at k1
  try rw [htl] at l1
  clear h hT h3 h5 x1 x2 hr1 hr2 hB2 hB4 hs htl hsz3
  try rw [← hN] at hl
  try rw [← hN] at HR1
  try rw [← hN] at HR2
  try rw [← hN] at HN
  try rw [← hN] at c0
  try rw [← hN] at d0
  try rw [← hN] at e0
  try rw [← hN] at g0
  try rw [← hN] at m0
  try rw [← hN] at c1
  try rw [← hN] at d1
  try rw [← hN] at e1
  try rw [← hN] at g1'
  try rw [← hN] at m1
  try rw [← hN] at f0
  try rw [← hN] at l0
  try rw [← hN] at k1
  try rw [← hN] at l1
  clear hN
  go_enter Tryz.func86, Tryz.ntmps86
  go_wp2_with fail
  go_loop [9] (fun i => ∃ (k : Nat), k ≤ N ∧ i = .int .i64 (k : Int)) (fun i => N - (intOf i).toNat)
  case atStart => exact ⟨0, Nat.zero_le _, rfl⟩
  case round =>
    obtain ⟨k, hk, rfl⟩ := hrel
    by_cases hlt : k < N
    · have hk1 : k < ns.length := by rw [← HNN.out]; exact hlt
      obtain ⟨g, rfl, t0, t1, t2⟩ := HT.out.at_ k hk1
      have HK : Hid (ns[k]? = some (ns[k].1, ns[k].2.1, ns[k].2.2)) := by show _ = _; rw [List.getElem?_eq_getElem hk1]
      generalize ns[k].1 = p0 at *
      generalize ns[k].2.1 = p1 at *
      generalize ns[k].2.2 = p2 at *
      clear hk1
      by_cases he : p0 = x ∧ p1 = y ∧ p2 = c
      · obtain ⟨rfl, rfl, rfl⟩ := he
        have heq := eql127 p0 p1 p2 p0 p1 p2 w
        rw [show (p0 == p0 && (p1 == p1 && p2 == p2)) = true by simp] at heq
        go_wp2_with fail
        go_ret
        exact ⟨k, F, ns, ts, _, _, us, rfl, HW.out, Ext.refl _ _, HK.out, .inl ⟨rfl, rfl⟩⟩
      · have hne : (p0 == x && (p1 == y && p2 == c)) = false := by
          rw [Bool.eq_false_iff]; intro e; simp at e; exact he ⟨e.1, e.2.1, e.2.2⟩
        have heq := eql127 p0 p1 p2 x y c w
        rw [hne] at heq
        go_wp2_with fail
        go_round
        case rel => exact ⟨k + 1, by omega, by go_num⟩
        case measure => simp [intOf]; omega
    · have hkN : k = N := by omega
      subst hkN
      clear HT hlt hk
      go_wp2_with (first | (at_builtin; refine Lib.wpList_append_run _ rfl (.tmp 36) (.tmp 41) 79 79 rfl _ _ rfl rfl _ _ HR1.out ?_) | (at_builtin; refine Lib.wpList_append_run _ rfl (.tmp 49) (.tmp 50) 80 80 rfl _ _ rfl rfl _ _ HR2.out ?_))
      go_ret
      refine ⟨k, _, _, _, _, _, _, rfl, HN.out.1, HN.out.2, ?_, .inr ⟨rfl, rfl⟩⟩
      rw [HNN.out]; simp
end Go.Proofs.YtbhkenphcahifaaGreat
