import Derived.Test.YtbhkenphcahifaaGreatNV
import Derived.Test.YtbhkenphcahifaaGreatNX
namespace Go.Proofs.YtbhkenphcahifaaGreat
open Go.RowKit Go.Shelf
attribute [local go_sem] Oper.semAt_some
set_option maxRecDepth 100000
set_option maxHeartbeats 4000000

theorem m_route1 (sa : Option Addr) (n sc : Nat) (m : Int) (w : World) : (method 330 138 (.agg #[.slice sa n sc, .int .i64 m]) "armada/net.route").run Tryz.prog w = .ok (142, .agg #[.slice sa n sc, .int .i64 m]) w := by kernel_rfl
theorem m_route2 (a b c : Int) (w : World) : (method 330 142 (.agg #[.int .i64 a, .int .i64 b, .int .i64 c]) "armada/net.route").run Tryz.prog w = .ok (183, .agg #[.int .i64 a, .int .i64 b, .int .i64 c]) w := by kernel_rfl
theorem m_route3 (a b c : Int) (w : World) : (method 330 146 (.agg #[.int .i64 a, .int .i64 b, .int .i64 c]) "armada/net.route").run Tryz.prog w = .ok (197, .agg #[.int .i64 a, .int .i64 b, .int .i64 c]) w := by kernel_rfl
/-- a function that yields the steps of a route -/
def RIter (lo gf : Nat) (lb : Array Value) (L : List (Int × Int)) (s0 : Nat) (w : World) : Prop :=
  (∀ args w, (callFunc gf args).run Tryz.prog w = .ok (.enter gf args) w) ∧ ∃ Nd : Nat → Prop, (∀ b, Nd b → s0 ≤ b ∧ ∃ o, w.heap[b]? = some o ∧ o.isCells = true) ∧ ∀ n n0 o, lo ≤ n0 → SeqW n gf lb encP (Kq n0 o) (Fq n0 o) Nd L w
/-- a route's maker -/
def RMake (lo f : Nat) (rcv : Value) (x y : Int) (L : List (Int × Int)) (W : World) : Prop :=
  Calls Tryz.prog f #[rcv, .int .i64 x, .int .i64 y] W fun e w' => ∃ gf lb, e = .returned (.func (.func gf) #[] lb) ∧ RIter lo gf lb L W.heap.size w' ∧ Below W.heap.size W w'
theorem three_new (w : World) (a b c : Obj) : Below w.heap.size w (((w.alloc a).alloc b).alloc c) ∧ (((w.alloc a).alloc b).alloc c).heap[w.heap.size]? = some a ∧ (((w.alloc a).alloc b).alloc c).heap[w.heap.size + 1]? = some b ∧ (((w.alloc a).alloc b).alloc c).heap[w.heap.size + 2]? = some c := by
  obtain ⟨h1, h2, h3, h4⟩ := twoN w a b
  have hk : Below ((w.alloc a).alloc b).heap.size ((w.alloc a).alloc b) (((w.alloc a).alloc b).alloc c) := (Below.refl _ _).alloc (Nat.le_refl _) _
  refine ⟨h1.trans (hk.mono (by rw [h4]; omega)), heapB hk h2, heapB hk h3, ?_⟩
  rw [← h4]
  exact heap_alloc_new _ _
theorem dragMake (lo : Nat) (a h x y : Int) (ha : 1 ≤ a) (ha2 : a ≤ 16) (hh : 1 ≤ h) (hh2 : h ≤ 4) (hx : 0 ≤ x) (hx2 : x < a * (a * h + 1)) (hy : 0 ≤ y) (hy2 : y < a * (a * h + 1)) (w : World) :
    RMake lo 197 (.agg #[.int .i64 a, .int .i64 h, .int .i64 (a * h + 1)]) x y (dragL a h x y) w := by
  obtain ⟨hb, q0, q1, q2⟩ := three_new w (.cells #[.int .i64 a, .int .i64 h, .int .i64 (a * h + 1)] 146) (.cells #[.int .i64 x] 3) (.cells #[.int .i64 y] 3)
  have HB := Lib.hid hb
  have HI : Hid (RIter lo 202 #[.pointer (some ⟨w.heap.size + 1, 0, none⟩), .pointer (some ⟨w.heap.size, 0, none⟩), .pointer (some ⟨w.heap.size + 2, 0, none⟩)] (dragL a h x y) w.heap.size (((w.alloc (.cells #[.int .i64 a, .int .i64 h, .int .i64 (a * h + 1)] 146)).alloc (.cells #[.int .i64 x] 3)).alloc (.cells #[.int .i64 y] 3))) := by
    refine ⟨enters_of Tryz.func202 (by kernel_rfl) rfl, _, ?_, fun n n0 o _ => dragIter n0 o w.heap.size (w.heap.size + 1) (w.heap.size + 2) a h x y ha ha2 hh hh2 hx hx2 hy hy2 q0 q1 q2 n⟩
    rintro b (rfl | rfl | rfl)
    · exact ⟨Nat.le_refl _, _, q0, rfl⟩
    · exact ⟨by omega, _, q1, rfl⟩
    · exact ⟨by omega, _, q2, rfl⟩
  clear hb q0 q1 q2
  unfold RMake
  go_enter Tryz.func197, Tryz.ntmps197
  go_wp2_with fail
  go_ret
  exact ⟨202, _, rfl, HI.out, HB.out⟩
theorem Fq_of {n0 o b : Nat} {xs : List Int} {w0 W W2 : World} (hn : n0 ≤ w0.heap.size) (hi : OutI n0 o xs W) (hw : Below n0 w0 W) (hb : Below W.heap.size W W2) (h1 : W.heap.size ≤ b) (h2 : ∃ ob, W2.heap[b]? = some ob ∧ ob.isCells = true) : Fq n0 o b W2 := (OutI.priv (xs := xs) (w := w0) hn).new W W2 b ⟨hi, hw⟩ hb h1 h2
theorem ownsRow_low {w : World} {b b' : Nat} {e : TypeId} {size : Nat} {v : Value} {n : Nat} {xs : List Value} (h : w.ownsRow b e size v n xs) (hb : b' ≤ b) : w.ownsRow b' e size v n xs :=
  ⟨h.1, h.2.imp id fun ⟨g, cap, cur, h1, h2, h3⟩ => ⟨g, cap, cur, h1, Nat.le_trans hb h2, h3⟩⟩
theorem infoI : (Tryz.prog.info? 3).map (fun i => (i.zero, i.size, i.bytes)) = some (some (.int .i64 0), 1, 8) := by kernel_rfl
theorem Route1_any {w : World} {sa : Option Addr} {l : List Int} (h : Ints w sa l) (sc : Nat) (hosts x y : Int) (hv : vOk 1 l hosts) (hin : inB (swI 1 l) [x, y] = true) (hy : y < hoI 1 l) (L : List (Int × Int)) (hLn : L.length ≤ 100000)
    (hmk : ∀ W, Below w.heap.size w W → RMake w.heap.size 142 (.agg #[.slice sa l.length sc, .int .i64 (prodI l)]) x y L W) :
    Calls Tryz.prog 87 #[.agg #[.int .i64 1, .slice sa l.length sc, .int .i64 hosts], .int .i64 x, .int .i64 y] w fun e w' => ∃ v, e = .returned (.tuple #[v, .int .i64 0]) ∧ NewInts w.heap.size w' v (x :: L.map (·.1)) ∧ Below w.heap.size w w' := by
  have HRO := Lib.hid (fun W (hb : Below w.heap.size w W) => routed1_any (h.keep hb) sc hosts x y hv hin)
  rw [if_pos hy, show rteE 1 l hosts x y = 0 by unfold rteE; rw [if_pos hv, if_pos hin, if_pos hy]] at HRO
  have HMK := Lib.hid hmk
  have HB := Lib.hid ((Below.refl w.heap.size w).alloc (Nat.le_refl _) (.cells #[.int .i64 1, .slice sa l.length sc, .int .i64 hosts] 24))
  have c0 := cellR 0 (heap_alloc_new w (.cells #[.int .i64 1, .slice sa l.length sc, .int .i64 hosts] 24)) rfl
  have c1 := cellR 1 (heap_alloc_new w (.cells #[.int .i64 1, .slice sa l.length sc, .int .i64 hosts] 24)) rfl
  have c2 := cellR 2 (heap_alloc_new w (.cells #[.int .i64 1, .slice sa l.length sc, .int .i64 hosts] 24)) rfl
  have hm := m_route1 sa l.length sc (prodI l)
  clear h hv hin hy hmk
  generalize prodI l = p0 at *
  have HLN := Lib.hid hLn
  clear hLn
  refine (callsIn_wide (n := 4)).1 ?_
  refine callsIn_of_wp_marks Tryz.func87 rfl trivial ?_ rfl
  simp only [Tryz.ntmps87, List.size_toArray, List.length_cons, List.length_nil, Nat.reduceAdd, Nat.reduceSub, Array.replicate_succ, Array.replicate_zero, List.push_toArray, List.append_toArray, List.nil_append, List.cons_append]
  gi_wp2
  generalize w.alloc (.cells #[.int .i64 1, .slice sa l.length sc, .int .i64 hosts] 24) = X at *
  refine ⟨trivial, callsIn_wide.2 ((HRO.out _ HB.out).mono ?_)⟩
  rintro e w1 ⟨rfl, hb1⟩
  have HB1 := Lib.hid (HB.out.trans (hb1.mono HB.out.size))
  clear HRO c0 c1 c2 HB hb1
  gi_wp2
  obtain ⟨hbw, r0, r1, hz⟩ := twoN w1 (.cells #[.int .i64 x] 3) (.cells #[.slice (some ⟨w1.heap.size, 0, none⟩) 1 1] 22)
  generalize (w1.alloc (.cells #[.int .i64 x] 3)).alloc (.cells #[.slice (some ⟨w1.heap.size, 0, none⟩) 1 1] 22) = W0 at *
  have hO : OutI w1.heap.size (w1.heap.size + 1) [x] W0 := ⟨_, r1, ⟨rfl, .inr ⟨w1.heap.size, 1, #[.int .i64 x], rfl, Nat.le_refl _, r0, Nat.le_refl _, by decide, rfl, rfl⟩⟩, by simp⟩
  refine ⟨trivial, callsIn_wide.2 ((HMK.out _ (HB1.out.trans (hbw.mono HB1.out.size))).mono ?_)⟩
  rintro e w2 ⟨gf, lb, rfl, hIt, hb2⟩
  have hO2 := hO.below hb2
  have hbw2 := hbw.trans (hb2.mono (by rw [hz]; omega))
  obtain ⟨heg, Nd, hNd, hSq⟩ := hIt
  have hnd : ∀ b, Nd b → Fq w1.heap.size (w1.heap.size + 1) b w2 := fun b hb => Fq_of (Nat.le_refl _) hO hbw hb2 (hNd b hb).1 (hNd b hb).2
  have HSQ := Lib.hid (fun n => hSq n w1.heap.size (w1.heap.size + 1) HB1.out.size)
  have hz2 := hb2.size
  clear HMK hm hNd hSq hO hbw r0 r1 hb2
  gi_wp2
  refine range_w (L := L) (by omega) rfl heg (HSQ.out _) hnd Kq.trans (fun W q ob o' hs hl hc => Kq.putObj (by omega) W q ob o' hs hl hc (by omega)) (fun _ => rfl) (fun pre W => OutI w1.heap.size (w1.heap.size + 1) (x :: pre.map (·.1)) W ∧ Below w1.heap.size w1 W) (OwnFrom.and (OutI.own fun pre : List (Int × Int) => x :: pre.map (·.1)) (ownFrom_below (Nat.le_refl _) (by omega))) (fun pre => OutI.priv (Nat.le_refl _)) ⟨hO2, hbw2⟩ (fun p => ⟨#[Value.agg #[.int .i64 1, .slice sa l.length sc, .int .i64 hosts], .int .i64 x, .int .i64 y, .pointer (some ⟨w.heap.size, 0, none⟩), undef, undef, .slice none 0 0, .int .i64 0, .iface 138 (.agg #[.slice sa l.length sc, .int .i64 p0]), .int .i64 0, .pointer (some ⟨w1.heap.size + 1, 0, none⟩), .int .i64 p.1, .tuple #[.iface 138 (.agg #[.slice sa l.length sc, .int .i64 p0]), .int .i64 0], .agg #[.int .i64 1, .slice sa l.length sc, .int .i64 hosts], .int .i64 x, .int .i64 y, .tuple #[.iface 138 (.agg #[.slice sa l.length sc, .int .i64 p0]), .int .i64 0], .iface 138 (.agg #[.slice sa l.length sc, .int .i64 p0]), .int .i64 0, .int .i64 0, .bool false, undef, .int .i64 x, .slice (some ⟨w1.heap.size, 0, none⟩) 1 1, .iface 138 (.agg #[.slice sa l.length sc, .int .i64 p0]), .int .i64 x, .int .i64 y, .func (.func gf) #[] lb, .int .i64 p.1, .int .i64 p.2, undef, undef, undef, undef, undef], []⟩) ?assign ?body ?done
  case assign =>
    intro q p W K hK
    gi_wp2
    exact hK
  case body =>
    rintro q pre p W ⟨hO3, hB3⟩ hlen
    have hll : (x :: pre.map (·.1)).length ≤ 200000 := by have := HLN.out; simp; omega
    obtain ⟨v, g, cap, wA, hv, hvA, hrun, hO4, hk4, hq4⟩ := hO3.append p.1 hll (by have := hB3.size; omega) (by omega)
    have cv := hv.cell
    have cA := hvA.cell
    have fA := hvA.frozen
    have lA := hvA.lt
    have hle : (x :: pre.map (·.1)).length + 1 = pre.length + 1 + 1 := by simp
    rw [hle] at hrun hO4 hk4 hq4
    clear hlen hll hle
    gi_wp2_with (gi_at_builtin; refine wpListIn_append_run rfl _ _ 22 rfl rfl rfl hrun ?_)
    exact ⟨hk4.from _, hq4, by simpa using hO4, hB3.trans hq4.1⟩
  case done =>
    rintro D W hD ⟨⟨v, hv, hrow, hnil⟩, hB3⟩ hK
    have cv := hv.cell
    have hs0 := HB1.out.size
    have hs2 := hbw2.size
    gi_wp2
    refine ⟨by simp, .inl ⟨_, _, rfl, run_takeDeferred hK, ?_⟩⟩
    refine ⟨.tuple #[v, .int .i64 0], ?_, v, rfl, ⟨ownsRow_putObj (ownsRow_low hrow hs0) _ hK rfl, ?_⟩, (HB1.out.trans (hB3.mono hs0)).trans ⟨rfl, rfl, rfl, by simp [World.putObj], fun k hk => World.putObj_heap_other (by omega)⟩⟩
    · simp [results, Tryz.results87, go_sem]
    · have := HLN.out; simp; omega
theorem Classes1_any {w : World} {sa : Option Addr} {l : List Int} (h : Ints w sa l) (sc : Nat) (hosts x y : Int) (hv : vOk 1 l hosts) (hin : inB (swI 1 l) [x, y] = true) (hy : y < hoI 1 l) (L : List (Int × Int)) (hLn : L.length ≤ 100000)
    (hmk : ∀ W, Below w.heap.size w W → RMake w.heap.size 142 (.agg #[.slice sa l.length sc, .int .i64 (prodI l)]) x y L W) :
    Calls Tryz.prog 88 #[.agg #[.int .i64 1, .slice sa l.length sc, .int .i64 hosts], .int .i64 x, .int .i64 y] w fun e w' => ∃ v, e = .returned (.tuple #[v, .int .i64 0]) ∧ NewInts w.heap.size w' v (L.map (·.2)) ∧ Below w.heap.size w w' := by
  have HRO := Lib.hid (fun W (hb : Below w.heap.size w W) => routed1_any (h.keep hb) sc hosts x y hv hin)
  rw [if_pos hy, show rteE 1 l hosts x y = 0 by unfold rteE; rw [if_pos hv, if_pos hin, if_pos hy]] at HRO
  have HMK := Lib.hid hmk
  have HB := Lib.hid ((Below.refl w.heap.size w).alloc (Nat.le_refl _) (.cells #[.int .i64 1, .slice sa l.length sc, .int .i64 hosts] 24))
  have c0 := cellR 0 (heap_alloc_new w (.cells #[.int .i64 1, .slice sa l.length sc, .int .i64 hosts] 24)) rfl
  have c1 := cellR 1 (heap_alloc_new w (.cells #[.int .i64 1, .slice sa l.length sc, .int .i64 hosts] 24)) rfl
  have c2 := cellR 2 (heap_alloc_new w (.cells #[.int .i64 1, .slice sa l.length sc, .int .i64 hosts] 24)) rfl
  have hm := m_route1 sa l.length sc (prodI l)
  clear h hv hin hy hmk
  generalize prodI l = p0 at *
  have HLN := Lib.hid hLn
  clear hLn
  refine (callsIn_wide (n := 4)).1 ?_
  refine callsIn_of_wp_marks Tryz.func88 rfl trivial ?_ rfl
  simp only [Tryz.ntmps88, List.size_toArray, List.length_cons, List.length_nil, Nat.reduceAdd, Nat.reduceSub, Array.replicate_succ, Array.replicate_zero, List.push_toArray, List.append_toArray, List.nil_append, List.cons_append]
  gi_wp2
  generalize w.alloc (.cells #[.int .i64 1, .slice sa l.length sc, .int .i64 hosts] 24) = X at *
  refine ⟨trivial, callsIn_wide.2 ((HRO.out _ HB.out).mono ?_)⟩
  rintro e w1 ⟨rfl, hb1⟩
  have HB1 := Lib.hid (HB.out.trans (hb1.mono HB.out.size))
  clear HRO c0 c1 c2 HB hb1
  gi_wp2
  have hbw : Below w1.heap.size w1 (w1.alloc (.cells #[.slice none 0 0] 22)) := (Below.refl _ _).alloc (Nat.le_refl _) _
  have r1 := heap_alloc_new w1 (.cells #[.slice none 0 0] 22)
  have hz : (w1.alloc (.cells #[.slice none 0 0] 22)).heap.size = w1.heap.size + 1 := by simp
  have hO : OutI w1.heap.size w1.heap.size [] (w1.alloc (.cells #[.slice none 0 0] 22)) := ⟨_, r1, ⟨rfl, .inl ⟨rfl, rfl⟩⟩, by simp⟩
  generalize w1.alloc (.cells #[.slice none 0 0] 22) = W0 at *
  refine ⟨trivial, callsIn_wide.2 ((HMK.out _ (HB1.out.trans (hbw.mono HB1.out.size))).mono ?_)⟩
  rintro e w2 ⟨gf, lb, rfl, hIt, hb2⟩
  have hO2 := hO.below hb2
  have hbw2 := hbw.trans (hb2.mono (by rw [hz]; omega))
  obtain ⟨heg, Nd, hNd, hSq⟩ := hIt
  have hnd : ∀ b, Nd b → Fq w1.heap.size w1.heap.size b w2 := fun b hb => Fq_of (Nat.le_refl _) hO hbw hb2 (hNd b hb).1 (hNd b hb).2
  have HSQ := Lib.hid (fun n => hSq n w1.heap.size w1.heap.size HB1.out.size)
  have hz2 := hb2.size
  clear HMK hm hNd hSq hO hbw r1 hb2
  gi_wp2
  refine range_w (L := L) (by omega) rfl heg (HSQ.out _) hnd Kq.trans (fun W q ob o' hs hl hc => Kq.putObj (by omega) W q ob o' hs hl hc (by omega)) (fun _ => rfl) (fun pre W => OutI w1.heap.size w1.heap.size (pre.map (·.2)) W ∧ Below w1.heap.size w1 W) (OwnFrom.and (OutI.own fun pre : List (Int × Int) => pre.map (·.2)) (ownFrom_below (Nat.le_refl _) (by omega))) (fun pre => OutI.priv (Nat.le_refl _)) ⟨hO2, hbw2⟩ (fun p => ⟨#[Value.agg #[.int .i64 1, .slice sa l.length sc, .int .i64 hosts], .int .i64 x, .int .i64 y, .pointer (some ⟨w.heap.size, 0, none⟩), undef, undef, .slice none 0 0, .int .i64 0, .iface 138 (.agg #[.slice sa l.length sc, .int .i64 p0]), .int .i64 0, .pointer (some ⟨w1.heap.size, 0, none⟩), undef, .int .i64 p.2, .tuple #[.iface 138 (.agg #[.slice sa l.length sc, .int .i64 p0]), .int .i64 0], .agg #[.int .i64 1, .slice sa l.length sc, .int .i64 hosts], .int .i64 x, .int .i64 y, .tuple #[.iface 138 (.agg #[.slice sa l.length sc, .int .i64 p0]), .int .i64 0], .iface 138 (.agg #[.slice sa l.length sc, .int .i64 p0]), .int .i64 0, .int .i64 0, .bool false, undef, .iface 138 (.agg #[.slice sa l.length sc, .int .i64 p0]), .int .i64 x, .int .i64 y, .func (.func gf) #[] lb, .int .i64 p.1, .int .i64 p.2, undef, undef, undef, undef, undef], []⟩) ?assign ?body ?done
  case assign =>
    intro q p W K hK
    gi_wp2
    exact hK
  case body =>
    rintro q pre p W ⟨hO3, hB3⟩ hlen
    have hll : (pre.map (·.2)).length ≤ 200000 := by have := HLN.out; simp; omega
    obtain ⟨v, g, cap, wA, hv, hvA, hrun, hO4, hk4, hq4⟩ := hO3.append p.2 hll (by have := hB3.size; omega) (by omega)
    have cv := hv.cell
    have cA := hvA.cell
    have fA := hvA.frozen
    have lA := hvA.lt
    have hle : (pre.map (·.2)).length + 1 = pre.length + 1 := by simp
    rw [hle] at hrun hO4 hk4 hq4
    clear hlen hll hle
    gi_wp2_with (gi_at_builtin; refine wpListIn_append_run rfl _ _ 22 rfl rfl rfl hrun ?_)
    exact ⟨hk4.from _, hq4, by simpa using hO4, hB3.trans hq4.1⟩
  case done =>
    rintro D W hD ⟨⟨v, hv, hrow, hnil⟩, hB3⟩ hK
    have cv := hv.cell
    have hs0 := HB1.out.size
    have hs2 := hbw2.size
    gi_wp2
    refine ⟨by simp, .inl ⟨_, _, rfl, run_takeDeferred hK, ?_⟩⟩
    refine ⟨.tuple #[v, .int .i64 0], ?_, v, rfl, ⟨ownsRow_putObj (ownsRow_low hrow hs0) _ hK rfl, ?_⟩, (HB1.out.trans (hB3.mono hs0)).trans ⟨rfl, rfl, rfl, by simp [World.putObj], fun k hk => World.putObj_heap_other (by omega)⟩⟩
    · simp [results, Tryz.results88, go_sem]
    · have := HLN.out; simp; omega
theorem Route2_any {w : World} {sa : Option Addr} {l : List Int} (h : Ints w sa l) (sc : Nat) (hosts x y : Int) (hv : vOk 2 l hosts) (hin : inB (swI 2 l) [x, y] = true) (hy : y < hoI 2 l) (L : List (Int × Int)) (hLn : L.length ≤ 100000)
    (hmk : ∀ W, Below w.heap.size w W → RMake w.heap.size 183 (.agg #[.int .i64 (l.getD 0 0), .int .i64 (l.getD 1 0), .int .i64 (wordsI l)]) x y L W) :
    Calls Tryz.prog 87 #[.agg #[.int .i64 2, .slice sa l.length sc, .int .i64 hosts], .int .i64 x, .int .i64 y] w fun e w' => ∃ v, e = .returned (.tuple #[v, .int .i64 0]) ∧ NewInts w.heap.size w' v (x :: L.map (·.1)) ∧ Below w.heap.size w w' := by
  have HRO := Lib.hid (fun W (hb : Below w.heap.size w W) => routed2_any (h.keep hb) sc hosts x y hv hin)
  rw [if_pos hy, show rteE 2 l hosts x y = 0 by unfold rteE; rw [if_pos hv, if_pos hin, if_pos hy]] at HRO
  have HMK := Lib.hid hmk
  have HB := Lib.hid ((Below.refl w.heap.size w).alloc (Nat.le_refl _) (.cells #[.int .i64 2, .slice sa l.length sc, .int .i64 hosts] 24))
  have c0 := cellR 0 (heap_alloc_new w (.cells #[.int .i64 2, .slice sa l.length sc, .int .i64 hosts] 24)) rfl
  have c1 := cellR 1 (heap_alloc_new w (.cells #[.int .i64 2, .slice sa l.length sc, .int .i64 hosts] 24)) rfl
  have c2 := cellR 2 (heap_alloc_new w (.cells #[.int .i64 2, .slice sa l.length sc, .int .i64 hosts] 24)) rfl
  have hm := m_route2 (l.getD 0 0) (l.getD 1 0) (wordsI l)
  clear h hv hin hy hmk
  generalize l.getD 0 0 = p0 at *
  generalize l.getD 1 0 = p1 at *
  generalize wordsI l = p2 at *
  have HLN := Lib.hid hLn
  clear hLn
  refine (callsIn_wide (n := 4)).1 ?_
  refine callsIn_of_wp_marks Tryz.func87 rfl trivial ?_ rfl
  simp only [Tryz.ntmps87, List.size_toArray, List.length_cons, List.length_nil, Nat.reduceAdd, Nat.reduceSub, Array.replicate_succ, Array.replicate_zero, List.push_toArray, List.append_toArray, List.nil_append, List.cons_append]
  gi_wp2
  generalize w.alloc (.cells #[.int .i64 2, .slice sa l.length sc, .int .i64 hosts] 24) = X at *
  refine ⟨trivial, callsIn_wide.2 ((HRO.out _ HB.out).mono ?_)⟩
  rintro e w1 ⟨rfl, hb1⟩
  have HB1 := Lib.hid (HB.out.trans (hb1.mono HB.out.size))
  clear HRO c0 c1 c2 HB hb1
  gi_wp2
  obtain ⟨hbw, r0, r1, hz⟩ := twoN w1 (.cells #[.int .i64 x] 3) (.cells #[.slice (some ⟨w1.heap.size, 0, none⟩) 1 1] 22)
  generalize (w1.alloc (.cells #[.int .i64 x] 3)).alloc (.cells #[.slice (some ⟨w1.heap.size, 0, none⟩) 1 1] 22) = W0 at *
  have hO : OutI w1.heap.size (w1.heap.size + 1) [x] W0 := ⟨_, r1, ⟨rfl, .inr ⟨w1.heap.size, 1, #[.int .i64 x], rfl, Nat.le_refl _, r0, Nat.le_refl _, by decide, rfl, rfl⟩⟩, by simp⟩
  refine ⟨trivial, callsIn_wide.2 ((HMK.out _ (HB1.out.trans (hbw.mono HB1.out.size))).mono ?_)⟩
  rintro e w2 ⟨gf, lb, rfl, hIt, hb2⟩
  have hO2 := hO.below hb2
  have hbw2 := hbw.trans (hb2.mono (by rw [hz]; omega))
  obtain ⟨heg, Nd, hNd, hSq⟩ := hIt
  have hnd : ∀ b, Nd b → Fq w1.heap.size (w1.heap.size + 1) b w2 := fun b hb => Fq_of (Nat.le_refl _) hO hbw hb2 (hNd b hb).1 (hNd b hb).2
  have HSQ := Lib.hid (fun n => hSq n w1.heap.size (w1.heap.size + 1) HB1.out.size)
  have hz2 := hb2.size
  clear HMK hm hNd hSq hO hbw r0 r1 hb2
  gi_wp2
  refine range_w (L := L) (by omega) rfl heg (HSQ.out _) hnd Kq.trans (fun W q ob o' hs hl hc => Kq.putObj (by omega) W q ob o' hs hl hc (by omega)) (fun _ => rfl) (fun pre W => OutI w1.heap.size (w1.heap.size + 1) (x :: pre.map (·.1)) W ∧ Below w1.heap.size w1 W) (OwnFrom.and (OutI.own fun pre : List (Int × Int) => x :: pre.map (·.1)) (ownFrom_below (Nat.le_refl _) (by omega))) (fun pre => OutI.priv (Nat.le_refl _)) ⟨hO2, hbw2⟩ (fun p => ⟨#[Value.agg #[.int .i64 2, .slice sa l.length sc, .int .i64 hosts], .int .i64 x, .int .i64 y, .pointer (some ⟨w.heap.size, 0, none⟩), undef, undef, .slice none 0 0, .int .i64 0, .iface 142 (.agg #[.int .i64 p0, .int .i64 p1, .int .i64 p2]), .int .i64 0, .pointer (some ⟨w1.heap.size + 1, 0, none⟩), .int .i64 p.1, .tuple #[.iface 142 (.agg #[.int .i64 p0, .int .i64 p1, .int .i64 p2]), .int .i64 0], .agg #[.int .i64 2, .slice sa l.length sc, .int .i64 hosts], .int .i64 x, .int .i64 y, .tuple #[.iface 142 (.agg #[.int .i64 p0, .int .i64 p1, .int .i64 p2]), .int .i64 0], .iface 142 (.agg #[.int .i64 p0, .int .i64 p1, .int .i64 p2]), .int .i64 0, .int .i64 0, .bool false, undef, .int .i64 x, .slice (some ⟨w1.heap.size, 0, none⟩) 1 1, .iface 142 (.agg #[.int .i64 p0, .int .i64 p1, .int .i64 p2]), .int .i64 x, .int .i64 y, .func (.func gf) #[] lb, .int .i64 p.1, .int .i64 p.2, undef, undef, undef, undef, undef], []⟩) ?assign ?body ?done
  case assign =>
    intro q p W K hK
    gi_wp2
    exact hK
  case body =>
    rintro q pre p W ⟨hO3, hB3⟩ hlen
    have hll : (x :: pre.map (·.1)).length ≤ 200000 := by have := HLN.out; simp; omega
    obtain ⟨v, g, cap, wA, hv, hvA, hrun, hO4, hk4, hq4⟩ := hO3.append p.1 hll (by have := hB3.size; omega) (by omega)
    have cv := hv.cell
    have cA := hvA.cell
    have fA := hvA.frozen
    have lA := hvA.lt
    have hle : (x :: pre.map (·.1)).length + 1 = pre.length + 1 + 1 := by simp
    rw [hle] at hrun hO4 hk4 hq4
    clear hlen hll hle
    gi_wp2_with (gi_at_builtin; refine wpListIn_append_run rfl _ _ 22 rfl rfl rfl hrun ?_)
    exact ⟨hk4.from _, hq4, by simpa using hO4, hB3.trans hq4.1⟩
  case done =>
    rintro D W hD ⟨⟨v, hv, hrow, hnil⟩, hB3⟩ hK
    have cv := hv.cell
    have hs0 := HB1.out.size
    have hs2 := hbw2.size
    gi_wp2
    refine ⟨by simp, .inl ⟨_, _, rfl, run_takeDeferred hK, ?_⟩⟩
    refine ⟨.tuple #[v, .int .i64 0], ?_, v, rfl, ⟨ownsRow_putObj (ownsRow_low hrow hs0) _ hK rfl, ?_⟩, (HB1.out.trans (hB3.mono hs0)).trans ⟨rfl, rfl, rfl, by simp [World.putObj], fun k hk => World.putObj_heap_other (by omega)⟩⟩
    · simp [results, Tryz.results87, go_sem]
    · have := HLN.out; simp; omega
theorem Classes2_any {w : World} {sa : Option Addr} {l : List Int} (h : Ints w sa l) (sc : Nat) (hosts x y : Int) (hv : vOk 2 l hosts) (hin : inB (swI 2 l) [x, y] = true) (hy : y < hoI 2 l) (L : List (Int × Int)) (hLn : L.length ≤ 100000)
    (hmk : ∀ W, Below w.heap.size w W → RMake w.heap.size 183 (.agg #[.int .i64 (l.getD 0 0), .int .i64 (l.getD 1 0), .int .i64 (wordsI l)]) x y L W) :
    Calls Tryz.prog 88 #[.agg #[.int .i64 2, .slice sa l.length sc, .int .i64 hosts], .int .i64 x, .int .i64 y] w fun e w' => ∃ v, e = .returned (.tuple #[v, .int .i64 0]) ∧ NewInts w.heap.size w' v (L.map (·.2)) ∧ Below w.heap.size w w' := by
  have HRO := Lib.hid (fun W (hb : Below w.heap.size w W) => routed2_any (h.keep hb) sc hosts x y hv hin)
  rw [if_pos hy, show rteE 2 l hosts x y = 0 by unfold rteE; rw [if_pos hv, if_pos hin, if_pos hy]] at HRO
  have HMK := Lib.hid hmk
  have HB := Lib.hid ((Below.refl w.heap.size w).alloc (Nat.le_refl _) (.cells #[.int .i64 2, .slice sa l.length sc, .int .i64 hosts] 24))
  have c0 := cellR 0 (heap_alloc_new w (.cells #[.int .i64 2, .slice sa l.length sc, .int .i64 hosts] 24)) rfl
  have c1 := cellR 1 (heap_alloc_new w (.cells #[.int .i64 2, .slice sa l.length sc, .int .i64 hosts] 24)) rfl
  have c2 := cellR 2 (heap_alloc_new w (.cells #[.int .i64 2, .slice sa l.length sc, .int .i64 hosts] 24)) rfl
  have hm := m_route2 (l.getD 0 0) (l.getD 1 0) (wordsI l)
  clear h hv hin hy hmk
  generalize l.getD 0 0 = p0 at *
  generalize l.getD 1 0 = p1 at *
  generalize wordsI l = p2 at *
  have HLN := Lib.hid hLn
  clear hLn
  refine (callsIn_wide (n := 4)).1 ?_
  refine callsIn_of_wp_marks Tryz.func88 rfl trivial ?_ rfl
  simp only [Tryz.ntmps88, List.size_toArray, List.length_cons, List.length_nil, Nat.reduceAdd, Nat.reduceSub, Array.replicate_succ, Array.replicate_zero, List.push_toArray, List.append_toArray, List.nil_append, List.cons_append]
  gi_wp2
  generalize w.alloc (.cells #[.int .i64 2, .slice sa l.length sc, .int .i64 hosts] 24) = X at *
  refine ⟨trivial, callsIn_wide.2 ((HRO.out _ HB.out).mono ?_)⟩
  rintro e w1 ⟨rfl, hb1⟩
  have HB1 := Lib.hid (HB.out.trans (hb1.mono HB.out.size))
  clear HRO c0 c1 c2 HB hb1
  gi_wp2
  have hbw : Below w1.heap.size w1 (w1.alloc (.cells #[.slice none 0 0] 22)) := (Below.refl _ _).alloc (Nat.le_refl _) _
  have r1 := heap_alloc_new w1 (.cells #[.slice none 0 0] 22)
  have hz : (w1.alloc (.cells #[.slice none 0 0] 22)).heap.size = w1.heap.size + 1 := by simp
  have hO : OutI w1.heap.size w1.heap.size [] (w1.alloc (.cells #[.slice none 0 0] 22)) := ⟨_, r1, ⟨rfl, .inl ⟨rfl, rfl⟩⟩, by simp⟩
  generalize w1.alloc (.cells #[.slice none 0 0] 22) = W0 at *
  refine ⟨trivial, callsIn_wide.2 ((HMK.out _ (HB1.out.trans (hbw.mono HB1.out.size))).mono ?_)⟩
  rintro e w2 ⟨gf, lb, rfl, hIt, hb2⟩
  have hO2 := hO.below hb2
  have hbw2 := hbw.trans (hb2.mono (by rw [hz]; omega))
  obtain ⟨heg, Nd, hNd, hSq⟩ := hIt
  have hnd : ∀ b, Nd b → Fq w1.heap.size w1.heap.size b w2 := fun b hb => Fq_of (Nat.le_refl _) hO hbw hb2 (hNd b hb).1 (hNd b hb).2
  have HSQ := Lib.hid (fun n => hSq n w1.heap.size w1.heap.size HB1.out.size)
  have hz2 := hb2.size
  clear HMK hm hNd hSq hO hbw r1 hb2
  gi_wp2
  refine range_w (L := L) (by omega) rfl heg (HSQ.out _) hnd Kq.trans (fun W q ob o' hs hl hc => Kq.putObj (by omega) W q ob o' hs hl hc (by omega)) (fun _ => rfl) (fun pre W => OutI w1.heap.size w1.heap.size (pre.map (·.2)) W ∧ Below w1.heap.size w1 W) (OwnFrom.and (OutI.own fun pre : List (Int × Int) => pre.map (·.2)) (ownFrom_below (Nat.le_refl _) (by omega))) (fun pre => OutI.priv (Nat.le_refl _)) ⟨hO2, hbw2⟩ (fun p => ⟨#[Value.agg #[.int .i64 2, .slice sa l.length sc, .int .i64 hosts], .int .i64 x, .int .i64 y, .pointer (some ⟨w.heap.size, 0, none⟩), undef, undef, .slice none 0 0, .int .i64 0, .iface 142 (.agg #[.int .i64 p0, .int .i64 p1, .int .i64 p2]), .int .i64 0, .pointer (some ⟨w1.heap.size, 0, none⟩), undef, .int .i64 p.2, .tuple #[.iface 142 (.agg #[.int .i64 p0, .int .i64 p1, .int .i64 p2]), .int .i64 0], .agg #[.int .i64 2, .slice sa l.length sc, .int .i64 hosts], .int .i64 x, .int .i64 y, .tuple #[.iface 142 (.agg #[.int .i64 p0, .int .i64 p1, .int .i64 p2]), .int .i64 0], .iface 142 (.agg #[.int .i64 p0, .int .i64 p1, .int .i64 p2]), .int .i64 0, .int .i64 0, .bool false, undef, .iface 142 (.agg #[.int .i64 p0, .int .i64 p1, .int .i64 p2]), .int .i64 x, .int .i64 y, .func (.func gf) #[] lb, .int .i64 p.1, .int .i64 p.2, undef, undef, undef, undef, undef], []⟩) ?assign ?body ?done
  case assign =>
    intro q p W K hK
    gi_wp2
    exact hK
  case body =>
    rintro q pre p W ⟨hO3, hB3⟩ hlen
    have hll : (pre.map (·.2)).length ≤ 200000 := by have := HLN.out; simp; omega
    obtain ⟨v, g, cap, wA, hv, hvA, hrun, hO4, hk4, hq4⟩ := hO3.append p.2 hll (by have := hB3.size; omega) (by omega)
    have cv := hv.cell
    have cA := hvA.cell
    have fA := hvA.frozen
    have lA := hvA.lt
    have hle : (pre.map (·.2)).length + 1 = pre.length + 1 := by simp
    rw [hle] at hrun hO4 hk4 hq4
    clear hlen hll hle
    gi_wp2_with (gi_at_builtin; refine wpListIn_append_run rfl _ _ 22 rfl rfl rfl hrun ?_)
    exact ⟨hk4.from _, hq4, by simpa using hO4, hB3.trans hq4.1⟩
  case done =>
    rintro D W hD ⟨⟨v, hv, hrow, hnil⟩, hB3⟩ hK
    have cv := hv.cell
    have hs0 := HB1.out.size
    have hs2 := hbw2.size
    gi_wp2
    refine ⟨by simp, .inl ⟨_, _, rfl, run_takeDeferred hK, ?_⟩⟩
    refine ⟨.tuple #[v, .int .i64 0], ?_, v, rfl, ⟨ownsRow_putObj (ownsRow_low hrow hs0) _ hK rfl, ?_⟩, (HB1.out.trans (hB3.mono hs0)).trans ⟨rfl, rfl, rfl, by simp [World.putObj], fun k hk => World.putObj_heap_other (by omega)⟩⟩
    · simp [results, Tryz.results88, go_sem]
    · have := HLN.out; simp; omega
theorem Route3_any {w : World} {sa : Option Addr} {l : List Int} (h : Ints w sa l) (sc : Nat) (hosts x y : Int) (hv : vOk 3 l hosts) (hin : inB (swI 3 l) [x, y] = true) (hy : y < hoI 3 l) (L : List (Int × Int)) (hLn : L.length ≤ 100000)
    (hmk : ∀ W, Below w.heap.size w W → RMake w.heap.size 197 (.agg #[.int .i64 (l.getD 0 0), .int .i64 (l.getD 1 0), .int .i64 (l.getD 0 0 * l.getD 1 0 + 1)]) x y L W) :
    Calls Tryz.prog 87 #[.agg #[.int .i64 3, .slice sa l.length sc, .int .i64 hosts], .int .i64 x, .int .i64 y] w fun e w' => ∃ v, e = .returned (.tuple #[v, .int .i64 0]) ∧ NewInts w.heap.size w' v (x :: L.map (·.1)) ∧ Below w.heap.size w w' := by
  have HRO := Lib.hid (fun W (hb : Below w.heap.size w W) => routed3_any (h.keep hb) sc hosts x y hv hin)
  rw [if_pos hy, show rteE 3 l hosts x y = 0 by unfold rteE; rw [if_pos hv, if_pos hin, if_pos hy]] at HRO
  have HMK := Lib.hid hmk
  have HB := Lib.hid ((Below.refl w.heap.size w).alloc (Nat.le_refl _) (.cells #[.int .i64 3, .slice sa l.length sc, .int .i64 hosts] 24))
  have c0 := cellR 0 (heap_alloc_new w (.cells #[.int .i64 3, .slice sa l.length sc, .int .i64 hosts] 24)) rfl
  have c1 := cellR 1 (heap_alloc_new w (.cells #[.int .i64 3, .slice sa l.length sc, .int .i64 hosts] 24)) rfl
  have c2 := cellR 2 (heap_alloc_new w (.cells #[.int .i64 3, .slice sa l.length sc, .int .i64 hosts] 24)) rfl
  have hm := m_route3 (l.getD 0 0) (l.getD 1 0) (l.getD 0 0 * l.getD 1 0 + 1)
  clear h hv hin hy hmk
  generalize l.getD 0 0 * l.getD 1 0 + 1 = p2 at *
  generalize l.getD 0 0 = p0 at *
  generalize l.getD 1 0 = p1 at *
  have HLN := Lib.hid hLn
  clear hLn
  refine (callsIn_wide (n := 4)).1 ?_
  refine callsIn_of_wp_marks Tryz.func87 rfl trivial ?_ rfl
  simp only [Tryz.ntmps87, List.size_toArray, List.length_cons, List.length_nil, Nat.reduceAdd, Nat.reduceSub, Array.replicate_succ, Array.replicate_zero, List.push_toArray, List.append_toArray, List.nil_append, List.cons_append]
  gi_wp2
  generalize w.alloc (.cells #[.int .i64 3, .slice sa l.length sc, .int .i64 hosts] 24) = X at *
  refine ⟨trivial, callsIn_wide.2 ((HRO.out _ HB.out).mono ?_)⟩
  rintro e w1 ⟨rfl, hb1⟩
  have HB1 := Lib.hid (HB.out.trans (hb1.mono HB.out.size))
  clear HRO c0 c1 c2 HB hb1
  gi_wp2
  obtain ⟨hbw, r0, r1, hz⟩ := twoN w1 (.cells #[.int .i64 x] 3) (.cells #[.slice (some ⟨w1.heap.size, 0, none⟩) 1 1] 22)
  generalize (w1.alloc (.cells #[.int .i64 x] 3)).alloc (.cells #[.slice (some ⟨w1.heap.size, 0, none⟩) 1 1] 22) = W0 at *
  have hO : OutI w1.heap.size (w1.heap.size + 1) [x] W0 := ⟨_, r1, ⟨rfl, .inr ⟨w1.heap.size, 1, #[.int .i64 x], rfl, Nat.le_refl _, r0, Nat.le_refl _, by decide, rfl, rfl⟩⟩, by simp⟩
  refine ⟨trivial, callsIn_wide.2 ((HMK.out _ (HB1.out.trans (hbw.mono HB1.out.size))).mono ?_)⟩
  rintro e w2 ⟨gf, lb, rfl, hIt, hb2⟩
  have hO2 := hO.below hb2
  have hbw2 := hbw.trans (hb2.mono (by rw [hz]; omega))
  obtain ⟨heg, Nd, hNd, hSq⟩ := hIt
  have hnd : ∀ b, Nd b → Fq w1.heap.size (w1.heap.size + 1) b w2 := fun b hb => Fq_of (Nat.le_refl _) hO hbw hb2 (hNd b hb).1 (hNd b hb).2
  have HSQ := Lib.hid (fun n => hSq n w1.heap.size (w1.heap.size + 1) HB1.out.size)
  have hz2 := hb2.size
  clear HMK hm hNd hSq hO hbw r0 r1 hb2
  gi_wp2
  refine range_w (L := L) (by omega) rfl heg (HSQ.out _) hnd Kq.trans (fun W q ob o' hs hl hc => Kq.putObj (by omega) W q ob o' hs hl hc (by omega)) (fun _ => rfl) (fun pre W => OutI w1.heap.size (w1.heap.size + 1) (x :: pre.map (·.1)) W ∧ Below w1.heap.size w1 W) (OwnFrom.and (OutI.own fun pre : List (Int × Int) => x :: pre.map (·.1)) (ownFrom_below (Nat.le_refl _) (by omega))) (fun pre => OutI.priv (Nat.le_refl _)) ⟨hO2, hbw2⟩ (fun p => ⟨#[Value.agg #[.int .i64 3, .slice sa l.length sc, .int .i64 hosts], .int .i64 x, .int .i64 y, .pointer (some ⟨w.heap.size, 0, none⟩), undef, undef, .slice none 0 0, .int .i64 0, .iface 146 (.agg #[.int .i64 p0, .int .i64 p1, .int .i64 p2]), .int .i64 0, .pointer (some ⟨w1.heap.size + 1, 0, none⟩), .int .i64 p.1, .tuple #[.iface 146 (.agg #[.int .i64 p0, .int .i64 p1, .int .i64 p2]), .int .i64 0], .agg #[.int .i64 3, .slice sa l.length sc, .int .i64 hosts], .int .i64 x, .int .i64 y, .tuple #[.iface 146 (.agg #[.int .i64 p0, .int .i64 p1, .int .i64 p2]), .int .i64 0], .iface 146 (.agg #[.int .i64 p0, .int .i64 p1, .int .i64 p2]), .int .i64 0, .int .i64 0, .bool false, undef, .int .i64 x, .slice (some ⟨w1.heap.size, 0, none⟩) 1 1, .iface 146 (.agg #[.int .i64 p0, .int .i64 p1, .int .i64 p2]), .int .i64 x, .int .i64 y, .func (.func gf) #[] lb, .int .i64 p.1, .int .i64 p.2, undef, undef, undef, undef, undef], []⟩) ?assign ?body ?done
  case assign =>
    intro q p W K hK
    gi_wp2
    exact hK
  case body =>
    rintro q pre p W ⟨hO3, hB3⟩ hlen
    have hll : (x :: pre.map (·.1)).length ≤ 200000 := by have := HLN.out; simp; omega
    obtain ⟨v, g, cap, wA, hv, hvA, hrun, hO4, hk4, hq4⟩ := hO3.append p.1 hll (by have := hB3.size; omega) (by omega)
    have cv := hv.cell
    have cA := hvA.cell
    have fA := hvA.frozen
    have lA := hvA.lt
    have hle : (x :: pre.map (·.1)).length + 1 = pre.length + 1 + 1 := by simp
    rw [hle] at hrun hO4 hk4 hq4
    clear hlen hll hle
    gi_wp2_with (gi_at_builtin; refine wpListIn_append_run rfl _ _ 22 rfl rfl rfl hrun ?_)
    exact ⟨hk4.from _, hq4, by simpa using hO4, hB3.trans hq4.1⟩
  case done =>
    rintro D W hD ⟨⟨v, hv, hrow, hnil⟩, hB3⟩ hK
    have cv := hv.cell
    have hs0 := HB1.out.size
    have hs2 := hbw2.size
    gi_wp2
    refine ⟨by simp, .inl ⟨_, _, rfl, run_takeDeferred hK, ?_⟩⟩
    refine ⟨.tuple #[v, .int .i64 0], ?_, v, rfl, ⟨ownsRow_putObj (ownsRow_low hrow hs0) _ hK rfl, ?_⟩, (HB1.out.trans (hB3.mono hs0)).trans ⟨rfl, rfl, rfl, by simp [World.putObj], fun k hk => World.putObj_heap_other (by omega)⟩⟩
    · simp [results, Tryz.results87, go_sem]
    · have := HLN.out; simp; omega
theorem Classes3_any {w : World} {sa : Option Addr} {l : List Int} (h : Ints w sa l) (sc : Nat) (hosts x y : Int) (hv : vOk 3 l hosts) (hin : inB (swI 3 l) [x, y] = true) (hy : y < hoI 3 l) (L : List (Int × Int)) (hLn : L.length ≤ 100000)
    (hmk : ∀ W, Below w.heap.size w W → RMake w.heap.size 197 (.agg #[.int .i64 (l.getD 0 0), .int .i64 (l.getD 1 0), .int .i64 (l.getD 0 0 * l.getD 1 0 + 1)]) x y L W) :
    Calls Tryz.prog 88 #[.agg #[.int .i64 3, .slice sa l.length sc, .int .i64 hosts], .int .i64 x, .int .i64 y] w fun e w' => ∃ v, e = .returned (.tuple #[v, .int .i64 0]) ∧ NewInts w.heap.size w' v (L.map (·.2)) ∧ Below w.heap.size w w' := by
  have HRO := Lib.hid (fun W (hb : Below w.heap.size w W) => routed3_any (h.keep hb) sc hosts x y hv hin)
  rw [if_pos hy, show rteE 3 l hosts x y = 0 by unfold rteE; rw [if_pos hv, if_pos hin, if_pos hy]] at HRO
  have HMK := Lib.hid hmk
  have HB := Lib.hid ((Below.refl w.heap.size w).alloc (Nat.le_refl _) (.cells #[.int .i64 3, .slice sa l.length sc, .int .i64 hosts] 24))
  have c0 := cellR 0 (heap_alloc_new w (.cells #[.int .i64 3, .slice sa l.length sc, .int .i64 hosts] 24)) rfl
  have c1 := cellR 1 (heap_alloc_new w (.cells #[.int .i64 3, .slice sa l.length sc, .int .i64 hosts] 24)) rfl
  have c2 := cellR 2 (heap_alloc_new w (.cells #[.int .i64 3, .slice sa l.length sc, .int .i64 hosts] 24)) rfl
  have hm := m_route3 (l.getD 0 0) (l.getD 1 0) (l.getD 0 0 * l.getD 1 0 + 1)
  clear h hv hin hy hmk
  generalize l.getD 0 0 * l.getD 1 0 + 1 = p2 at *
  generalize l.getD 0 0 = p0 at *
  generalize l.getD 1 0 = p1 at *
  have HLN := Lib.hid hLn
  clear hLn
  refine (callsIn_wide (n := 4)).1 ?_
  refine callsIn_of_wp_marks Tryz.func88 rfl trivial ?_ rfl
  simp only [Tryz.ntmps88, List.size_toArray, List.length_cons, List.length_nil, Nat.reduceAdd, Nat.reduceSub, Array.replicate_succ, Array.replicate_zero, List.push_toArray, List.append_toArray, List.nil_append, List.cons_append]
  gi_wp2
  generalize w.alloc (.cells #[.int .i64 3, .slice sa l.length sc, .int .i64 hosts] 24) = X at *
  refine ⟨trivial, callsIn_wide.2 ((HRO.out _ HB.out).mono ?_)⟩
  rintro e w1 ⟨rfl, hb1⟩
  have HB1 := Lib.hid (HB.out.trans (hb1.mono HB.out.size))
  clear HRO c0 c1 c2 HB hb1
  gi_wp2
  have hbw : Below w1.heap.size w1 (w1.alloc (.cells #[.slice none 0 0] 22)) := (Below.refl _ _).alloc (Nat.le_refl _) _
  have r1 := heap_alloc_new w1 (.cells #[.slice none 0 0] 22)
  have hz : (w1.alloc (.cells #[.slice none 0 0] 22)).heap.size = w1.heap.size + 1 := by simp
  have hO : OutI w1.heap.size w1.heap.size [] (w1.alloc (.cells #[.slice none 0 0] 22)) := ⟨_, r1, ⟨rfl, .inl ⟨rfl, rfl⟩⟩, by simp⟩
  generalize w1.alloc (.cells #[.slice none 0 0] 22) = W0 at *
  refine ⟨trivial, callsIn_wide.2 ((HMK.out _ (HB1.out.trans (hbw.mono HB1.out.size))).mono ?_)⟩
  rintro e w2 ⟨gf, lb, rfl, hIt, hb2⟩
  have hO2 := hO.below hb2
  have hbw2 := hbw.trans (hb2.mono (by rw [hz]; omega))
  obtain ⟨heg, Nd, hNd, hSq⟩ := hIt
  have hnd : ∀ b, Nd b → Fq w1.heap.size w1.heap.size b w2 := fun b hb => Fq_of (Nat.le_refl _) hO hbw hb2 (hNd b hb).1 (hNd b hb).2
  have HSQ := Lib.hid (fun n => hSq n w1.heap.size w1.heap.size HB1.out.size)
  have hz2 := hb2.size
  clear HMK hm hNd hSq hO hbw r1 hb2
  gi_wp2
  refine range_w (L := L) (by omega) rfl heg (HSQ.out _) hnd Kq.trans (fun W q ob o' hs hl hc => Kq.putObj (by omega) W q ob o' hs hl hc (by omega)) (fun _ => rfl) (fun pre W => OutI w1.heap.size w1.heap.size (pre.map (·.2)) W ∧ Below w1.heap.size w1 W) (OwnFrom.and (OutI.own fun pre : List (Int × Int) => pre.map (·.2)) (ownFrom_below (Nat.le_refl _) (by omega))) (fun pre => OutI.priv (Nat.le_refl _)) ⟨hO2, hbw2⟩ (fun p => ⟨#[Value.agg #[.int .i64 3, .slice sa l.length sc, .int .i64 hosts], .int .i64 x, .int .i64 y, .pointer (some ⟨w.heap.size, 0, none⟩), undef, undef, .slice none 0 0, .int .i64 0, .iface 146 (.agg #[.int .i64 p0, .int .i64 p1, .int .i64 p2]), .int .i64 0, .pointer (some ⟨w1.heap.size, 0, none⟩), undef, .int .i64 p.2, .tuple #[.iface 146 (.agg #[.int .i64 p0, .int .i64 p1, .int .i64 p2]), .int .i64 0], .agg #[.int .i64 3, .slice sa l.length sc, .int .i64 hosts], .int .i64 x, .int .i64 y, .tuple #[.iface 146 (.agg #[.int .i64 p0, .int .i64 p1, .int .i64 p2]), .int .i64 0], .iface 146 (.agg #[.int .i64 p0, .int .i64 p1, .int .i64 p2]), .int .i64 0, .int .i64 0, .bool false, undef, .iface 146 (.agg #[.int .i64 p0, .int .i64 p1, .int .i64 p2]), .int .i64 x, .int .i64 y, .func (.func gf) #[] lb, .int .i64 p.1, .int .i64 p.2, undef, undef, undef, undef, undef], []⟩) ?assign ?body ?done
  case assign =>
    intro q p W K hK
    gi_wp2
    exact hK
  case body =>
    rintro q pre p W ⟨hO3, hB3⟩ hlen
    have hll : (pre.map (·.2)).length ≤ 200000 := by have := HLN.out; simp; omega
    obtain ⟨v, g, cap, wA, hv, hvA, hrun, hO4, hk4, hq4⟩ := hO3.append p.2 hll (by have := hB3.size; omega) (by omega)
    have cv := hv.cell
    have cA := hvA.cell
    have fA := hvA.frozen
    have lA := hvA.lt
    have hle : (pre.map (·.2)).length + 1 = pre.length + 1 := by simp
    rw [hle] at hrun hO4 hk4 hq4
    clear hlen hll hle
    gi_wp2_with (gi_at_builtin; refine wpListIn_append_run rfl _ _ 22 rfl rfl rfl hrun ?_)
    exact ⟨hk4.from _, hq4, by simpa using hO4, hB3.trans hq4.1⟩
  case done =>
    rintro D W hD ⟨⟨v, hv, hrow, hnil⟩, hB3⟩ hK
    have cv := hv.cell
    have hs0 := HB1.out.size
    have hs2 := hbw2.size
    gi_wp2
    refine ⟨by simp, .inl ⟨_, _, rfl, run_takeDeferred hK, ?_⟩⟩
    refine ⟨.tuple #[v, .int .i64 0], ?_, v, rfl, ⟨ownsRow_putObj (ownsRow_low hrow hs0) _ hK rfl, ?_⟩, (HB1.out.trans (hB3.mono hs0)).trans ⟨rfl, rfl, rfl, by simp [World.putObj], fun k hk => World.putObj_heap_other (by omega)⟩⟩
    · simp [results, Tryz.results88, go_sem]
    · have := HLN.out; simp; omega
/-- the steps of a route in a network -/
def dragSteps (l : List Int) (x y : Int) : List (Int × Int) := dragL (l.getD 0 0) (l.getD 1 0) x y
theorem dragL_len (a h x y : Int) : (dragL a h x y).length ≤ 3 := by
  unfold dragL
  repeat' split
  all_goals simp
end Go.Proofs.YtbhkenphcahifaaGreat
