import Derived.Test.YtbhkenphcahifaaPH
namespace Go.Proofs.Ytbhkenphcahifaa
open Go.RowKit Go.Shelf
attribute [local go_sem] Oper.semAt_some
set_option maxRecDepth 100000
set_option maxHeartbeats 4000000

theorem stepsL_len {kind : Int} {l : List Int} {hosts x y : Int} (hE : rteE kind l hosts x y = 0) : (stepsL kind l x y).length ≤ 100000 := by
  obtain ⟨hv, hin, hy⟩ := rte_ok hE
  rcases v_kind hv with rfl | rfl | rfl
  · rw [show stepsL 1 l x y = torusL l x y from rfl]
    have ht : tOk l hosts := by
      rcases hv with ⟨_, h1⟩ | ⟨h0, _⟩ | ⟨h0, _⟩
      · exact h1
      · cases h0
      · cases h0
    have := dimK_len (l := l) (coordsL l y) (fun i hi => by
      have := ht.2.2.1 (l.getD i 0) (by simp [List.getD, hi])
      exact this) l.length (Nat.le_refl _) (coordsL l x)
    have := ht.1.2
    unfold torusL
    omega
  · exact treeSteps_len hv hin
  · exact Nat.le_trans (dragL_len _ _ _ _) (by decide)
theorem rte_zero {kind : Int} {l : List Int} {hosts : Int} (hv : vOk kind l hosts) {x y : Nat} (hx : (x : Int) < swI kind l) (hy : (y : Int) < hoI kind l) : rteE kind l hosts x y = 0 := by
  obtain ⟨b1, b2, b3, b4, b5, b6⟩ := v_bound hv
  unfold rteE
  rw [if_pos hv, if_pos ?_, if_pos hy]
  simp [inB]; omega
/-- a list that is new -/
structure Fresh (B : Nat) (a : Option Addr) : Prop where
  ge : ∀ b, a.map (·.block) = some b → B ≤ b
theorem NewInts.fresh {B : Nat} {w : World} {v : Value} {l : List Int} (h : NewInts B w v l) : ∃ a cap, v = .slice a l.length cap ∧ Ints w a l ∧ Fresh B a := by
  obtain ⟨a, cap, rfl, hi⟩ := h.ints
  refine ⟨a, cap, rfl, hi, ⟨fun b hb => ?_⟩⟩
  cases a with
  | none => cases hb
  | some ad =>
    have := h.own.lt ad.block rfl
    have e : ad.block = b := by simpa using hb
    omega
theorem Route_new {w : World} {sa : Option Addr} {l : List Int} (h : Ints w sa l) (sc : Nat) (kind hosts x y : Int) (hE : rteE kind l hosts x y = 0) :
    Calls Try.prog 21 #[.agg #[.int .i64 kind, .slice sa l.length sc, .int .i64 hosts], .int .i64 x, .int .i64 y] w fun e w' => (∃ a c, e = .returned (.tuple #[.slice a ((stepsL kind l x y).length + 1) c, .int .i64 0]) ∧ Ints w' a (x :: (stepsL kind l x y).map (·.1)) ∧ Fresh w.heap.size a) ∧ Below w.heap.size w w' := by
  obtain ⟨hv, hin, hy⟩ := rte_ok hE
  have key : Calls Try.prog 21 #[.agg #[.int .i64 kind, .slice sa l.length sc, .int .i64 hosts], .int .i64 x, .int .i64 y] w fun e w' => ∃ v, e = .returned (.tuple #[v, .int .i64 0]) ∧ NewInts w.heap.size w' v (x :: (stepsL kind l x y).map (·.1)) ∧ Below w.heap.size w w' := by
    rcases v_kind hv with rfl | rfl | rfl
    · exact Route_torus h sc hosts x y hv hin hy
    · exact Route_tree h sc hosts x y hv hin hy
    · exact Route_drag h sc hosts x y hv hin hy
  refine key.mono ?_
  rintro e w' ⟨v, rfl, hn, hb⟩
  obtain ⟨a, c, rfl, hi, hf⟩ := hn.fresh
  exact ⟨⟨a, c, by simp, hi, hf⟩, hb⟩
theorem Classes_new {w : World} {sa : Option Addr} {l : List Int} (h : Ints w sa l) (sc : Nat) (kind hosts x y : Int) (hE : rteE kind l hosts x y = 0) :
    Calls Try.prog 23 #[.agg #[.int .i64 kind, .slice sa l.length sc, .int .i64 hosts], .int .i64 x, .int .i64 y] w fun e w' => (∃ a c, e = .returned (.tuple #[.slice a (stepsL kind l x y).length c, .int .i64 0]) ∧ Ints w' a ((stepsL kind l x y).map (·.2)) ∧ Fresh w.heap.size a) ∧ Below w.heap.size w w' := by
  obtain ⟨hv, hin, hy⟩ := rte_ok hE
  have key : Calls Try.prog 23 #[.agg #[.int .i64 kind, .slice sa l.length sc, .int .i64 hosts], .int .i64 x, .int .i64 y] w fun e w' => ∃ v, e = .returned (.tuple #[v, .int .i64 0]) ∧ NewInts w.heap.size w' v ((stepsL kind l x y).map (·.2)) ∧ Below w.heap.size w w' := by
    rcases v_kind hv with rfl | rfl | rfl
    · exact Classes_torus h sc hosts x y hv hin hy
    · exact Classes_tree h sc hosts x y hv hin hy
    · exact Classes_drag h sc hosts x y hv hin hy
  refine key.mono ?_
  rintro e w' ⟨v, rfl, hn, hb⟩
  obtain ⟨a, c, rfl, hi, hf⟩ := hn.fresh
  exact ⟨⟨a, c, by simp, hi, hf⟩, hb⟩

/-- the state of the law between two routes -/
def CycS (rk : N3 → Nat) (B : Nat) (X : World) (q : Nat) (wr : World) : Prop := ∃ (F : Nat → Prop) (ns : List N3) (ts : List (List Int)) (nv tv : Value) (us : List Value), Wt F B B ns ts nv tv us wr ∧ Good rk q ns ts ∧ Below B X wr
theorem cyc_start (rk : N3 → Nat) (X : World) : CycS rk X.heap.size X 0 (X.alloc (.cells #[.slice none 0 0, .slice none 0 0] 55)) := by
  have hz : (X.alloc (.cells #[.slice none 0 0, .slice none 0 0] 55)).heap.size = X.heap.size + 1 := by simp
  refine ⟨fun b => b = X.heap.size, [], [], .slice none 0 0, .slice none 0 0, [], ⟨heap_alloc_new X _, World.ownsRow_nil _ _ _ _, World.ownsRow_nil _ _ _ _, fun i hi => absurd hi (Nat.not_lt_zero _), fun i j hi => absurd hi (Nat.not_lt_zero _), rfl, fun b h => (by cases h), fun b h => (by cases h), fun i hi => absurd hi (Nat.not_lt_zero _), ?_⟩, ⟨rfl, Nat.le_refl _, fun i => by simp [List.getD], fun i k hi => absurd hi (Nat.not_lt_zero _)⟩, (Below.refl _ _).alloc (Nat.le_refl _) _⟩
  rintro b rfl
  omega

theorem NetCycles_done {w : World} {sa : Option Addr} {l : List Int} (h : Ints w sa l) (sc : Nat) (kind hosts : Int) :
    Calls Try.prog 7 #[.agg #[.int .i64 kind, .slice sa l.length sc, .int .i64 hosts]] w fun e w' => e = .returned (.bool true) ∧ Below w.heap.size w w' := by
  have HB := Lib.hid ((Below.refl w.heap.size w).alloc (Nat.le_refl _) (.cells #[.int .i64 kind, .slice sa l.length sc, .int .i64 hosts] 24))
  have Q0 := Lib.hid (heap_alloc_new w (.cells #[.int .i64 kind, .slice sa l.length sc, .int .i64 hosts] 24))
  have c0 := cellR 0 Q0.out rfl
  have c1 := cellR 1 Q0.out rfl
  have c2 := cellR 2 Q0.out rfl
  have HS := Lib.hid (size_any (h.keep HB.out) sc kind hosts 24)
  have HWK := Lib.hid works_any
  have HI : Hid (∀ W, Below w.heap.size w W → Ints W sa l) := fun W hb => h.keep hb
  by_cases hv : vOk kind l hosts ∧ swI kind l ≤ 24
  · have e1 : szM kind l hosts 24 = swI kind l := if_pos hv
    have e2 : hoM kind l hosts 24 = hoI kind l := if_pos hv
    obtain ⟨b1, b2, b3, b4, b5, b6⟩ := v_bound hv.1
    obtain ⟨rk, hrk⟩ := route_asc hv.1
    rw [e1, e2] at HS
    obtain ⟨n, hn⟩ := Int.eq_ofNat_of_zero_le (show 0 ≤ swI kind l by omega)
    obtain ⟨m, hm⟩ := Int.eq_ofNat_of_zero_le (show 0 ≤ hoI kind l by omega)
    have HR : Hid (∀ x y : Nat, x < n → y < m → rteE kind l hosts x y = 0) := fun x y hx hy => rte_zero hv.1 (by omega) (by omega)
    have HRK := Lib.hid hrk
    rw [hn, hm] at HS
    have hn24 : n ≤ 24 := by omega
    have hm24 : m ≤ 24 := by omega
    have hn1 : 1 ≤ n := by omega
    clear h hv e1 e2 b1 b2 b3 b4 b5 b6 hn hm hrk
    go_enter Try.func7, Try.ntmps7
    go_wp2_with fail
    obtain ⟨L, hL⟩ : ∃ L, L = l.length := ⟨_, rfl⟩
    have HLL := Lib.hid hL
    generalize w.alloc (.cells #[.int .i64 kind, .slice sa l.length sc, .int .i64 hosts] 24) = X at *
    refine HS.out.mono ?_
    rintro e w1 ⟨rfl, hb⟩
    have HB1 := Lib.hid (HB.out.trans (hb.mono HB.out.size))
    have Q1 := Lib.hid (heapB hb Q0.out)
    clear HS hb c0 c1 c2 Q0 hL HB
    have hnz : ((n : Int) == 0) = false := by simp; omega
    have H0 : Hid (CycS rk w1.heap.size w1 0 (w1.alloc (.cells #[.slice none 0 0, .slice none 0 0] 55))) := cyc_start rk w1
    go_wp2_with fail
    have HXB : Hid (Below w.heap.size w w1 ∧ w.heap.size ≤ w1.heap.size) := ⟨HB1.out, HB1.out.size⟩
    have HQ : Hid (∀ W, Below w1.heap.size w1 W → W.heap[w.heap.size]? = some (.cells #[.int .i64 kind, .slice sa l.length sc, .int .i64 hosts] 24 (0, 0))) := fun W hb => heapB hb Q1.out
    have HI2 : Hid (∀ W, Below w1.heap.size w1 W → Ints W sa l) := fun W hb => HI.out W (HB1.out.trans (hb.mono HB1.out.size))
    clear HB1 Q1 HI
    obtain ⟨B, hB⟩ : ∃ B, B = w1.heap.size := ⟨_, rfl⟩
    have HBS := Lib.hid hB
    rw [← hB] at HQ HI2 H0 HXB ⊢
    clear hB
    generalize w1.alloc (.cells #[.slice none 0 0, .slice none 0 0] 55) = Y at *
    go_loopw [6] (fun xv wr => ∃ (x : Nat), x ≤ n ∧ xv = .int .i64 (x : Int) ∧ Hid (CycS rk B w1 (x * 24 * 200000) wr)) (fun xv _ => n - (intOf xv).toNat)
    case atStart => exact ⟨0, Nat.zero_le _, rfl, H0⟩
    case round =>
      clear H0
      obtain ⟨x, hx, rfl, HC⟩ := hrel
      by_cases hlt : x < n
      · obtain ⟨wo, rfl⟩ : ∃ wo, wo = wr := ⟨_, rfl⟩
        go_wp2_with fail
        go_loopw [7] (fun yv wr => ∃ (y : Nat), y ≤ m ∧ yv = .int .i64 (y : Int) ∧ Hid (CycS rk B w1 (x * 24 * 200000 + y * 200000) wr)) (fun yv _ => m - (intOf yv).toNat)
        case atStart => exact ⟨0, Nat.zero_le _, rfl, by rw [show x * 24 * 200000 + 0 * 200000 = x * 24 * 200000 by omega]; exact HC⟩
        case round =>
          clear HC
          obtain ⟨y, hy, rfl, HC⟩ := hrel
          by_cases hly : y < m
          · obtain ⟨F, ns, ts, nv, tv, us, hW, hG, hBX⟩ := HC.out
            have hE := HR.out x y hlt hly
            have hq := HQ.out wr hBX
            have c0 := cellR 0 hq rfl
            have c1 := cellR 1 hq rfl
            have c2 := cellR 2 hq rfl
            have HRT := Lib.hid (Route_new (HI2.out wr hBX) sc kind hosts x y hE)
            have HCT : Hid (∀ W, Below wr.heap.size wr W → Calls Try.prog 23 #[.agg #[.int .i64 kind, .slice sa l.length sc, .int .i64 hosts], .int .i64 x, .int .i64 y] W fun e w' => (∃ a c, e = .returned (.tuple #[.slice a (stepsL kind l x y).length c, .int .i64 0]) ∧ Ints w' a ((stepsL kind l x y).map (·.2)) ∧ Fresh W.heap.size a) ∧ Below W.heap.size W w') := fun W hb => Classes_new ((HI2.out wr hBX).keep hb) sc kind hosts x y hE
            have hsl := stepsL_len hE
            have hasc := HRK.out x y hE
            have HST : Hid (Wt F B B ns ts nv tv us wr ∧ Good rk (x * 24 * 200000 + y * 200000) ns ts ∧ Below B w1 wr ∧ Rises rk ((x : Int) :: (stepsL kind l x y).map (·.1)) ((stepsL kind l x y).map (·.2))) := ⟨hW, hG, hBX, asc_rises _ _ _ hasc⟩
            clear hW hG hBX hE hasc HC hq
            generalize stepsL kind l (x : Int) (y : Int) = S at *
            go_wp2_with fail
            refine HRT.out.mono ?_
            rintro e w2 ⟨⟨pa, pc, rfl, hip, hfp⟩, hb2⟩
            replace c0 := kcell hb2 c0
            replace c1 := kcell hb2 c1
            replace c2 := kcell hb2 c2
            have HP2 := Lib.hid (And.intro hip (And.intro hfp hb2))
            have HCT2 := Lib.hid (HCT.out w2 hb2)
            clear hip hfp hb2 HRT HCT
            go_wp2_with fail
            refine HCT2.out.mono ?_
            rintro e w3 ⟨⟨ca, cc, rfl, hic, hfc⟩, hb3⟩
            obtain ⟨hip, hfp, hb2⟩ := HP2.out
            obtain ⟨hW, hG, hBX, hRi⟩ := HST.out
            have hb23 := hb2.trans (hb3.mono hb2.size)
            have hW3 := hW.keep hb23
            have hlw := hW.lt
            have hBw : B ≤ wr.heap.size := by have := hlw B hW.fB; omega
            have hz2 := hb2.size
            have hz3 := hb3.size
            have hadd := add_any hW3 (show B ≤ w3.heap.size by omega) hG (hip.keep hb3) hic (fun b hb hF => by have := hfp.ge b hb; have := (hlw b hF).2; omega) (fun b hb hF => by have := hfc.ge b hb; have := (hlw b hF).2; omega) pc cc (by simp; omega) (by simp) hRi
            have HA : Hid (Calls Try.prog 32 #[.pointer (some ⟨B, 0, none⟩), .slice pa (S.length + 1) pc, .slice ca S.length cc] w3 fun e w' => (∃ v, e = .returned v) ∧ CycS rk B w1 (x * 24 * 200000 + (y + 1) * 200000) w') := by
              rw [show ((x : Int) :: S.map (·.1)).length = S.length + 1 by simp, show (S.map (·.2)).length = S.length by simp] at hadd
              refine hadd.mono ?_
              rintro e w4 ⟨hv, last, F', ns', ts', nv', tv', us', g1, g2, g3, _⟩
              refine ⟨hv, F', ns', ts', nv', tv', us', g1, g3.mono (by omega), ?_⟩
              have e1 := g2.below (lo := B) (fun b hb => (hlw b hb).1) (by omega)
              exact (hBX.trans (hb23.mono hBw)).trans e1
            clear hip hfp hb2 hW hG hBX hRi hb23 hW3 hlw hBw hz2 hz3 hadd hic hfc hb3 HST HP2 HCT2 c0 c1 c2
            go_wp2_with fail
            refine HA.out.mono ?_
            rintro e w4 ⟨⟨v, rfl⟩, hcs⟩
            have HN := Lib.hid hcs
            clear hcs HA
            go_wp2_with fail
            go_roundw
            case rel => exact ⟨y + 1, by omega, by go_num, HN⟩
            case measure => simp [intOf]; omega
          · have HN : Hid (CycS rk B w1 ((x + 1) * 24 * 200000) wr) := by
              obtain ⟨F, ns, ts, nv, tv, us, hW, hG, hBX⟩ := HC.out
              exact ⟨F, ns, ts, nv, tv, us, hW, hG.mono (by omega), hBX⟩
            clear HC
            go_wp2_with fail
            go_roundw
            case rel => exact ⟨x + 1, by omega, by go_num, HN⟩
            case measure => simp [intOf]; omega
      · obtain ⟨F, ns, ts, nv, tv, us, hW, hG, hBX⟩ := HC.out
        have HCY := Lib.hid (cycle_any hW hG (by omega))
        have HBW : Hid (Below w.heap.size w wr) := HXB.out.1.trans (hBX.mono HXB.out.2)
        clear hW hG hBX HC
        go_wp2_with fail
        refine HCY.out.mono ?_
        rintro e w5 ⟨rfl, hb5⟩
        have HB5 := Lib.hid (HBW.out.trans (hb5.mono HBW.out.size))
        clear HCY hb5 HBW
        go_wp2_with fail
        refine (HWK.out _).mono ?_
        rintro e w6 ⟨rfl, hb6⟩
        have HB6 := Lib.hid (HB5.out.trans (hb6.mono HB5.out.size))
        clear hb6 HB5
        go_wp2_with fail
        go_ret
        exact ⟨rfl, HB6.out⟩
  · have e1 : szM kind l hosts 24 = 0 := if_neg hv
    rw [e1] at HS
    generalize hoM kind l hosts 24 = m at *
    clear h hv e1 HI
    go_enter Try.func7, Try.ntmps7
    go_wp2_with fail
    generalize w.alloc (.cells #[.int .i64 kind, .slice sa l.length sc, .int .i64 hosts] 24) = X at *
    refine HS.out.mono ?_
    rintro e w1 ⟨rfl, hb⟩
    have HB1 := Lib.hid (HB.out.trans (hb.mono HB.out.size))
    clear HS hb c0 c1 c2 Q0 HB
    go_wp2_with fail
    refine (HWK.out _).mono ?_
    rintro e w6 ⟨rfl, hb6⟩
    have HB6 := Lib.hid (HB1.out.trans (hb6.mono HB1.out.size))
    clear hb6 HB1
    go_wp2_with fail
    go_ret
    exact ⟨rfl, HB6.out⟩
end Go.Proofs.Ytbhkenphcahifaa
