import Derived.Test.YtbhkenphcahifaaQG
namespace Go.Proofs.Ytbhkenphcahifaa
open Go.RowKit Go.Shelf
attribute [local go_sem] Oper.semAt_some
set_option maxRecDepth 100000
set_option maxHeartbeats 4000000

theorem downL_zero (k : Nat) (ww y : Int) : ∀ (l : Nat) (wd : Int), (downL k ww y l wd).map (·.2) = List.replicate l 0
  | 0, _ => rfl
  | l + 1, wd => by rw [downL, List.map_cons, downL_zero k ww y l, List.replicate_succ]
theorem upL_zero (k : Nat) (ww y : Int) : ∀ (f l : Nat) (wd : Int), (upL k ww y f l wd).map (·.2) = List.replicate (upL k ww y f l wd).length 0
  | 0, l, wd => by rw [upL, downL_zero, downL_len]
  | f + 1, l, wd => by
    rw [upL]
    split
    · rw [List.map_cons, upL_zero k ww y f, List.length_cons, List.replicate_succ]
    · rw [downL_zero, downL_len]

/-- the reference's torus, tree and dragonfly at a valid network -/
theorem rTorus_v {w : World} {sa : Option Addr} {l : List Int} (h : Ints w sa l) (sc : Nat) (hosts x y : Int) (hE : rteE 1 l hosts x y = 0) :
    Calls Try.prog 53 #[.agg #[.int .i64 1, .slice sa l.length sc, .int .i64 hosts], .int .i64 x, .int .i64 y] w fun e w' => (∃ pa pk ca ck, e = .returned (.tuple #[.slice pa ((stepsL 1 l x y).length + 1) pk, .slice ca (stepsL 1 l x y).length ck]) ∧ Ints w' pa (x :: (stepsL 1 l x y).map (·.1)) ∧ Ints w' ca ((stepsL 1 l x y).map (·.2))) ∧ Below w.heap.size w w' := by
  obtain ⟨hv, hin, _⟩ := rte_ok hE
  obtain ⟨⟨hx0, hx1⟩, hy0, hy1⟩ := inB_two hin
  obtain ⟨b1, b2, b3, b4, b5, b6⟩ := v_bound hv
  have ht : tOk l hosts := by
    rcases hv with ⟨_, h1⟩ | ⟨h0, _⟩ | ⟨h0, _⟩
    · exact h1
    · cases h0
    · cases h0
  refine (rTorus_any h (by have := ht.1.1; omega) (by have := ht.1.2; omega) (fun i hi => ht.2.2.1 _ (by simp [List.getD, hi])) sc 1 hosts x y hx0 (by omega) hy0 (by omega)).mono ?_
  rintro e w' ⟨pv, cv, rfl, hp, hc, hb⟩
  obtain ⟨pa, pk, rfl, hi⟩ := hp.ints
  obtain ⟨ca, ck, rfl, hj⟩ := hc.ints
  exact ⟨⟨pa, pk, ca, ck, by simp [stepsL], hi, hj⟩, hb⟩
theorem rTree_v {w : World} {sa : Option Addr} {l : List Int} (h : Ints w sa l) (sc : Nat) (hosts x y : Int) (hE : rteE 2 l hosts x y = 0) :
    Calls Try.prog 54 #[.agg #[.int .i64 2, .slice sa l.length sc, .int .i64 hosts], .int .i64 x, .int .i64 y] w fun e w' => (∃ pa pk, e = .returned (.slice pa ((stepsL 2 l x y).length + 1) pk) ∧ Ints w' pa (x :: (stepsL 2 l x y).map (·.1))) ∧ Below w.heap.size w w' := by
  obtain ⟨hv, hin, hy⟩ := rte_ok hE
  obtain ⟨⟨hx0, hx1⟩, hy0, _⟩ := inB_two hin
  have hr : rOk l hosts := by
    rcases hv with ⟨h0, _⟩ | ⟨_, h1⟩ | ⟨h0, _⟩
    · cases h0
    · exact h1
    · cases h0
  have hwb := words_bound hr
  obtain ⟨h0, h1, h2, _, _⟩ := hr
  have hs : swI 2 l = l.getD 1 0 * wordsI l := rfl
  have ho : hoI 2 l = wordsI l := rfl
  rw [hs] at hx1
  rw [ho] at hy
  obtain ⟨a, b, rfl⟩ := two_of h0
  obtain ⟨g, o, rfl, ht⟩ := h.two
  have hst : stepsL 2 [a, b] x y = treeL a.toNat b.toNat x y := rfl
  rw [hst]
  have hw : wordsI [a, b] = ((a.toNat ^ (b.toNat - 1) : Nat) : Int) := rfl
  simp only [List.getD_cons_zero, List.getD_cons_succ] at h1 h2 hx1
  rw [hw] at hx1 hy hwb
  clear hv hin hs ho hw hE h0 hst
  obtain ⟨k, rfl⟩ := Int.eq_ofNat_of_zero_le (show 0 ≤ a by omega)
  obtain ⟨lv, rfl⟩ := Int.eq_ofNat_of_zero_le (show 0 ≤ b by omega)
  simp only [Int.toNat_natCast] at hx1 hy hwb ⊢
  refine (rTree_any k lv (by omega) (by omega) (by omega) (by omega) (by omega) ht sc 2 hosts x y hx0 (by omega) hy0 hy).mono ?_
  rintro e w' ⟨pv, rfl, hp, hb⟩
  obtain ⟨pa, pk, rfl, hi⟩ := hp.ints
  exact ⟨⟨pa, pk, by simp, hi⟩, hb⟩
theorem rDrag_v {w : World} {sa : Option Addr} {l : List Int} (h : Ints w sa l) (sc : Nat) (hosts x y : Int) (hE : rteE 3 l hosts x y = 0) :
    Calls Try.prog 55 #[.agg #[.int .i64 3, .slice sa l.length sc, .int .i64 hosts], .int .i64 x, .int .i64 y] w fun e w' => (∃ pa pk ca ck, e = .returned (.tuple #[.slice pa ((stepsL 3 l x y).length + 1) pk, .slice ca (stepsL 3 l x y).length ck]) ∧ Ints w' pa (x :: (stepsL 3 l x y).map (·.1)) ∧ Ints w' ca ((stepsL 3 l x y).map (·.2))) ∧ Below w.heap.size w w' := by
  obtain ⟨hv, hin, _⟩ := rte_ok hE
  obtain ⟨⟨hx0, hx1⟩, hy0, hy1⟩ := inB_two hin
  have hd : dOk l hosts := by
    rcases hv with ⟨h0, _⟩ | ⟨h0, _⟩ | ⟨_, h1⟩
    · cases h0
    · cases h0
    · exact h1
  obtain ⟨h0, h1, h2, h3, h4⟩ := hd
  have hs : swI 3 l = l.getD 0 0 * (l.getD 0 0 * l.getD 1 0 + 1) := rfl
  rw [hs] at hx1 hy1
  obtain ⟨a, b, rfl⟩ := two_of h0
  obtain ⟨g, o, rfl, ht⟩ := h.two
  have hst : stepsL 3 [a, b] x y = dragL a b x y := rfl
  rw [hst]
  simp only [List.getD_cons_zero, List.getD_cons_succ] at h2 h3 hx1 hy1
  refine (rDrag_any a b h2.1 h2.2 h3.1 h3.2 ht sc 3 hosts x y hx0 (by omega) hy0 (by omega)).mono ?_
  rintro e w' ⟨pa, pk, cv, rfl, hi, hc, hb⟩
  obtain ⟨ca, ck, rfl, hj⟩ := hc.ints
  exact ⟨⟨pa, pk, ca, ck, by simp, hi, hj⟩, hb⟩
theorem stepsL_len4 {l : List Int} {hosts x y : Int} (hE : rteE 2 l hosts x y = 0) : (stepsL 2 l x y).length ≤ 100000 := by
  obtain ⟨hv, hin, hy⟩ := rte_ok hE
  exact treeSteps_len hv hin
theorem rRoute_1 {w : World} {sa : Option Addr} {l : List Int} (h : Ints w sa l) (sc : Nat) (hosts x y : Int) (hE : rteE 1 l hosts x y = 0) :
    Calls Try.prog 22 #[.agg #[.int .i64 1, .slice sa l.length sc, .int .i64 hosts], .int .i64 x, .int .i64 y] w fun e w' => (∃ a c, e = .returned (.tuple #[.slice a ((stepsL 1 l x y).length + 1) c, .int .i64 0]) ∧ Ints w' a (x :: (stepsL 1 l x y).map (·.1))) ∧ Below w.heap.size w w' := by
  have HB := Lib.hid ((Below.refl w.heap.size w).alloc (Nat.le_refl _) (.cells #[.int .i64 1, .slice sa l.length sc, .int .i64 hosts] 30))
  have Q0 := Lib.hid (heap_alloc_new w (.cells #[.int .i64 1, .slice sa l.length sc, .int .i64 hosts] 30))
  have c0 := cellR 0 Q0.out rfl
  have c1 := cellR 1 Q0.out rfl
  have c2 := cellR 2 Q0.out rfl
  have H1 := Lib.hid (rGoal_any (h.keep HB.out) sc 1 hosts x y)
  rw [hE] at H1
  have H2 := Lib.hid (fun W (hb : Below w.heap.size w W) => rTorus_v (h.keep hb) sc hosts x y hE)
  clear h hE
  generalize l.length = N at *
  generalize stepsL 1 l x y = SL at *
  go_enter Try.func22, Try.ntmps22
  go_wp2_with fail
  generalize w.alloc (.cells #[.int .i64 1, .slice sa N sc, .int .i64 hosts] 30) = X at *
  refine H1.out.mono ?_
  rintro e w1 ⟨rfl, hb⟩
  replace c0 := kcell hb c0
  replace c1 := kcell hb c1
  replace c2 := kcell hb c2
  replace HB := Lib.hid (HB.out.trans (hb.mono HB.out.size))
  have H3 := Lib.hid (H2.out _ HB.out)
  clear H1 H2 hb Q0
  go_wp2_with fail
  refine H3.out.mono ?_
  rintro e w2 ⟨⟨pa, pk, ca, ck, rfl, hi, hj⟩, hb⟩
  have HI := Lib.hid hi
  replace HB := Lib.hid (HB.out.trans (hb.mono HB.out.size))
  clear H3 hb hi hj c0 c1 c2
  go_wp2_with fail
  exact bodyPost_ret (v := .tuple #[.slice pa (SL.length + 1) pk, .int .i64 0]) (by simp [results, Try.results22]) rfl ⟨⟨pa, pk, rfl, HI.out⟩, HB.out⟩
theorem rRoute_2 {w : World} {sa : Option Addr} {l : List Int} (h : Ints w sa l) (sc : Nat) (hosts x y : Int) (hE : rteE 2 l hosts x y = 0) :
    Calls Try.prog 22 #[.agg #[.int .i64 2, .slice sa l.length sc, .int .i64 hosts], .int .i64 x, .int .i64 y] w fun e w' => (∃ a c, e = .returned (.tuple #[.slice a ((stepsL 2 l x y).length + 1) c, .int .i64 0]) ∧ Ints w' a (x :: (stepsL 2 l x y).map (·.1))) ∧ Below w.heap.size w w' := by
  have HB := Lib.hid ((Below.refl w.heap.size w).alloc (Nat.le_refl _) (.cells #[.int .i64 2, .slice sa l.length sc, .int .i64 hosts] 30))
  have Q0 := Lib.hid (heap_alloc_new w (.cells #[.int .i64 2, .slice sa l.length sc, .int .i64 hosts] 30))
  have c0 := cellR 0 Q0.out rfl
  have c1 := cellR 1 Q0.out rfl
  have c2 := cellR 2 Q0.out rfl
  have H1 := Lib.hid (rGoal_any (h.keep HB.out) sc 2 hosts x y)
  rw [hE] at H1
  have H2 := Lib.hid (fun W (hb : Below w.heap.size w W) => rTree_v (h.keep hb) sc hosts x y hE)
  clear h hE
  generalize l.length = N at *
  generalize stepsL 2 l x y = SL at *
  go_enter Try.func22, Try.ntmps22
  go_wp2_with fail
  generalize w.alloc (.cells #[.int .i64 2, .slice sa N sc, .int .i64 hosts] 30) = X at *
  refine H1.out.mono ?_
  rintro e w1 ⟨rfl, hb⟩
  replace c0 := kcell hb c0
  replace c1 := kcell hb c1
  replace c2 := kcell hb c2
  replace HB := Lib.hid (HB.out.trans (hb.mono HB.out.size))
  have H3 := Lib.hid (H2.out _ HB.out)
  clear H1 H2 hb Q0
  go_wp2_with fail
  refine H3.out.mono ?_
  rintro e w2 ⟨⟨pa, pk, rfl, hi⟩, hb⟩
  have HI := Lib.hid hi
  replace HB := Lib.hid (HB.out.trans (hb.mono HB.out.size))
  clear H3 hb hi c0 c1 c2
  go_wp2_with fail
  exact bodyPost_ret (v := .tuple #[.slice pa (SL.length + 1) pk, .int .i64 0]) (by simp [results, Try.results22]) rfl ⟨⟨pa, pk, rfl, HI.out⟩, HB.out⟩
theorem rRoute_3 {w : World} {sa : Option Addr} {l : List Int} (h : Ints w sa l) (sc : Nat) (hosts x y : Int) (hE : rteE 3 l hosts x y = 0) :
    Calls Try.prog 22 #[.agg #[.int .i64 3, .slice sa l.length sc, .int .i64 hosts], .int .i64 x, .int .i64 y] w fun e w' => (∃ a c, e = .returned (.tuple #[.slice a ((stepsL 3 l x y).length + 1) c, .int .i64 0]) ∧ Ints w' a (x :: (stepsL 3 l x y).map (·.1))) ∧ Below w.heap.size w w' := by
  have HB := Lib.hid ((Below.refl w.heap.size w).alloc (Nat.le_refl _) (.cells #[.int .i64 3, .slice sa l.length sc, .int .i64 hosts] 30))
  have Q0 := Lib.hid (heap_alloc_new w (.cells #[.int .i64 3, .slice sa l.length sc, .int .i64 hosts] 30))
  have c0 := cellR 0 Q0.out rfl
  have c1 := cellR 1 Q0.out rfl
  have c2 := cellR 2 Q0.out rfl
  have H1 := Lib.hid (rGoal_any (h.keep HB.out) sc 3 hosts x y)
  rw [hE] at H1
  have H2 := Lib.hid (fun W (hb : Below w.heap.size w W) => rDrag_v (h.keep hb) sc hosts x y hE)
  clear h hE
  generalize l.length = N at *
  generalize stepsL 3 l x y = SL at *
  go_enter Try.func22, Try.ntmps22
  go_wp2_with fail
  generalize w.alloc (.cells #[.int .i64 3, .slice sa N sc, .int .i64 hosts] 30) = X at *
  refine H1.out.mono ?_
  rintro e w1 ⟨rfl, hb⟩
  replace c0 := kcell hb c0
  replace c1 := kcell hb c1
  replace c2 := kcell hb c2
  replace HB := Lib.hid (HB.out.trans (hb.mono HB.out.size))
  have H3 := Lib.hid (H2.out _ HB.out)
  clear H1 H2 hb Q0
  go_wp2_with fail
  refine H3.out.mono ?_
  rintro e w2 ⟨⟨pa, pk, ca, ck, rfl, hi, hj⟩, hb⟩
  have HI := Lib.hid hi
  replace HB := Lib.hid (HB.out.trans (hb.mono HB.out.size))
  clear H3 hb hi hj c0 c1 c2
  go_wp2_with fail
  exact bodyPost_ret (v := .tuple #[.slice pa (SL.length + 1) pk, .int .i64 0]) (by simp [results, Try.results22]) rfl ⟨⟨pa, pk, rfl, HI.out⟩, HB.out⟩
theorem rRoute_all {w : World} {sa : Option Addr} {l : List Int} (h : Ints w sa l) (sc : Nat) (kind hosts x y : Int) :
    Calls Try.prog 22 #[.agg #[.int .i64 kind, .slice sa l.length sc, .int .i64 hosts], .int .i64 x, .int .i64 y] w fun e w' => (∃ a c, e = .returned (.tuple #[.slice a (rteL kind l hosts x y).length c, .int .i64 (rteE kind l hosts x y)]) ∧ Ints w' a (rteL kind l hosts x y)) ∧ Below w.heap.size w w' := by
  by_cases hE : rteE kind l hosts x y = 0
  · have hl : rteL kind l hosts x y = x :: (stepsL kind l x y).map (·.1) := if_pos hE
    rw [hl, hE]
    obtain ⟨hv, hin, hy⟩ := rte_ok hE
    have key : Calls Try.prog 22 #[.agg #[.int .i64 kind, .slice sa l.length sc, .int .i64 hosts], .int .i64 x, .int .i64 y] w fun e w' => (∃ a c, e = .returned (.tuple #[.slice a ((stepsL kind l x y).length + 1) c, .int .i64 0]) ∧ Ints w' a (x :: (stepsL kind l x y).map (·.1))) ∧ Below w.heap.size w w' := by
      rcases v_kind hv with rfl | rfl | rfl
      · exact rRoute_1 h sc hosts x y hE
      · exact rRoute_2 h sc hosts x y hE
      · exact rRoute_3 h sc hosts x y hE
    refine key.mono ?_
    rintro e w' ⟨⟨a, c, rfl, hi⟩, hb⟩
    exact ⟨⟨a, c, by simp, hi⟩, hb⟩
  · have hl : rteL kind l hosts x y = [] := if_neg hE
    rw [hl]
    have HB := Lib.hid ((Below.refl w.heap.size w).alloc (Nat.le_refl _) (.cells #[.int .i64 kind, .slice sa l.length sc, .int .i64 hosts] 30))
    have Q0 := Lib.hid (heap_alloc_new w (.cells #[.int .i64 kind, .slice sa l.length sc, .int .i64 hosts] 30))
    have c0 := cellR 0 Q0.out rfl
    have c1 := cellR 1 Q0.out rfl
    have c2 := cellR 2 Q0.out rfl
    have H1 := Lib.hid (rGoal_any (h.keep HB.out) sc kind hosts x y)
    have hne : (rteE kind l hosts x y != 0) = true := bne_iff_ne.2 hE
    clear h hE hl
    generalize l.length = N at *
    generalize rteE kind l hosts x y = E at *
    go_enter Try.func22, Try.ntmps22
    go_wp2_with fail
    generalize w.alloc (.cells #[.int .i64 kind, .slice sa N sc, .int .i64 hosts] 30) = X at *
    refine H1.out.mono ?_
    rintro e w1 ⟨rfl, hb⟩
    replace HB := Lib.hid (HB.out.trans (hb.mono HB.out.size))
    clear H1 hb Q0 c0 c1 c2
    go_wp2_with fail
    exact bodyPost_ret (v := .tuple #[.slice none 0 0, .int .i64 E]) (by simp [results, Try.results22]) rfl ⟨⟨none, 0, rfl, ints_nil _⟩, HB.out⟩
theorem rClasses_1 {w : World} {sa : Option Addr} {l : List Int} (h : Ints w sa l) (sc : Nat) (hosts x y : Int) (hE : rteE 1 l hosts x y = 0) :
    Calls Try.prog 24 #[.agg #[.int .i64 1, .slice sa l.length sc, .int .i64 hosts], .int .i64 x, .int .i64 y] w fun e w' => (∃ a c, e = .returned (.tuple #[.slice a (stepsL 1 l x y).length c, .int .i64 0]) ∧ Ints w' a ((stepsL 1 l x y).map (·.2))) ∧ Below w.heap.size w w' := by
  have HB := Lib.hid ((Below.refl w.heap.size w).alloc (Nat.le_refl _) (.cells #[.int .i64 1, .slice sa l.length sc, .int .i64 hosts] 30))
  have Q0 := Lib.hid (heap_alloc_new w (.cells #[.int .i64 1, .slice sa l.length sc, .int .i64 hosts] 30))
  have c0 := cellR 0 Q0.out rfl
  have c1 := cellR 1 Q0.out rfl
  have c2 := cellR 2 Q0.out rfl
  have H1 := Lib.hid (rGoal_any (h.keep HB.out) sc 1 hosts x y)
  rw [hE] at H1
  have H2 := Lib.hid (fun W (hb : Below w.heap.size w W) => rTorus_v (h.keep hb) sc hosts x y hE)
  clear h hE
  generalize l.length = N at *
  generalize stepsL 1 l x y = SL at *
  go_enter Try.func24, Try.ntmps24
  go_wp2_with fail
  generalize w.alloc (.cells #[.int .i64 1, .slice sa N sc, .int .i64 hosts] 30) = X at *
  refine H1.out.mono ?_
  rintro e w1 ⟨rfl, hb⟩
  replace c0 := kcell hb c0
  replace c1 := kcell hb c1
  replace c2 := kcell hb c2
  replace HB := Lib.hid (HB.out.trans (hb.mono HB.out.size))
  have H3 := Lib.hid (H2.out _ HB.out)
  clear H1 H2 hb Q0
  go_wp2_with fail
  refine H3.out.mono ?_
  rintro e w2 ⟨⟨pa, pk, ca, ck, rfl, hi, hj⟩, hb⟩
  have HI := Lib.hid hj
  replace HB := Lib.hid (HB.out.trans (hb.mono HB.out.size))
  clear H3 hb hi hj c0 c1 c2
  go_wp2_with fail
  exact bodyPost_ret (v := .tuple #[.slice ca SL.length ck, .int .i64 0]) (by simp [results, Try.results24]) rfl ⟨⟨ca, ck, rfl, HI.out⟩, HB.out⟩
theorem rClasses_2 {w : World} {sa : Option Addr} {l : List Int} (h : Ints w sa l) (sc : Nat) (hosts x y : Int) (hE : rteE 2 l hosts x y = 0) :
    Calls Try.prog 24 #[.agg #[.int .i64 2, .slice sa l.length sc, .int .i64 hosts], .int .i64 x, .int .i64 y] w fun e w' => (∃ a c, e = .returned (.tuple #[.slice a (stepsL 2 l x y).length c, .int .i64 0]) ∧ Ints w' a ((stepsL 2 l x y).map (·.2))) ∧ Below w.heap.size w w' := by
  have HB := Lib.hid ((Below.refl w.heap.size w).alloc (Nat.le_refl _) (.cells #[.int .i64 2, .slice sa l.length sc, .int .i64 hosts] 30))
  have Q0 := Lib.hid (heap_alloc_new w (.cells #[.int .i64 2, .slice sa l.length sc, .int .i64 hosts] 30))
  have c0 := cellR 0 Q0.out rfl
  have c1 := cellR 1 Q0.out rfl
  have c2 := cellR 2 Q0.out rfl
  have H1 := Lib.hid (rGoal_any (h.keep HB.out) sc 2 hosts x y)
  rw [hE] at H1
  have H2 := Lib.hid (fun W (hb : Below w.heap.size w W) => rTree_v (h.keep hb) sc hosts x y hE)
  have HZ : Hid ((stepsL 2 l x y).map (·.2) = List.replicate (stepsL 2 l x y).length 0) := upL_zero _ _ _ _ _ _
  have hsl := stepsL_len4 hE
  clear h hE
  generalize l.length = N at *
  generalize stepsL 2 l x y = SL at *
  go_enter Try.func24, Try.ntmps24
  go_wp2_with fail
  generalize w.alloc (.cells #[.int .i64 2, .slice sa N sc, .int .i64 hosts] 30) = X at *
  refine H1.out.mono ?_
  rintro e w1 ⟨rfl, hb⟩
  replace c0 := kcell hb c0
  replace c1 := kcell hb c1
  replace c2 := kcell hb c2
  replace HB := Lib.hid (HB.out.trans (hb.mono HB.out.size))
  have H3 := Lib.hid (H2.out _ HB.out)
  clear H1 H2 hb Q0
  go_wp2_with fail
  refine H3.out.mono ?_
  rintro e w2 ⟨⟨pa, pk, rfl, hi⟩, hb⟩
  replace HB := Lib.hid (HB.out.trans (hb.mono HB.out.size))
  clear H3 hb hi c0 c1 c2
  obtain ⟨LL, hLL⟩ : ∃ LL, LL = SL.length := ⟨_, rfl⟩
  have HLL : Hid (SL.length = LL) := hLL.symm
  rw [← hLL] at HZ hsl ⊢
  clear hLL
  have hmk := make_ints LL (by omega)
  have hl1 : ((LL + 1 : Nat) : Int) - 1 = (LL : Int) := by omega
  have hl2 : (LL : Int) + 1 - 1 = (LL : Int) := by omega
  have hl3 : wrap64 (LL : Int) = (LL : Int) := wrap_small _ (by omega) (by omega)
  go_wp2_with fail
  have hr0 : RowAt (w2.alloc (.cells (rowA (List.replicate LL 0)) 3)) w2.heap.size (List.replicate LL 0) := heap_alloc_new w2 _
  refine bodyPost_ret (v := .tuple #[.slice (some ⟨w2.heap.size, 0, none⟩) LL LL, .int .i64 0]) (by simp [results, Try.results24]) rfl ⟨⟨_, LL, by rw [HLL.out], ?_⟩, HB.out.alloc HB.out.size _⟩
  rw [HZ.out]
  exact hr0.ints (by simp; omega)
theorem rClasses_3 {w : World} {sa : Option Addr} {l : List Int} (h : Ints w sa l) (sc : Nat) (hosts x y : Int) (hE : rteE 3 l hosts x y = 0) :
    Calls Try.prog 24 #[.agg #[.int .i64 3, .slice sa l.length sc, .int .i64 hosts], .int .i64 x, .int .i64 y] w fun e w' => (∃ a c, e = .returned (.tuple #[.slice a (stepsL 3 l x y).length c, .int .i64 0]) ∧ Ints w' a ((stepsL 3 l x y).map (·.2))) ∧ Below w.heap.size w w' := by
  have HB := Lib.hid ((Below.refl w.heap.size w).alloc (Nat.le_refl _) (.cells #[.int .i64 3, .slice sa l.length sc, .int .i64 hosts] 30))
  have Q0 := Lib.hid (heap_alloc_new w (.cells #[.int .i64 3, .slice sa l.length sc, .int .i64 hosts] 30))
  have c0 := cellR 0 Q0.out rfl
  have c1 := cellR 1 Q0.out rfl
  have c2 := cellR 2 Q0.out rfl
  have H1 := Lib.hid (rGoal_any (h.keep HB.out) sc 3 hosts x y)
  rw [hE] at H1
  have H2 := Lib.hid (fun W (hb : Below w.heap.size w W) => rDrag_v (h.keep hb) sc hosts x y hE)
  clear h hE
  generalize l.length = N at *
  generalize stepsL 3 l x y = SL at *
  go_enter Try.func24, Try.ntmps24
  go_wp2_with fail
  generalize w.alloc (.cells #[.int .i64 3, .slice sa N sc, .int .i64 hosts] 30) = X at *
  refine H1.out.mono ?_
  rintro e w1 ⟨rfl, hb⟩
  replace c0 := kcell hb c0
  replace c1 := kcell hb c1
  replace c2 := kcell hb c2
  replace HB := Lib.hid (HB.out.trans (hb.mono HB.out.size))
  have H3 := Lib.hid (H2.out _ HB.out)
  clear H1 H2 hb Q0
  go_wp2_with fail
  refine H3.out.mono ?_
  rintro e w2 ⟨⟨pa, pk, ca, ck, rfl, hi, hj⟩, hb⟩
  have HI := Lib.hid hj
  replace HB := Lib.hid (HB.out.trans (hb.mono HB.out.size))
  clear H3 hb hi hj c0 c1 c2
  go_wp2_with fail
  exact bodyPost_ret (v := .tuple #[.slice ca SL.length ck, .int .i64 0]) (by simp [results, Try.results24]) rfl ⟨⟨ca, ck, rfl, HI.out⟩, HB.out⟩
theorem rClasses_all {w : World} {sa : Option Addr} {l : List Int} (h : Ints w sa l) (sc : Nat) (kind hosts x y : Int) :
    Calls Try.prog 24 #[.agg #[.int .i64 kind, .slice sa l.length sc, .int .i64 hosts], .int .i64 x, .int .i64 y] w fun e w' => (∃ a c, e = .returned (.tuple #[.slice a (rteC kind l hosts x y).length c, .int .i64 (rteE kind l hosts x y)]) ∧ Ints w' a (rteC kind l hosts x y)) ∧ Below w.heap.size w w' := by
  by_cases hE : rteE kind l hosts x y = 0
  · have hl : rteC kind l hosts x y = (stepsL kind l x y).map (·.2) := if_pos hE
    rw [hl, hE]
    obtain ⟨hv, hin, hy⟩ := rte_ok hE
    have key : Calls Try.prog 24 #[.agg #[.int .i64 kind, .slice sa l.length sc, .int .i64 hosts], .int .i64 x, .int .i64 y] w fun e w' => (∃ a c, e = .returned (.tuple #[.slice a (stepsL kind l x y).length c, .int .i64 0]) ∧ Ints w' a ((stepsL kind l x y).map (·.2))) ∧ Below w.heap.size w w' := by
      rcases v_kind hv with rfl | rfl | rfl
      · exact rClasses_1 h sc hosts x y hE
      · exact rClasses_2 h sc hosts x y hE
      · exact rClasses_3 h sc hosts x y hE
    refine key.mono ?_
    rintro e w' ⟨⟨a, c, rfl, hi⟩, hb⟩
    exact ⟨⟨a, c, by simp, hi⟩, hb⟩
  · have hl : rteC kind l hosts x y = [] := if_neg hE
    rw [hl]
    have HB := Lib.hid ((Below.refl w.heap.size w).alloc (Nat.le_refl _) (.cells #[.int .i64 kind, .slice sa l.length sc, .int .i64 hosts] 30))
    have Q0 := Lib.hid (heap_alloc_new w (.cells #[.int .i64 kind, .slice sa l.length sc, .int .i64 hosts] 30))
    have c0 := cellR 0 Q0.out rfl
    have c1 := cellR 1 Q0.out rfl
    have c2 := cellR 2 Q0.out rfl
    have H1 := Lib.hid (rGoal_any (h.keep HB.out) sc kind hosts x y)
    have hne : (rteE kind l hosts x y != 0) = true := bne_iff_ne.2 hE
    clear h hE hl
    generalize l.length = N at *
    generalize rteE kind l hosts x y = E at *
    go_enter Try.func24, Try.ntmps24
    go_wp2_with fail
    generalize w.alloc (.cells #[.int .i64 kind, .slice sa N sc, .int .i64 hosts] 30) = X at *
    refine H1.out.mono ?_
    rintro e w1 ⟨rfl, hb⟩
    replace HB := Lib.hid (HB.out.trans (hb.mono HB.out.size))
    clear H1 hb Q0 c0 c1 c2
    go_wp2_with fail
    exact bodyPost_ret (v := .tuple #[.slice none 0 0, .int .i64 E]) (by simp [results, Try.results24]) rfl ⟨⟨none, 0, rfl, ints_nil _⟩, HB.out⟩
end Go.Proofs.Ytbhkenphcahifaa
