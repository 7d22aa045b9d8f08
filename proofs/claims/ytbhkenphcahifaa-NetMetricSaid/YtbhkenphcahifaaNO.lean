import Derived.Test.YtbhkenphcahifaaNN
namespace Go.Proofs.Ytbhkenphcahifaa
open Go.RowKit Go.Shelf
attribute [local go_sem] Oper.semAt_some
set_option maxRecDepth 100000
set_option maxHeartbeats 4000000

theorem rCoords_any {w : World} {sa : Option Addr} {l : List Int} (h : Ints w sa l) (hp : ∀ s ∈ l, 1 ≤ s ∧ s ≤ 64) (sc : Nat) (kind hosts x : Int) (hx : 0 ≤ x) (hx2 : x ≤ 1000) :
    Calls Try.prog 49 #[.agg #[.int .i64 kind, .slice sa l.length sc, .int .i64 hosts], .int .i64 x] w fun e w' => ∃ g, e = .returned (.slice (some ⟨g, 0, none⟩) l.length l.length) ∧ w.heap.size ≤ g ∧ RowAt w' g (coordsL l x) ∧ Below w.heap.size w w' := by
  have hlen := h.len
  have HL := Lib.hid h
  have HP := Lib.hid hp
  obtain ⟨N, hN⟩ : ∃ N, N = l.length := ⟨_, rfl⟩
  have HN := Lib.hid hN
  rw [← hN] at hlen ⊢
  have HB := Lib.hid ((Below.refl w.heap.size w).alloc (Nat.le_refl _) (.cells #[.int .i64 kind, .slice sa N sc, .int .i64 hosts] 30))
  have Q0 := Lib.hid (heap_alloc_new w (.cells #[.int .i64 kind, .slice sa N sc, .int .i64 hosts] 30))
  have hz : (w.alloc (.cells #[.int .i64 kind, .slice sa N sc, .int .i64 hosts] 30)).heap.size = w.heap.size + 1 := by simp
  have c0 := cellR 0 Q0.out rfl
  have c1 := cellR 1 Q0.out rfl
  have c2 := cellR 2 Q0.out rfl
  have hmk := make_ints N hlen
  have HX := Lib.hid (And.intro hx hx2)
  have HCL : Hid (coordsL l x = (cfold l x ((List.range N).reverse.take N)).2) := by
    show _ = _
    unfold coordsL
    rw [List.take_of_length_le (by simp), ← hN]
  clear h hp hN hx hx2
  go_enter Try.func49, Try.ntmps49
  go_wp2_with fail
  generalize w.alloc (.cells #[.int .i64 kind, .slice sa N sc, .int .i64 hosts] 30) = X at *
  have hr0 : RowAt (X.alloc (.cells (rowA (List.replicate N 0)) 3)) X.heap.size (List.replicate N 0) := heap_alloc_new X _
  have hbX : Below X.heap.size X (X.alloc (.cells (rowA (List.replicate N 0)) 3)) := (Below.refl _ _).alloc (Nat.le_refl _) _
  rw [hz] at hr0 hbX
  have hwr : wrap64 ((N : Int) - 1) = (N : Int) - 1 := by unfold wrap64; omega
  try rw [hwr]
  try rw [hz]
  clear hmk c0 c1 c2
  generalize X.alloc (.cells (rowA (List.replicate N 0)) 3) = Y at *
  go_loopw [1, 6] (fun xv i wr => ∃ (m : Nat), m ≤ N ∧ i = .int .i64 ((N : Int) - 1 - m) ∧ xv = .int .i64 (cfold l x ((List.range N).reverse.take m)).1 ∧ 0 ≤ (cfold l x ((List.range N).reverse.take m)).1 ∧ (cfold l x ((List.range N).reverse.take m)).1 ≤ 1000 ∧ RowAt wr (w.heap.size + 1) (cfold l x ((List.range N).reverse.take m)).2 ∧ Below (w.heap.size + 1) X wr) (fun _ i _ => (intOf i + 1).toNat)
  case atStart =>
    refine ⟨0, Nat.zero_le _, by simp, rfl, HX.out.1, HX.out.2, ?_, hbX⟩
    have : (cfold l x ((List.range N).reverse.take 0)).2 = List.replicate N 0 := by rw [HN.out]; rfl
    rw [this]; exact hr0
  case round =>
    obtain ⟨m, hm, rfl, rfl, hs0, hs1, hR, hbr⟩ := hrel
    have HBR := Lib.hid hbr
    by_cases hlt : m < N
    · obtain ⟨j, hj⟩ : ∃ j : Nat, N = m + 1 + j := ⟨N - m - 1, by omega⟩
      have hi : (N : Int) - 1 - m = (j : Int) := by omega
      rw [hi]
      have hk1 : j < l.length := by rw [← HN.out]; omega
      have HS : Hid (cfold l x ((List.range N).reverse.take (m + 1)) = cstep l (cfold l x ((List.range N).reverse.take m)) j) := by
        show _ = _
        rw [List.take_succ_eq_append_getElem (by simpa using hlt), cfold_snoc]
        congr 1
        simp only [List.getElem_reverse, List.getElem_range, List.length_range]
        omega
      have HLN : Hid ((cfold l x ((List.range N).reverse.take m)).2.length = N) := by show _ = _; rw [cfold_len, HN.out]
      obtain ⟨g, o, rfl, hc⟩ := (HL.out.keep (HB.out.trans (hbr.mono (by omega)))).at_ (ne_nil_of_lt hk1)
      have e0 := hc j hk1
      have hgl : g < w.heap.size := by
        obtain ⟨g', o', e', hc'⟩ := HL.out.at_ (ne_nil_of_lt hk1)
        cases e'
        exact block_lt_of_cell (hc' 0 (by omega))
      have hgn : g ≠ w.heap.size + 1 := by omega
      have HC : Hid (cstep l (cfold l x ((List.range N).reverse.take m)) j = ((cfold l x ((List.range N).reverse.take m)).1 / l[j], (cfold l x ((List.range N).reverse.take m)).2.set j ((cfold l x ((List.range N).reverse.take m)).1 % l[j]))) := by
        show _ = _
        unfold cstep
        simp [List.getD, hk1]
      obtain ⟨s1, s2⟩ := HP.out (l[j]) (List.getElem_mem hk1)
      generalize l[j] = sz at *
      generalize cfold l x ((List.range N).reverse.take m) = st at *
      obtain ⟨sr, sl⟩ := st
      dsimp only at *
      have q1 := (hbr.block _ (show w.heap.size < w.heap.size + 1 by omega)).trans Q0.out
      have c1 := cellR 1 q1 rfl
      have t1 := hR.open_ j
      obtain ⟨v0, t0⟩ : ∃ v0, wr.cell? ⟨w.heap.size + 1, j, none⟩ = some (.int .i64 v0) := ⟨_, hR.cell j (by rw [HLN.out]; omega)⟩
      have tl := hR.lt
      have hszr := hbr.size
      have hsz0 : sz ≠ 0 := by omega
      have hmod : sr.tmod sz = sr % sz := Int.tmod_eq_emod_of_nonneg hs0
      have hdle : sr / sz ≤ sr := Int.ediv_le_self _ hs0
      have hdnn : 0 ≤ sr / sz := Int.ediv_nonneg hs0 (by omega)
      have hdiv : wrap64 (sr.tdiv sz) = sr / sz := by
        rw [Int.tdiv_eq_ediv_of_nonneg hs0]; unfold wrap64; omega
      have hne : wrap64 ((j : Int) - 1) = (j : Int) - 1 := by unfold wrap64; omega
      have HR := Lib.hid hR
      have HNJ := Lib.hid hj
      clear hc hk1 q1 hR hbr hi hj
      have hjN : j < N := by have := HNJ.out; omega
      go_wp2_with fail
      go_roundw
      case rel =>
        have HF : cfold l x ((List.range N).reverse.take (m + 1)) = (sr / sz, sl.set j (sr % sz)) := by rw [HS.out, HC.out]
        refine ⟨m + 1, by omega, ?_, ?_, ?_, ?_, ?_, ?_⟩
        · first | (congr 1; omega) | (have := HNJ.out; show Value.int .i64 _ = Value.int .i64 _; congr 1; omega)
        · rw [HF]
        · rw [HF]; exact hdnn
        · rw [HF]; exact Int.le_trans hdle hs1
        · rw [HF]; exact HR.out.set j _
        · exact HBR.out.setCell (Nat.le_refl _) _
      case measure => simp [intOf]
    · have hmn : m = N := by omega
      subst hmn
      have hneg : decide (0 ≤ (m : Int) - 1 - m) = false := decide_eq_false (by omega)
      go_wp2_with fail
      go_ret
      exact ⟨w.heap.size + 1, rfl, Nat.le_succ _, by rw [HCL.out]; exact hR, HB.out.trans (HBR.out.mono (by omega))⟩
theorem rPlace_bad {w : World} {sa : Option Addr} {l : List Int} (h : Ints w sa l) (sc : Nat) (kind hosts x : Int) (hE : plaE kind l hosts x ≠ 0) :
    Calls Try.prog 19 #[.agg #[.int .i64 kind, .slice sa l.length sc, .int .i64 hosts], .int .i64 x] w fun e w' => e = .returned (.tuple #[.slice none 0 0, .int .i64 (plaE kind l hosts x)]) ∧ Below w.heap.size w w' := by
  have HB := Lib.hid ((Below.refl w.heap.size w).alloc (Nat.le_refl _) (.cells #[.int .i64 kind, .slice sa l.length sc, .int .i64 hosts] 30))
  have Q0 := Lib.hid (heap_alloc_new w (.cells #[.int .i64 kind, .slice sa l.length sc, .int .i64 hosts] 30))
  have c0 := cellR 0 Q0.out rfl
  have c1 := cellR 1 Q0.out rfl
  have c2 := cellR 2 Q0.out rfl
  have HK := Lib.hid (fun W (hb : Below w.heap.size w W) => rIs_any (h.keep hb) sc kind hosts x)
  have hne : (plaE kind l hosts x != 0) = true := bne_iff_ne.2 hE
  have hlen := h.len
  generalize plaE kind l hosts x = E at *
  clear h hE Q0
  generalize l.length = N at *
  go_enter Try.func19, Try.ntmps19
  go_wp2_with fail
  generalize w.alloc (.cells #[.int .i64 kind, .slice sa N sc, .int .i64 hosts] 30) = X at *
  refine (HK.out _ HB.out).mono ?_
  rintro e w1 ⟨rfl, hb1⟩
  clear HK c0 c1 c2
  go_wp2_with fail
  go_ret2
  exact ⟨rfl, HB.out.trans (hb1.mono HB.out.size)⟩
theorem rPlace1_any {w : World} {sa : Option Addr} {l : List Int} (h : Ints w sa l) (sc : Nat) (hosts x : Int) (hv : tOk l hosts) (hE : plaE 1 l hosts x = 0) (hx0 : 0 ≤ x) (hx1 : x ≤ 1000) :
    Calls Try.prog 19 #[.agg #[.int .i64 1, .slice sa l.length sc, .int .i64 hosts], .int .i64 x] w fun e w' => ∃ g, e = .returned (.tuple #[.slice (some ⟨g, 0, none⟩) (placeL 1 l x).length (placeL 1 l x).length, .int .i64 0]) ∧ w.heap.size ≤ g ∧ RowAt w' g (placeL 1 l x) ∧ Below w.heap.size w w' := by
  have HB := Lib.hid ((Below.refl w.heap.size w).alloc (Nat.le_refl _) (.cells #[.int .i64 1, .slice sa l.length sc, .int .i64 hosts] 30))
  have Q0 := Lib.hid (heap_alloc_new w (.cells #[.int .i64 1, .slice sa l.length sc, .int .i64 hosts] 30))
  have c0 := cellR 0 Q0.out rfl
  have c1 := cellR 1 Q0.out rfl
  have c2 := cellR 2 Q0.out rfl
  have HK := Lib.hid (fun W (hb : Below w.heap.size w W) => rIs_any (h.keep hb) sc 1 hosts x)
  rw [hE] at HK
  have hlen := h.len
  have HC := Lib.hid (fun W (hb : Below w.heap.size w W) => rCoords_any (h.keep hb) (fun s hs => by have := hv.2.2.1 s hs; omega) sc 1 hosts x hx0 hx1)
  have hpl : placeL 1 l x = coordsL l x := rfl
  have hln : (coordsL l x).length = l.length := cfold_len _ _ _
  rw [hpl, hln]
  generalize coordsL l x = PLL at *
  clear h hE hv hpl hln
  go_enter Try.func19, Try.ntmps19
  go_wp2_with fail
  generalize w.alloc (.cells #[.int .i64 1, .slice sa l.length sc, .int .i64 hosts] 30) = X at *
  refine (HK.out _ HB.out).mono ?_
  rintro e w1 ⟨rfl, hb1⟩
  have HB1 := Lib.hid (HB.out.trans (hb1.mono HB.out.size))
  have Q1 := Lib.hid (heapB hb1 Q0.out)
  clear HK c0 c1 c2 HB Q0 hb1
  have c0 := cellR 0 Q1.out rfl
  have c1 := cellR 1 Q1.out rfl
  have c2 := cellR 2 Q1.out rfl
  go_wp2_with fail
  refine (HC.out _ HB1.out).mono ?_
  rintro e w2 ⟨g, rfl, hg, hR, hb2⟩
  have HB2 := Lib.hid (HB1.out.trans (hb2.mono HB1.out.size))
  have HG : Hid (w.heap.size ≤ g) := Nat.le_trans HB1.out.size hg
  have HR := Lib.hid hR
  clear HC c0 c1 c2 hb2 hg hR
  go_wp2_with fail
  go_ret2
  exact ⟨g, rfl, HG.out, HR.out, HB2.out⟩
theorem rPlace2_any {w : World} {sa : Option Addr} {l : List Int} (h : Ints w sa l) (sc : Nat) (hosts x : Int) (hv : rOk l hosts) (hE : plaE 2 l hosts x = 0) (hx0 : 0 ≤ x) (hx1 : x ≤ 1000) :
    Calls Try.prog 19 #[.agg #[.int .i64 2, .slice sa l.length sc, .int .i64 hosts], .int .i64 x] w fun e w' => ∃ g, e = .returned (.tuple #[.slice (some ⟨g, 0, none⟩) (placeL 2 l x).length (placeL 2 l x).length, .int .i64 0]) ∧ w.heap.size ≤ g ∧ RowAt w' g (placeL 2 l x) ∧ Below w.heap.size w w' := by
  have HB := Lib.hid ((Below.refl w.heap.size w).alloc (Nat.le_refl _) (.cells #[.int .i64 2, .slice sa l.length sc, .int .i64 hosts] 30))
  have Q0 := Lib.hid (heap_alloc_new w (.cells #[.int .i64 2, .slice sa l.length sc, .int .i64 hosts] 30))
  have c0 := cellR 0 Q0.out rfl
  have c1 := cellR 1 Q0.out rfl
  have c2 := cellR 2 Q0.out rfl
  have HK := Lib.hid (fun W (hb : Below w.heap.size w W) => rIs_any (h.keep hb) sc 2 hosts x)
  rw [hE] at HK
  have hlen := h.len
  have hwb := words_bound hv
  have HC := Lib.hid (fun W (hb : Below w.heap.size w W) => rWords_v (h.keep hb) sc 2 hosts hv)
  have hpl : placeL 2 l x = [x / wordsI l, x % wordsI l] := rfl
  rw [hpl]
  have hw1 := hwb.1
  have EQ := Lib.hid (fun W => i64_quo x (wordsI l) hx0 (by omega) hw1 W)
  have ER := Lib.hid (fun W => i64_rem x (wordsI l) hx0 hw1 W)
  obtain ⟨p, hp⟩ : ∃ p, p = x / wordsI l := ⟨_, rfl⟩
  obtain ⟨q, hq⟩ : ∃ q, q = x % wordsI l := ⟨_, rfl⟩
  rw [← hp] at EQ ⊢
  rw [← hq] at ER ⊢
  generalize wordsI l = n at *
  clear h hE hv hpl hp hq hwb hw1
  generalize l.length = N at *
  go_enter Try.func19, Try.ntmps19
  go_wp2_with fail
  generalize w.alloc (.cells #[.int .i64 2, .slice sa N sc, .int .i64 hosts] 30) = X at *
  refine (HK.out _ HB.out).mono ?_
  rintro e w1 ⟨rfl, hb1⟩
  have HB1 := Lib.hid (HB.out.trans (hb1.mono HB.out.size))
  have Q1 := Lib.hid (heapB hb1 Q0.out)
  clear HK c0 c1 c2 HB Q0 hb1
  have c0 := cellR 0 Q1.out rfl
  have c1 := cellR 1 Q1.out rfl
  have c2 := cellR 2 Q1.out rfl
  go_wp2_with fail
  refine (wpIn_wide (n := 0)).1 ?_
  refine region_det (by kernel_rfl) (I := fun listed a' w' => ∃ gs : Nat, Hid (Below w1.heap.size w1 w') ∧ Hid (listed.getD 8 false = true → w.heap.size ≤ gs ∧ RowAt w' gs [p, q]) ∧ Hid (listed.getD 9 false = true → listed.getD 8 false = true) ∧ Hid (listed.getD 8 false = true → listed.getD 3 false = true ∧ listed.getD 7 false = true) ∧ Hid (listed.getD 3 false = true → listed.getD 2 false = true) ∧ Hid (listed.getD 7 false = true → listed.getD 6 false = true) ∧ a' = ⟨#[Value.agg #[.int .i64 2, .slice sa N sc, .int .i64 hosts], Value.int IntKind.i64 (x), Value.pointer (some ⟨w.heap.size, 0, none⟩), undef, (if listed.getD 9 false = true then Value.slice (some ⟨gs, 0, none⟩) 2 2 else Value.slice none 0 0), (if listed.getD 10 false = true then Value.int IntKind.i64 (0) else Value.int IntKind.i64 (0)), Value.int IntKind.i64 (0), Value.agg #[.int .i64 2, .slice sa N sc, .int .i64 hosts], Value.int IntKind.i64 (x), Value.int IntKind.i64 (0), Value.int IntKind.i64 (0), Value.bool false, undef, Value.pointer (some ⟨w.heap.size, 0, none⟩), Value.int IntKind.i64 (2), Value.bool false, Value.bool false, undef, undef, undef, Value.bool true, Value.bool true, (if listed.getD 0 false = true then Value.int IntKind.i64 (x) else undef), (if listed.getD 1 false = true then Value.agg #[.int .i64 2, .slice sa N sc, .int .i64 hosts] else undef), (if listed.getD 2 false = true then Value.int IntKind.i64 (n) else undef), (if listed.getD 3 false = true then Value.int IntKind.i64 (p) else undef), (if listed.getD 4 false = true then Value.int IntKind.i64 (x) else undef), (if listed.getD 5 false = true then Value.agg #[.int .i64 2, .slice sa N sc, .int .i64 hosts] else undef), (if listed.getD 6 false = true then Value.int IntKind.i64 (n) else undef), (if listed.getD 7 false = true then Value.int IntKind.i64 (q) else undef), (if listed.getD 8 false = true then Value.slice (some ⟨gs, 0, none⟩) 2 2 else undef), undef, undef, undef, undef, undef, undef, undef, undef, undef, undef, undef, undef, undef], []⟩) (hup_check (by kernel_rfl)) ?h0 ?step ?fin
  case h0 => exact ⟨0, (Below.refl _ _).drew, (fun h => by simp at h), (fun h => by simp at h), (fun h => by simp at h), (fun h => by simp at h), (fun h => by simp at h), rfl⟩
  case step =>
    intro listed a' w' i hs hbi hdep hi ⟨gs, IB, IS, J9, J8, J3, J7, ha⟩
    obtain ⟨ls⟩ := listed
    match ls, hs with
    | [x0, x1, x2, x3, x4, x5, x6, x7, x8, x9, x10], _ =>
    subst ha
    have hi' : i = 0 ∨ i = 1 ∨ i = 2 ∨ i = 3 ∨ i = 4 ∨ i = 5 ∨ i = 6 ∨ i = 7 ∨ i = 8 ∨ i = 9 ∨ i = 10 := by simp at hi; omega
    rcases hi' with rfl | rfl | rfl | rfl | rfl | rfl | rfl | rfl | rfl | rfl | rfl
    · obtain rfl : x0 = false := by simpa using hbi
      refine wpOpIn_plain rfl rfl rfl ?_
      exact ⟨gs, IB, IS, J9, J8, J3, J7, rfl⟩
    · obtain rfl : x1 = false := by simpa using hbi
      refine wpOpIn_load_row rfl rfl 30 _ rfl w.heap.size rfl 30 _ _ _ (heapB IB.out Q1.out) Try.underlying30 rfl info30 ?_
      exact ⟨gs, IB, IS, J9, J8, J3, J7, rfl⟩
    · obtain rfl : x2 = false := by simpa using hbi
      obtain rfl : x1 = true := hdep _ rfl ⟨1, .data⟩ (by simp) rfl
      obtain rfl : x8 = false := Bool.eq_false_iff.2 fun h => by have := J3.out (J8.out h).1; cases this
      refine wpOpIn_call (args := #[Value.agg #[.int .i64 2, .slice sa N sc, .int .i64 hosts]]) rfl rfl (sem_call1 rfl rfl (enters_of Try.func50 (by kernel_rfl) rfl)) (HC.out w' (HB1.out.trans (IB.out.mono HB1.out.size))) ?_
      rintro e V ⟨rfl, hb⟩
      exact ⟨_, rfl, gs, (IB.out.trans (hb.mono IB.out.size)), (fun h => by simp at h), J9, J8, (fun _ => rfl), J7, rfl⟩
    · obtain rfl : x3 = false := by simpa using hbi
      obtain rfl : x0 = true := hdep _ rfl ⟨0, .data⟩ (by simp) rfl
      obtain rfl : x2 = true := hdep _ rfl ⟨2, .data⟩ (by simp) rfl
      refine wpOpIn_plain (v := Value.int IntKind.i64 (p)) (w' := w') rfl rfl (sem_bin (vx := Value.int IntKind.i64 (x)) (vy := Value.int IntKind.i64 (n)) rfl rfl rfl rfl (EQ.out w')) ?_
      exact ⟨gs, IB, IS, J9, (fun h => ⟨rfl, (J8.out h).2⟩), (fun _ => rfl), J7, rfl⟩
    · obtain rfl : x4 = false := by simpa using hbi
      refine wpOpIn_plain rfl rfl rfl ?_
      exact ⟨gs, IB, IS, J9, J8, J3, J7, rfl⟩
    · obtain rfl : x5 = false := by simpa using hbi
      refine wpOpIn_load_row rfl rfl 30 _ rfl w.heap.size rfl 30 _ _ _ (heapB IB.out Q1.out) Try.underlying30 rfl info30 ?_
      exact ⟨gs, IB, IS, J9, J8, J3, J7, rfl⟩
    · obtain rfl : x6 = false := by simpa using hbi
      obtain rfl : x5 = true := hdep _ rfl ⟨5, .data⟩ (by simp) rfl
      obtain rfl : x8 = false := Bool.eq_false_iff.2 fun h => by have := J7.out (J8.out h).2; cases this
      refine wpOpIn_call (args := #[Value.agg #[.int .i64 2, .slice sa N sc, .int .i64 hosts]]) rfl rfl (sem_call1 rfl rfl (enters_of Try.func50 (by kernel_rfl) rfl)) (HC.out w' (HB1.out.trans (IB.out.mono HB1.out.size))) ?_
      rintro e V ⟨rfl, hb⟩
      exact ⟨_, rfl, gs, (IB.out.trans (hb.mono IB.out.size)), (fun h => by simp at h), J9, J8, J3, (fun _ => rfl), rfl⟩
    · obtain rfl : x7 = false := by simpa using hbi
      obtain rfl : x4 = true := hdep _ rfl ⟨4, .data⟩ (by simp) rfl
      obtain rfl : x6 = true := hdep _ rfl ⟨6, .data⟩ (by simp) rfl
      refine wpOpIn_plain (v := Value.int IntKind.i64 (q)) (w' := w') rfl rfl (sem_bin (vx := Value.int IntKind.i64 (x)) (vy := Value.int IntKind.i64 (n)) rfl rfl rfl rfl (ER.out w')) ?_
      exact ⟨gs, IB, IS, J9, (fun h => ⟨(J8.out h).1, rfl⟩), J3, (fun _ => rfl), rfl⟩
    · obtain rfl : x8 = false := by simpa using hbi
      obtain rfl : x3 = true := hdep _ rfl ⟨3, .data⟩ (by simp) rfl
      obtain rfl : x7 = true := hdep _ rfl ⟨7, .data⟩ (by simp) rfl
      obtain rfl : x9 = false := Bool.eq_false_iff.2 fun h => by have := J9.out h; cases this
      refine wpOpIn_plain (v := Value.slice (some ⟨w'.heap.size, 0, none⟩) 2 2) (w' := w'.alloc (.cells #[.int .i64 p, .int .i64 q] 3)) rfl rfl (by simp [Oper.semAt, execOp, go_sem]) ?_
      have hb9 : Below w'.heap.size w' (w'.alloc (.cells #[.int .i64 p, .int .i64 q] 3)) := (Below.refl _ _).alloc (Nat.le_refl _) _
      exact ⟨w'.heap.size, (IB.out.trans (hb9.mono IB.out.size)), (fun _ => ⟨Nat.le_trans HB1.out.size IB.out.size, RowAt.two p q⟩), (fun _ => rfl), (fun _ => ⟨rfl, rfl⟩), J3, J7, rfl⟩
    · obtain rfl : x9 = false := by simpa using hbi
      obtain rfl : x8 = true := hdep _ rfl ⟨8, .data⟩ (by simp) rfl
      refine wpOpIn_plain rfl rfl rfl ?_
      exact ⟨gs, IB, IS, (fun _ => rfl), J8, J3, J7, rfl⟩
    · obtain rfl : x10 = false := by simpa using hbi
      refine wpOpIn_plain rfl rfl rfl ?_
      exact ⟨gs, IB, IS, J9, J8, J3, J7, rfl⟩
  case fin =>
  intro listed a' Z hs hall ⟨gs, IB, IS, J9, J8, J3, J7, ha⟩
  obtain ⟨ls⟩ := listed
  match ls, hs with
  | [x0, x1, x2, x3, x4, x5, x6, x7, x8, x9, x10], _ =>
  obtain rfl : x0 = true := hall 0 (by simp)
  obtain rfl : x1 = true := hall 1 (by simp)
  obtain rfl : x2 = true := hall 2 (by simp)
  obtain rfl : x3 = true := hall 3 (by simp)
  obtain rfl : x4 = true := hall 4 (by simp)
  obtain rfl : x5 = true := hall 5 (by simp)
  obtain rfl : x6 = true := hall 6 (by simp)
  obtain rfl : x7 = true := hall 7 (by simp)
  obtain rfl : x8 = true := hall 8 (by simp)
  obtain rfl : x9 = true := hall 9 (by simp)
  obtain rfl : x10 = true := hall 10 (by simp)
  subst ha
  have HZ : Hid (Below w1.heap.size w1 Z) := IB
  have HS := Lib.hid (IS.out rfl)
  clear IB IS J9 J8 J3 J7 hall hs EQ ER
  dsimp only [Exit.then, Exit.inBlock]
  go_wp2_with fail
  go_ret2
  exact ⟨gs, rfl, HS.out.1, HS.out.2, HB1.out.trans (HZ.out.mono HB1.out.size)⟩
theorem rPlace3_any {w : World} {sa : Option Addr} {l : List Int} (h : Ints w sa l) (sc : Nat) (hosts x : Int) (hv : dOk l hosts) (hE : plaE 3 l hosts x = 0) (hx0 : 0 ≤ x) (hx1 : x ≤ 1000) :
    Calls Try.prog 19 #[.agg #[.int .i64 3, .slice sa l.length sc, .int .i64 hosts], .int .i64 x] w fun e w' => ∃ g, e = .returned (.tuple #[.slice (some ⟨g, 0, none⟩) (placeL 3 l x).length (placeL 3 l x).length, .int .i64 0]) ∧ w.heap.size ≤ g ∧ RowAt w' g (placeL 3 l x) ∧ Below w.heap.size w w' := by
  have HB := Lib.hid ((Below.refl w.heap.size w).alloc (Nat.le_refl _) (.cells #[.int .i64 3, .slice sa l.length sc, .int .i64 hosts] 30))
  have Q0 := Lib.hid (heap_alloc_new w (.cells #[.int .i64 3, .slice sa l.length sc, .int .i64 hosts] 30))
  have c0 := cellR 0 Q0.out rfl
  have c1 := cellR 1 Q0.out rfl
  have c2 := cellR 2 Q0.out rfl
  have HK := Lib.hid (fun W (hb : Below w.heap.size w W) => rIs_any (h.keep hb) sc 3 hosts x)
  rw [hE] at HK
  have hlen := h.len
  obtain ⟨h0, h1, h2, h3, h4⟩ := hv
  obtain ⟨a, b, rfl⟩ := two_of h0
  obtain ⟨g, o, rfl, ht⟩ := h.two
  simp only [List.getD_cons_zero, List.getD_cons_succ] at h2
  have hpl : placeL 3 [a, b] x = [x / a, x % a] := rfl
  rw [hpl]
  have EQ := Lib.hid (fun W => i64_quo x a hx0 (by omega) h2.1 W)
  have ER := Lib.hid (fun W => i64_rem x a hx0 h2.1 W)
  obtain ⟨p, hp⟩ : ∃ p, p = x / a := ⟨_, rfl⟩
  obtain ⟨q, hq⟩ : ∃ q, q = x % a := ⟨_, rfl⟩
  rw [← hp] at EQ ⊢
  rw [← hq] at ER ⊢
  have HT2 : Hid (∀ W, Below w.heap.size w W → Two W g o a b) := fun W hb => ht.keep hb
  clear h hE hpl hp hq h0 h1 h2 h3 h4 ht
  simp only [List.length_cons, List.length_nil, Nat.zero_add, Nat.reduceAdd] at *
  go_enter Try.func19, Try.ntmps19
  go_wp2_with fail
  generalize w.alloc (.cells #[.int .i64 3, .slice (some ⟨g, o, none⟩) 2 sc, .int .i64 hosts] 30) = X at *
  refine (HK.out _ HB.out).mono ?_
  rintro e w1 ⟨rfl, hb1⟩
  have HB1 := Lib.hid (HB.out.trans (hb1.mono HB.out.size))
  have Q1 := Lib.hid (heapB hb1 Q0.out)
  clear HK c0 c1 c2 HB Q0 hb1
  have c0 := cellR 0 Q1.out rfl
  have c1 := cellR 1 Q1.out rfl
  have c2 := cellR 2 Q1.out rfl
  go_wp2_with fail
  have C1 := Lib.hid c1
  have E0 := Lib.hid (HT2.out _ HB1.out).1
  clear c0 c1 c2
  refine (wpIn_wide (n := 0)).1 ?_
  refine region_det (by kernel_rfl) (I := fun listed a' w' => ∃ gs : Nat, Hid (Below w1.heap.size w1 w') ∧ Hid (listed.getD 12 false = true → w.heap.size ≤ gs ∧ RowAt w' gs [p, q]) ∧ Hid (listed.getD 13 false = true → listed.getD 12 false = true) ∧ a' = ⟨#[Value.agg #[.int .i64 3, .slice (some ⟨g, o, none⟩) 2 sc, .int .i64 hosts], Value.int IntKind.i64 (x), Value.pointer (some ⟨w.heap.size, 0, none⟩), undef, (if listed.getD 13 false = true then Value.slice (some ⟨gs, 0, none⟩) 2 2 else Value.slice none 0 0), (if listed.getD 14 false = true then Value.int IntKind.i64 (0) else Value.int IntKind.i64 (0)), Value.int IntKind.i64 (0), Value.agg #[.int .i64 3, .slice (some ⟨g, o, none⟩) 2 sc, .int .i64 hosts], Value.int IntKind.i64 (x), Value.int IntKind.i64 (0), Value.int IntKind.i64 (0), Value.bool false, undef, Value.pointer (some ⟨w.heap.size, 0, none⟩), Value.int IntKind.i64 (3), Value.bool false, Value.bool false, undef, undef, undef, Value.bool false, Value.bool false, undef, undef, undef, undef, undef, undef, undef, undef, undef, (if listed.getD 0 false = true then Value.int IntKind.i64 (x) else undef), (if listed.getD 1 false = true then Value.pointer (some ⟨w.heap.size, 1, none⟩) else undef), (if listed.getD 2 false = true then Value.slice (some ⟨g, o, none⟩) 2 sc else undef), (if listed.getD 3 false = true then Value.pointer (some ⟨g, o, none⟩) else undef), (if listed.getD 4 false = true then Value.int IntKind.i64 (a) else undef), (if listed.getD 5 false = true then Value.int IntKind.i64 (p) else undef), (if listed.getD 6 false = true then Value.int IntKind.i64 (x) else undef), (if listed.getD 7 false = true then Value.pointer (some ⟨w.heap.size, 1, none⟩) else undef), (if listed.getD 8 false = true then Value.slice (some ⟨g, o, none⟩) 2 sc else undef), (if listed.getD 9 false = true then Value.pointer (some ⟨g, o, none⟩) else undef), (if listed.getD 10 false = true then Value.int IntKind.i64 (a) else undef), (if listed.getD 11 false = true then Value.int IntKind.i64 (q) else undef), (if listed.getD 12 false = true then Value.slice (some ⟨gs, 0, none⟩) 2 2 else undef)], []⟩) (hup_check (by kernel_rfl)) ?h0 ?step ?fin
  case h0 => exact ⟨0, (Below.refl _ _).drew, (fun h => by simp at h), (fun h => by simp at h), rfl⟩
  case step =>
    intro listed a' w' i hs hbi hdep hi ⟨gs, IB, IS, J13, ha⟩
    obtain ⟨ls⟩ := listed
    match ls, hs with
    | [x0, x1, x2, x3, x4, x5, x6, x7, x8, x9, x10, x11, x12, x13, x14], _ =>
    subst ha
    have hi' : i = 0 ∨ i = 1 ∨ i = 2 ∨ i = 3 ∨ i = 4 ∨ i = 5 ∨ i = 6 ∨ i = 7 ∨ i = 8 ∨ i = 9 ∨ i = 10 ∨ i = 11 ∨ i = 12 ∨ i = 13 ∨ i = 14 := by simp at hi; omega
    rcases hi' with rfl | rfl | rfl | rfl | rfl | rfl | rfl | rfl | rfl | rfl | rfl | rfl | rfl | rfl | rfl
    · obtain rfl : x0 = false := by simpa using hbi
      refine wpOpIn_plain rfl rfl rfl ?_
      exact ⟨gs, IB, IS, J13, rfl⟩
    · obtain rfl : x1 = false := by simpa using hbi
      refine wpOpIn_plain (v := Value.pointer (some ⟨w.heap.size, 1, none⟩)) (w' := w') rfl rfl (by simp [Oper.semAt, execOp, go_sem]) ?_
      exact ⟨gs, IB, IS, J13, rfl⟩
    · obtain rfl : x2 = false := by simpa using hbi
      obtain rfl : x1 = true := hdep _ rfl ⟨1, .data⟩ (by simp) rfl
      have c1 := kcell IB.out C1.out
      refine wpOpIn_plain (v := Value.slice (some ⟨g, o, none⟩) 2 sc) (w' := w') rfl rfl (by simp [Oper.semAt, execOp, go_sem, c1]) ?_
      exact ⟨gs, IB, IS, J13, rfl⟩
    · obtain rfl : x3 = false := by simpa using hbi
      obtain rfl : x2 = true := hdep _ rfl ⟨2, .data⟩ (by simp) rfl
      refine wpOpIn_plain (v := Value.pointer (some ⟨g, o, none⟩)) (w' := w') rfl rfl (by simp [Oper.semAt, execOp, go_sem]) ?_
      exact ⟨gs, IB, IS, J13, rfl⟩
    · obtain rfl : x4 = false := by simpa using hbi
      obtain rfl : x3 = true := hdep _ rfl ⟨3, .data⟩ (by simp) rfl
      have e0 := kcell IB.out E0.out
      refine wpOpIn_plain (v := Value.int IntKind.i64 (a)) (w' := w') rfl rfl (by simp [Oper.semAt, execOp, go_sem, e0]) ?_
      exact ⟨gs, IB, IS, J13, rfl⟩
    · obtain rfl : x5 = false := by simpa using hbi
      obtain rfl : x0 = true := hdep _ rfl ⟨0, .data⟩ (by simp) rfl
      obtain rfl : x4 = true := hdep _ rfl ⟨4, .data⟩ (by simp) rfl
      refine wpOpIn_plain (v := Value.int IntKind.i64 (p)) (w' := w') rfl rfl (sem_bin (vx := Value.int IntKind.i64 (x)) (vy := Value.int IntKind.i64 (a)) rfl rfl rfl rfl (EQ.out w')) ?_
      exact ⟨gs, IB, IS, J13, rfl⟩
    · obtain rfl : x6 = false := by simpa using hbi
      refine wpOpIn_plain rfl rfl rfl ?_
      exact ⟨gs, IB, IS, J13, rfl⟩
    · obtain rfl : x7 = false := by simpa using hbi
      refine wpOpIn_plain (v := Value.pointer (some ⟨w.heap.size, 1, none⟩)) (w' := w') rfl rfl (by simp [Oper.semAt, execOp, go_sem]) ?_
      exact ⟨gs, IB, IS, J13, rfl⟩
    · obtain rfl : x8 = false := by simpa using hbi
      obtain rfl : x7 = true := hdep _ rfl ⟨7, .data⟩ (by simp) rfl
      have c1 := kcell IB.out C1.out
      refine wpOpIn_plain (v := Value.slice (some ⟨g, o, none⟩) 2 sc) (w' := w') rfl rfl (by simp [Oper.semAt, execOp, go_sem, c1]) ?_
      exact ⟨gs, IB, IS, J13, rfl⟩
    · obtain rfl : x9 = false := by simpa using hbi
      obtain rfl : x8 = true := hdep _ rfl ⟨8, .data⟩ (by simp) rfl
      refine wpOpIn_plain (v := Value.pointer (some ⟨g, o, none⟩)) (w' := w') rfl rfl (by simp [Oper.semAt, execOp, go_sem]) ?_
      exact ⟨gs, IB, IS, J13, rfl⟩
    · obtain rfl : x10 = false := by simpa using hbi
      obtain rfl : x9 = true := hdep _ rfl ⟨9, .data⟩ (by simp) rfl
      have e0 := kcell IB.out E0.out
      refine wpOpIn_plain (v := Value.int IntKind.i64 (a)) (w' := w') rfl rfl (by simp [Oper.semAt, execOp, go_sem, e0]) ?_
      exact ⟨gs, IB, IS, J13, rfl⟩
    · obtain rfl : x11 = false := by simpa using hbi
      obtain rfl : x6 = true := hdep _ rfl ⟨6, .data⟩ (by simp) rfl
      obtain rfl : x10 = true := hdep _ rfl ⟨10, .data⟩ (by simp) rfl
      refine wpOpIn_plain (v := Value.int IntKind.i64 (q)) (w' := w') rfl rfl (sem_bin (vx := Value.int IntKind.i64 (x)) (vy := Value.int IntKind.i64 (a)) rfl rfl rfl rfl (ER.out w')) ?_
      exact ⟨gs, IB, IS, J13, rfl⟩
    · obtain rfl : x12 = false := by simpa using hbi
      obtain rfl : x5 = true := hdep _ rfl ⟨5, .data⟩ (by simp) rfl
      obtain rfl : x11 = true := hdep _ rfl ⟨11, .data⟩ (by simp) rfl
      obtain rfl : x13 = false := Bool.eq_false_iff.2 fun h => by have := J13.out h; cases this
      refine wpOpIn_plain (v := Value.slice (some ⟨w'.heap.size, 0, none⟩) 2 2) (w' := w'.alloc (.cells #[.int .i64 p, .int .i64 q] 3)) rfl rfl (by simp [Oper.semAt, execOp, go_sem]) ?_
      have hb9 : Below w'.heap.size w' (w'.alloc (.cells #[.int .i64 p, .int .i64 q] 3)) := (Below.refl _ _).alloc (Nat.le_refl _) _
      exact ⟨w'.heap.size, (IB.out.trans (hb9.mono IB.out.size)), (fun _ => ⟨Nat.le_trans HB1.out.size IB.out.size, RowAt.two p q⟩), (fun _ => rfl), rfl⟩
    · obtain rfl : x13 = false := by simpa using hbi
      obtain rfl : x12 = true := hdep _ rfl ⟨12, .data⟩ (by simp) rfl
      refine wpOpIn_plain rfl rfl rfl ?_
      exact ⟨gs, IB, IS, (fun _ => rfl), rfl⟩
    · obtain rfl : x14 = false := by simpa using hbi
      refine wpOpIn_plain rfl rfl rfl ?_
      exact ⟨gs, IB, IS, J13, rfl⟩
  case fin =>
  intro listed a' Z hs hall ⟨gs, IB, IS, J13, ha⟩
  obtain ⟨ls⟩ := listed
  match ls, hs with
  | [x0, x1, x2, x3, x4, x5, x6, x7, x8, x9, x10, x11, x12, x13, x14], _ =>
  obtain rfl : x0 = true := hall 0 (by simp)
  obtain rfl : x1 = true := hall 1 (by simp)
  obtain rfl : x2 = true := hall 2 (by simp)
  obtain rfl : x3 = true := hall 3 (by simp)
  obtain rfl : x4 = true := hall 4 (by simp)
  obtain rfl : x5 = true := hall 5 (by simp)
  obtain rfl : x6 = true := hall 6 (by simp)
  obtain rfl : x7 = true := hall 7 (by simp)
  obtain rfl : x8 = true := hall 8 (by simp)
  obtain rfl : x9 = true := hall 9 (by simp)
  obtain rfl : x10 = true := hall 10 (by simp)
  obtain rfl : x11 = true := hall 11 (by simp)
  obtain rfl : x12 = true := hall 12 (by simp)
  obtain rfl : x13 = true := hall 13 (by simp)
  obtain rfl : x14 = true := hall 14 (by simp)
  subst ha
  have HZ : Hid (Below w1.heap.size w1 Z) := IB
  have HS := Lib.hid (IS.out rfl)
  clear IB IS J13 hall hs EQ ER
  dsimp only [Exit.then, Exit.inBlock]
  go_wp2_with fail
  go_ret2
  exact ⟨gs, rfl, HS.out.1, HS.out.2, HB1.out.trans (HZ.out.mono HB1.out.size)⟩
theorem rPlace_any {w : World} {sa : Option Addr} {l : List Int} (h : Ints w sa l) (sc : Nat) (kind hosts x : Int) :
    Calls Try.prog 19 #[.agg #[.int .i64 kind, .slice sa l.length sc, .int .i64 hosts], .int .i64 x] w fun e w' => Below w.heap.size w w' ∧ ((plaE kind l hosts x ≠ 0 ∧ e = .returned (.tuple #[.slice none 0 0, .int .i64 (plaE kind l hosts x)])) ∨ (plaE kind l hosts x = 0 ∧ ∃ g, e = .returned (.tuple #[.slice (some ⟨g, 0, none⟩) (placeL kind l x).length (placeL kind l x).length, .int .i64 0]) ∧ w.heap.size ≤ g ∧ RowAt w' g (placeL kind l x))) := by
  by_cases hE : plaE kind l hosts x = 0
  · have h1 : vOk kind l hosts ∧ inB (swI kind l) [x] = true := by
      unfold plaE at hE
      by_cases hv : vOk kind l hosts
      · rw [if_pos hv] at hE
        by_cases hi : inB (swI kind l) [x] = true
        · exact ⟨hv, hi⟩
        · rw [if_neg hi] at hE; cases hE
      · rw [if_neg hv] at hE; cases hE
    obtain ⟨hv, hi⟩ := h1
    obtain ⟨v1, v2, v3, v4, v5, v6⟩ := v_bound hv
    obtain ⟨hx0, hx1⟩ : 0 ≤ x ∧ x ≤ swI kind l - 1 := by simpa [inB] using hi
    have hx2 : x ≤ 1000 := by omega
    rcases hv with ⟨rfl, ht⟩ | ⟨rfl, ht⟩ | ⟨rfl, ht⟩
    · exact (rPlace1_any h sc hosts x ht hE hx0 hx2).mono fun e w' ⟨g, a1, a2, a3, a4⟩ => ⟨a4, .inr ⟨hE, g, a1, a2, a3⟩⟩
    · exact (rPlace2_any h sc hosts x ht hE hx0 hx2).mono fun e w' ⟨g, a1, a2, a3, a4⟩ => ⟨a4, .inr ⟨hE, g, a1, a2, a3⟩⟩
    · exact (rPlace3_any h sc hosts x ht hE hx0 hx2).mono fun e w' ⟨g, a1, a2, a3, a4⟩ => ⟨a4, .inr ⟨hE, g, a1, a2, a3⟩⟩
  · exact (rPlace_bad h sc kind hosts x hE).mono fun e w' ⟨a1, a2⟩ => ⟨a2, .inl ⟨hE, a1⟩⟩
end Go.Proofs.Ytbhkenphcahifaa
