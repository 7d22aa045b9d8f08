import Derived.Test.YtbhkenphcahifaaGreatNF
namespace Go.Proofs.YtbhkenphcahifaaGreat
open Go.RowKit Go.Shelf
attribute [local go_sem] Oper.semAt_some

set_option maxHeartbeats 400000 in
theorem backward_any {w : World} (ex : Nat → Prop) (hx : ¬ ex w.heap.size) (a : Option Addr) (l : List Int) (cap : Nat) (h : Ints w a l) (hax : ∀ g off, a = some ⟨g, off, none⟩ → l ≠ [] → ¬ ex g) :
    Calls Tryz.prog 150 #[.slice a l.length cap] w fun e w' => ∃ lb, e = .returned (.func (.func 159) #[] lb) ∧ Below w.heap.size w w' ∧ BIter l lb ex w' := by
  have HE := Lib.hid h
  have HX := Lib.hid hax
  clear h hax
  go_enter Tryz.func150, Tryz.ntmps150
  go_wp2_with fail
  go_ret
  have hb : Below w.heap.size w (w.alloc (.cells #[.slice a l.length cap] 22)) := (Below.refl _ _).alloc (Nat.le_refl _) _
  exact ⟨_, rfl, hb, backIter _ ex hx a l cap (HE.out.keep hb) HX.out (by simp)⟩

theorem own_blk {β : Type} (B b : Nat) (o : β → Obj) (ho : ∀ s, (o s).isCells = true) : OwnFrom B (fun (s : β) W => W.heap[b]? = some (o s)) := fun s X Y row hs hg hr => by
  refine (hg.block b (Array.getElem?_eq_some_iff.1 hs).1 (fun e => ?_)).trans hs
  obtain ⟨_, o', ho', hc⟩ := hr b e.symm
  rw [hs] at ho'; cases ho'
  rw [ho s] at hc; cases hc

/-- one coordinate -/
def cstep (sizes : List Int) (st : Int × List Int) (i : Nat) : Int × List Int := (st.1 / sizes.getD i 0, st.2.set i (st.1 % sizes.getD i 0))
def cfold (sizes : List Int) (r : Int) (l : List Nat) : Int × List Int := l.foldl (cstep sizes) (r, List.replicate sizes.length 0)
def coordsL (sizes : List Int) (r : Int) : List Int := (cfold sizes r (List.range sizes.length).reverse).2

theorem cfold_snoc (sizes : List Int) (r : Int) (l : List Nat) (i : Nat) : cfold sizes r (l ++ [i]) = cstep sizes (cfold sizes r l) i := by simp [cfold]
theorem cfold_len (sizes : List Int) (r : Int) (l : List Nat) : (cfold sizes r l).2.length = sizes.length := by
  unfold cfold
  have : ∀ (l : List Nat) (st : Int × List Int), (l.foldl (cstep sizes) st).2.length = st.2.length := by
    intro l
    induction l with
    | nil => intro st; rfl
    | cons x l ih => intro st; rw [List.foldl_cons, ih]; simp [cstep]
  rw [this]; simp

/-- a boxed integer -/
def BoxI (w : World) (b : Nat) (v : Int) : Prop := w.heap[b]? = some (.cells #[.int .i64 v] 3 (0, 0))
theorem BoxI.cell {w : World} {b : Nat} {v : Int} (h : BoxI w b v) : w.cell? ⟨b, 0, none⟩ = some (.int .i64 v) ∧ w.frozen? ⟨b, 0, none⟩ = false := by
  unfold BoxI at h
  simp [World.cell?, World.frozen?, h]
theorem BoxI.lt {w : World} {b : Nat} {v : Int} (h : BoxI w b v) : b < w.heap.size := (Array.getElem?_eq_some_iff.1 h).1
theorem BoxI.set {w : World} {b : Nat} {v : Int} (h : BoxI w b v) (u : Int) : BoxI (w.setCell ⟨b, 0, none⟩ (.int .i64 u)) b u := by
  unfold BoxI; rw [heap_setCell_same w b 0 _ 3 _ h]; rfl

set_option maxRecDepth 100000 in
set_option maxHeartbeats 4000000 in
theorem coords_any {w : World} {sa : Option Addr} {sizes : List Int} (h : Ints w sa sizes) (hp : ∀ s ∈ sizes, 1 ≤ s ∧ s ≤ 64) (sc : Nat) (mm : Int) (r : Int) (hr : 0 ≤ r) (hr2 : r ≤ 1000) :
    Calls Tryz.prog 141 #[.agg #[.slice sa sizes.length sc, .int .i64 mm], .int .i64 r] w fun e w' => ∃ b, e = .returned (.slice (some ⟨b, 0, none⟩) sizes.length sizes.length) ∧ w.heap.size ≤ b ∧ RowAt w' b (coordsL sizes r) ∧ Below w.heap.size w w' := by
  have hlen := h.len
  have hmk := make_ints sizes.length hlen
  have HP := Lib.hid hp
  have HE := Lib.hid h
  clear h hp
  refine (callsIn_wide (n := 3)).1 ?_
  refine callsIn_of_wp_marks Tryz.func141 rfl trivial ?_ rfl
  simp only [Tryz.ntmps141, List.size_toArray, List.length_cons, List.length_nil, Nat.reduceAdd, Nat.reduceSub, Array.replicate_succ, Array.replicate_zero, List.push_toArray, List.append_toArray, List.nil_append, List.cons_append]
  gi_wp2
  refine ⟨trivial, ?_⟩
  clear hmk
  have hb0 : Below w.heap.size w ((((w.alloc (.cells #[.slice sa sizes.length sc, .int .i64 mm] 138)).alloc (.cells #[.int .i64 r] 3)).alloc (.cells (rowA (List.replicate sizes.length 0)) 3)).alloc (.cells #[.slice (some ⟨w.heap.size + 1 + 1, 0, none⟩) sizes.length sizes.length] 22)) :=
    ((((Below.refl _ _).alloc (Nat.le_refl _) _).alloc (by simp) _).alloc (by simp; omega) _).alloc (by simp; omega) _
  have q0 : BoxI ((((w.alloc (.cells #[.slice sa sizes.length sc, .int .i64 mm] 138)).alloc (.cells #[.int .i64 r] 3)).alloc (.cells (rowA (List.replicate sizes.length 0)) 3)).alloc (.cells #[.slice (some ⟨w.heap.size + 1 + 1, 0, none⟩) sizes.length sizes.length] 22)) (w.heap.size + 1) r := by
    unfold BoxI
    rw [Below.heap_alloc _ _ _ (by simp), Below.heap_alloc _ _ _ (by simp)]
    have := World.alloc_heap_new (w.alloc (.cells #[.slice sa sizes.length sc, .int .i64 mm] 138)) (.cells #[.int .i64 r] 3)
    simpa using this
  have q1 : RowAt ((((w.alloc (.cells #[.slice sa sizes.length sc, .int .i64 mm] 138)).alloc (.cells #[.int .i64 r] 3)).alloc (.cells (rowA (List.replicate sizes.length 0)) 3)).alloc (.cells #[.slice (some ⟨w.heap.size + 1 + 1, 0, none⟩) sizes.length sizes.length] 22)) (w.heap.size + 2) (List.replicate sizes.length 0) := by
    unfold RowAt
    rw [Below.heap_alloc _ _ _ (by simp)]
    have := World.alloc_heap_new ((w.alloc (.cells #[.slice sa sizes.length sc, .int .i64 mm] 138)).alloc (.cells #[.int .i64 r] 3)) (.cells (rowA (List.replicate sizes.length 0)) 3)
    simpa using this
  have q2 : ((((w.alloc (.cells #[.slice sa sizes.length sc, .int .i64 mm] 138)).alloc (.cells #[.int .i64 r] 3)).alloc (.cells (rowA (List.replicate sizes.length 0)) 3)).alloc (.cells #[.slice (some ⟨w.heap.size + 1 + 1, 0, none⟩) sizes.length sizes.length] 22)).heap[w.heap.size + 3]? = some (.cells #[.slice (some ⟨w.heap.size + 2, 0, none⟩) sizes.length sizes.length] 22 (0, 0)) := by
    have := World.alloc_heap_new (((w.alloc (.cells #[.slice sa sizes.length sc, .int .i64 mm] 138)).alloc (.cells #[.int .i64 r] 3)).alloc (.cells (rowA (List.replicate sizes.length 0)) 3)) (.cells #[.slice (some ⟨w.heap.size + 1 + 1, 0, none⟩) sizes.length sizes.length] 22)
    simpa using this
  have q3 : w.heap.size + 4 = ((((w.alloc (.cells #[.slice sa sizes.length sc, .int .i64 mm] 138)).alloc (.cells #[.int .i64 r] 3)).alloc (.cells (rowA (List.replicate sizes.length 0)) 3)).alloc (.cells #[.slice (some ⟨w.heap.size + 1 + 1, 0, none⟩) sizes.length sizes.length] 22)).heap.size := by simp
  generalize ((((w.alloc (.cells #[.slice sa sizes.length sc, .int .i64 mm] 138)).alloc (.cells #[.int .i64 r] 3)).alloc (.cells (rowA (List.replicate sizes.length 0)) 3)).alloc (.cells #[.slice (some ⟨w.heap.size + 1 + 1, 0, none⟩) sizes.length sizes.length] 22)) = W0 at *
  have hsa : ∀ g off, sa = some ⟨g, off, none⟩ → sizes ≠ [] → ¬ (g = w.heap.size + 1 ∨ g = w.heap.size + 2) := by
    intro g off e hne
    obtain ⟨g', off', e', hc⟩ := HE.out.at_ hne
    rw [e] at e'; cases e'
    have := block_lt_of_cell (hc 0 (by cases sizes with | nil => exact absurd rfl hne | cons x l => simp))
    simp only at this
    omega
  refine (callsIn_wide.2 (backward_any (fun k => k = w.heap.size + 1 ∨ k = w.heap.size + 2) (by omega) sa sizes sc (HE.out.keep hb0) hsa)).mono ?_
  rintro e w1 ⟨lb, rfl, hb1, hit⟩
  clear hsa
  gi_wp2
  have hz1 := hb1.size
  have hx0 : 0 < Fence.wide.depth.isSome.toNat + 1 := by omega
  clear hx0
  refine wpIn_rangeFunc_ownH rfl (by omega) (gf := 159) (lb := lb) rfl trivial hit.1 (hit.2 _) (fun h k => h.trans k) (fun W l o o' h1 h2 h3 h4 => KeepP.putObj W l o o' h2 h3) (Below.refl _ _) (fun _ => rfl)
    (fun pre W => BoxI W (w.heap.size + 1) (cfold sizes r (pre.map (·.1))).1 ∧ RowAt W (w.heap.size + 2) (cfold sizes r (pre.map (·.1))).2 ∧ W.heap[w.heap.size + 3]? = some (.cells #[.slice (some ⟨w.heap.size + 2, 0, none⟩) sizes.length sizes.length] 22 (0, 0)) ∧ Below w.heap.size w W ∧ 0 ≤ (cfold sizes r (pre.map (·.1))).1 ∧ (cfold sizes r (pre.map (·.1))).1 ≤ 1000)
    (fun c pre W => False)
    ?hI ?hIx ?h0 (fun x a' _ => a' = ⟨#[Value.agg #[Value.slice sa sizes.length sc, Value.int IntKind.i64 mm], Value.int IntKind.i64 r,
          Value.pointer (some { block := w.heap.size, off := 0 }),
          Value.pointer (some { block := w.heap.size + 1, off := 0 }), Value.slice none 0 0,
          Value.pointer (some { block := w.heap.size + 1 + 1 + 1, off := 0 }), .int .i64 (x.1 : Int), .int .i64 (sizes.getD x.1 0),
          Value.pointer (some { block := w.heap.size, off := 0 }), Value.slice sa sizes.length sc,
          Value.int IntKind.i64 ↑sizes.length,
          Value.slice (some { block := w.heap.size + 1 + 1, off := 0 }) sizes.length sizes.length,
          Value.pointer (some { block := w.heap.size, off := 0 }), Value.slice sa sizes.length sc,
          Value.func (Fn.func 159) #[] lb, .int .i64 (x.1 : Int), .int .i64 (sizes.getD x.1 0), undef, undef, undef, undef, undef, undef, undef, undef, undef,
          undef], []⟩) ?hAx ?assign ?body ?done ?stop
  case hI => exact OwnFrom.and (own_blk _ _ _ (fun _ => rfl)) (OwnFrom.and (own_blk _ _ _ (fun _ => rfl)) (OwnFrom.and (own_blk _ _ _ (fun _ => rfl)) (OwnFrom.and (ownFrom_below (by omega) (by omega)) (ownFrom_pure _ _))))
  case hIx => exact fun c => ownFrom_pure _ _
  case h0 => exact ⟨(hb1.block _ (by omega)).trans q0, (hb1.block _ (by omega)).trans q1, (hb1.block _ (by omega)).trans q2, hb0.trans (hb1.mono (by omega)), hr, hr2⟩
  case hAx => exact fun x a' => ownFrom_pure _ _
  case assign =>
    rintro ll pre x W K hI hK
    gi_wp2
    exact hK _ _ (KeepsFrom.refl _ _) (KeepP.refl _ _) hI (by simp)
  case body =>
    rintro ll pre x a' W hl ⟨rr, hrr⟩ ⟨hB, hR, hS, hbW, hpos, hpo2⟩ rfl hlt
    have hx := x.2
    obtain ⟨s1, s2⟩ := HP.out (sizes[x.1]) (List.getElem_mem hx)
    have e1 : sizes.getD x.1 0 = sizes[x.1] := by simp [List.getD, hx]
    rw [e1]
    have HF : Hid (cfold sizes r ((pre ++ [x]).map (·.1)) = cstep sizes (cfold sizes r (pre.map (·.1))) x.1) := by show _ = _; rw [List.map_append]; exact cfold_snoc _ _ _ _
    have HL : Hid ((cfold sizes r (pre.map (·.1))).2.length = sizes.length) := cfold_len _ _ _
    have HC : Hid (cstep sizes (cfold sizes r (pre.map (·.1))) x.1 = ((cfold sizes r (pre.map (·.1))).1 / sizes[x.1], (cfold sizes r (pre.map (·.1))).2.set x.1 ((cfold sizes r (pre.map (·.1))).1 % sizes[x.1]))) := by show _ = _; unfold cstep; rw [e1]
    clear hrr e1
    generalize cfold sizes r (pre.map (·.1)) = st at *
    obtain ⟨sr, sl⟩ := st
    dsimp only at *
    obtain ⟨u0, u1⟩ := hB.cell
    have v0 : W.cell? ⟨w.heap.size + 1 + 1 + 1, 0, none⟩ = some (.slice (some ⟨w.heap.size + 2, 0, none⟩) sizes.length sizes.length) := by
      rw [cell_of_row W _ 0 _ _ _ hS]; rfl
    have t0 := hR.cell x.1 (by rw [HL.out]; exact hx)
    have t1 := hR.open_ x.1
    have tl := hR.lt
    generalize sizes[x.1] = sz at *
    have hsz0 : sz ≠ 0 := by omega
    have hmod : sr.tmod sz = sr % sz := Int.tmod_eq_emod_of_nonneg hpos
    have hdle : sr / sz ≤ sr := Int.ediv_le_self _ hpos
    have hdnn : 0 ≤ sr / sz := Int.ediv_nonneg hpos (by omega)
    have hdiv : wrap64 (sr.tdiv sz) = sr / sz := by
      rw [Int.tdiv_eq_ediv_of_nonneg hpos]; unfold wrap64; omega
    gi_wp2
    refine region_det (by kernel_rfl) (I := fun listed a' w' => ((listed.getD 4 false = true → listed.getD 2 false = true) ∧ (listed.getD 4 false = true → listed.getD 3 false = true) ∧ (listed.getD 5 false = true → listed.getD 0 false = true) ∧ (listed.getD 5 false = true → listed.getD 1 false = true) ∧ (listed.getD 6 false = true → listed.getD 0 false = true) ∧ (listed.getD 6 false = true → listed.getD 1 false = true) ∧ (listed.getD 6 false = true → listed.getD 2 false = true) ∧ (listed.getD 6 false = true → listed.getD 3 false = true) ∧ (listed.getD 6 false = true → listed.getD 4 false = true) ∧ (listed.getD 6 false = true → listed.getD 5 false = true)) ∧ w' = (if listed.getD 6 false = true then W.drew.setCell ⟨w.heap.size + 2, x.1, none⟩ (.int .i64 (sr % sz)) else W.drew) ∧ a' = ⟨#[Value.agg #[Value.slice sa sizes.length sc, Value.int IntKind.i64 mm], Value.int IntKind.i64 r, Value.pointer (some { block := w.heap.size, off := 0 }), Value.pointer (some { block := w.heap.size + 1, off := 0 }), Value.slice none 0 0, Value.pointer (some { block := w.heap.size + 1 + 1 + 1, off := 0 }), Value.int IntKind.i64 (x.1 : Int), Value.int IntKind.i64 sz, Value.pointer (some { block := w.heap.size, off := 0 }), Value.slice sa sizes.length sc, Value.int IntKind.i64 ↑sizes.length, Value.slice (some { block := w.heap.size + 1 + 1, off := 0 }) sizes.length sizes.length, Value.pointer (some { block := w.heap.size, off := 0 }), Value.slice sa sizes.length sc, Value.func (Fn.func 159) #[] lb, Value.int IntKind.i64 (x.1 : Int), Value.int IntKind.i64 sz, if listed.getD 0 false = true then .slice (some ⟨w.heap.size + 2, 0, none⟩) sizes.length sizes.length else undef, if listed.getD 1 false = true then .int .i64 (x.1 : Int) else undef, if listed.getD 2 false = true then .int .i64 sr else undef, if listed.getD 3 false = true then .int .i64 sz else undef, if listed.getD 4 false = true then .int .i64 (sr % sz) else undef, if listed.getD 5 false = true then .pointer (some ⟨w.heap.size + 2, x.1, none⟩) else undef, undef, undef, undef, undef], []⟩) (hup_check (by kernel_rfl)) ?h0 ?step ?fin
    case h0 => exact ⟨by simp, rfl, rfl⟩
    case step =>
      intro listed a' w' i hs hbi hdep hi ⟨hinv, hW, ha⟩
      obtain ⟨ls⟩ := listed
      match ls, hs with
      | [b0, b1, b2, b3, b4, b5, b6], _ =>
      subst ha
      have hi' : i = 0 ∨ i = 1 ∨ i = 2 ∨ i = 3 ∨ i = 4 ∨ i = 5 ∨ i = 6 := by simp at hi; omega
      simp only [Array.getD_eq_getD_getElem?, List.getElem?_toArray, List.getElem?_cons_zero, List.getElem?_cons_succ, Option.getD_some] at hinv hW hbi
      rcases hi' with rfl | rfl | rfl | rfl | rfl | rfl | rfl
      · obtain rfl : b0 = false := by simpa using hbi
        obtain rfl : b6 = false := by cases b6 <;> simp_all
        simp only [Bool.false_eq_true, if_false] at hW
        subst hW
        clear hdep hbi hi
        refine wpOpIn_step rfl (fun K' hK => ?_)
        rw [if_pos (by rfl)]
        refine wpInF_plain (fun _ _ => trivial) (v := .slice (some ⟨w.heap.size + 2, 0, none⟩) sizes.length sizes.length) (w' := W.drew) ?_ ?_
        · go_simp
        · exact hK _ _ ⟨by simp_all, by simp, by first | rfl | simp⟩
      · obtain rfl : b1 = false := by simpa using hbi
        obtain rfl : b6 = false := by cases b6 <;> simp_all
        simp only [Bool.false_eq_true, if_false] at hW
        subst hW
        clear hdep hbi hi
        refine wpOpIn_step rfl (fun K' hK => ?_)
        rw [if_pos (by rfl)]
        refine wpInF_plain (fun _ _ => trivial) (v := .int .i64 (x.1 : Int)) (w' := W.drew) ?_ ?_
        · go_simp
        · exact hK _ _ ⟨by simp_all, by simp, by first | rfl | simp⟩
      · obtain rfl : b2 = false := by simpa using hbi
        obtain rfl : b6 = false := by cases b6 <;> simp_all
        simp only [Bool.false_eq_true, if_false] at hW
        subst hW
        clear hdep hbi hi
        refine wpOpIn_step rfl (fun K' hK => ?_)
        rw [if_pos (by rfl)]
        refine wpInF_plain (fun _ _ => trivial) (v := .int .i64 sr) (w' := W.drew) ?_ ?_
        · go_simp
        · exact hK _ _ ⟨by simp_all, by simp, by first | rfl | simp⟩
      · obtain rfl : b3 = false := by simpa using hbi
        obtain rfl : b6 = false := by cases b6 <;> simp_all
        simp only [Bool.false_eq_true, if_false] at hW
        subst hW
        clear hdep hbi hi
        refine wpOpIn_step rfl (fun K' hK => ?_)
        rw [if_pos (by rfl)]
        refine wpInF_plain (fun _ _ => trivial) (v := .int .i64 sz) (w' := W.drew) ?_ ?_
        · go_simp
        · exact hK _ _ ⟨by simp_all, by simp, by first | rfl | simp⟩
      · obtain rfl : b4 = false := by simpa using hbi
        obtain rfl : b2 = true := hdep _ rfl ⟨2, .data⟩ (by simp) rfl
        obtain rfl : b3 = true := hdep _ rfl ⟨3, .data⟩ (by simp) rfl
        obtain rfl : b6 = false := by cases b6 <;> simp_all
        simp only [Bool.false_eq_true, if_false] at hW
        subst hW
        clear hdep hbi hi
        refine wpOpIn_step rfl (fun K' hK => ?_)
        rw [if_pos (by rfl)]
        refine wpInF_plain (fun _ _ => trivial) (v := .int .i64 (sr % sz)) (w' := W.drew) ?_ ?_
        · go_simp
        · exact hK _ _ ⟨by simp_all, by simp, by first | rfl | simp⟩
      · obtain rfl : b5 = false := by simpa using hbi
        obtain rfl : b0 = true := hdep _ rfl ⟨0, .data⟩ (by simp) rfl
        obtain rfl : b1 = true := hdep _ rfl ⟨1, .data⟩ (by simp) rfl
        obtain rfl : b6 = false := by cases b6 <;> simp_all
        simp only [Bool.false_eq_true, if_false] at hW
        subst hW
        clear hdep hbi hi
        refine wpOpIn_step rfl (fun K' hK => ?_)
        rw [if_pos (by rfl)]
        refine wpInF_plain (fun _ _ => trivial) (v := .pointer (some ⟨w.heap.size + 2, x.1, none⟩)) (w' := W.drew) ?_ ?_
        · go_simp
        · exact hK _ _ ⟨by simp_all, by simp, by first | rfl | simp⟩
      · obtain rfl : b6 = false := by simpa using hbi
        obtain rfl : b5 = true := hdep _ rfl ⟨5, .data⟩ (by simp) rfl
        obtain rfl : b4 = true := hdep _ rfl ⟨4, .data⟩ (by simp) rfl
        simp only [Bool.false_eq_true, if_false] at hW
        subst hW
        clear hdep hbi hi
        refine wpOpIn_step rfl (fun K' hK => ?_)
        rw [if_pos (by rfl)]
        refine wpInF_skip (fun _ _ => trivial) (w' := W.drew.setCell ⟨w.heap.size + 2, x.1, none⟩ (.int .i64 (sr % sz))) ?_ ?_
        · go_simp
        · exact hK _ _ ⟨by simp_all, by simp, by first | rfl | simp⟩
    case fin =>
      intro listed a' w' hs hall ⟨_, hW, ha⟩
      obtain ⟨ls⟩ := listed
      match ls, hs with
      | [b0, b1, b2, b3, b4, b5, b6], _ =>
      obtain rfl : b0 = true := hall 0 (by simp)
      obtain rfl : b1 = true := hall 1 (by simp)
      obtain rfl : b2 = true := hall 2 (by simp)
      obtain rfl : b3 = true := hall 3 (by simp)
      obtain rfl : b4 = true := hall 4 (by simp)
      obtain rfl : b5 = true := hall 5 (by simp)
      obtain rfl : b6 = true := hall 6 (by simp)
      clear hall hs
      simp only [Array.getD_eq_getD_getElem?, List.getElem?_toArray, List.getElem?_cons_zero, List.getElem?_cons_succ, Option.getD_some, if_true] at hW ha
      subst ha
      subst hW
      have B1 : BoxI (W.drew.setCell ⟨w.heap.size + 2, x.1, none⟩ (.int .i64 (sr % sz))) (w.heap.size + 1) sr := by unfold BoxI; rw [heap_setCell_other _ _ _ _ (by simp)]; exact hB
      have R1 : RowAt (W.drew.setCell ⟨w.heap.size + 2, x.1, none⟩ (.int .i64 (sr % sz))) (w.heap.size + 2) (sl.set x.1 (sr % sz)) := RowAt.set (w := W.drew) hR x.1 (sr % sz)
      have S1 : (W.drew.setCell ⟨w.heap.size + 2, x.1, none⟩ (.int .i64 (sr % sz))).heap[w.heap.size + 3]? = some (.cells #[.slice (some ⟨w.heap.size + 2, 0, none⟩) sizes.length sizes.length] 22 (0, 0)) := by rw [heap_setCell_other _ _ _ _ (by simp)]; exact hS
      have hb2 : Below w.heap.size w (W.drew.setCell ⟨w.heap.size + 2, x.1, none⟩ (.int .i64 (sr % sz))) := hbW.drew.setCell (by simp) _
      have K1 : KeepsOthers W (W.drew.setCell ⟨w.heap.size + 2, x.1, none⟩ (.int .i64 (sr % sz))) := (KeepsOthers.drew W).trans (KeepsOthers.setCell _ _ _)
      have K2 : KeepP (fun k => k = w.heap.size + 1 ∨ k = w.heap.size + 2) W (W.drew.setCell ⟨w.heap.size + 2, x.1, none⟩ (.int .i64 (sr % sz))) := (KeepP.refl _ _).drew.setCell _ _ (.inr rfl) _
      obtain ⟨u0, u1⟩ := B1.cell
      have ul := hB.lt
      have HS1 := Lib.hid S1
      clear v0 t0 t1 hS S1
      generalize W.drew.setCell ⟨w.heap.size + 2, x.1, none⟩ (.int .i64 (sr % sz)) = V at *
      gi_wp2
      refine ⟨(K1.trans (KeepsOthers.setCell _ _ _)).from _, K2.setCell _ _ (.inl rfl) _, ?_⟩
      dsimp only
      rw [HF.out, HC.out]
      try rw [hdiv]
      refine ⟨B1.set _, R1.set_other _ _ _ (by omega), ?_, hb2.setCell (by simp) _, hdnn, by omega⟩
      rw [heap_setCell_other _ _ _ _ (by simp)]; exact HS1.out
  case done =>
    rintro D xs W hD hxs ⟨hB, hR, hS, hbW, hpos, _⟩ hdf
    rw [hxs] at hR
    have v0 : W.cell? ⟨w.heap.size + 1 + 1 + 1, 0, none⟩ = some (.slice (some ⟨w.heap.size + 2, 0, none⟩) sizes.length sizes.length) := by
      rw [cell_of_row W _ 0 _ _ _ hS]; rfl
    clear hS hB hpos
    gi_wp2
    refine ⟨by simp, .inl ⟨_, _, rfl, run_takeDeferred hdf, ?_⟩⟩
    refine ⟨.slice (some ⟨w.heap.size + 2, 0, none⟩) sizes.length sizes.length, ?_, w.heap.size + 2, rfl, by omega, ?_, hbW.trans ⟨rfl, rfl, rfl, by simp [World.putObj], fun k hk => World.putObj_heap_other (by omega)⟩⟩
    · simp [results, Tryz.results141, go_sem]
    · unfold RowAt; rw [World.putObj_heap_other (by omega)]; exact hR
  case stop => exact fun D c pre W hD hpre h => h.elim
end Go.Proofs.YtbhkenphcahifaaGreat
