import Derived.Test.YtbhkenphcahifaaGreatNN
namespace Go.Proofs.YtbhkenphcahifaaGreat
open Go.RowKit Go.Shelf
attribute [local go_sem] Oper.semAt_some
set_option maxRecDepth 100000
set_option maxHeartbeats 4000000

theorem rCoords_any {w : World} {sa : Option Addr} {l : List Int} (h : Ints w sa l) (hp : ∀ s ∈ l, 1 ≤ s ∧ s ≤ 64) (sc : Nat) (kind hosts x : Int) (hx : 0 ≤ x) (hx2 : x ≤ 1000) :
    Calls Tryz.prog 62 #[.agg #[.int .i64 kind, .slice sa l.length sc, .int .i64 hosts], .int .i64 x] w fun e w' => ∃ g, e = .returned (.slice (some ⟨g, 0, none⟩) l.length l.length) ∧ w.heap.size ≤ g ∧ RowAt w' g (coordsL l x) ∧ Below w.heap.size w w' := by
  have hlen := h.len
  have HL := Lib.hid h
  have HP := Lib.hid hp
  obtain ⟨N, hN⟩ : ∃ N, N = l.length := ⟨_, rfl⟩
  have HN := Lib.hid hN
  rw [← hN] at hlen ⊢
  have HB := Lib.hid ((Below.refl w.heap.size w).alloc (Nat.le_refl _) (.cells #[.int .i64 kind, .slice sa N sc, .int .i64 hosts] 34))
  have Q0 := Lib.hid (heap_alloc_new w (.cells #[.int .i64 kind, .slice sa N sc, .int .i64 hosts] 34))
  have hz : (w.alloc (.cells #[.int .i64 kind, .slice sa N sc, .int .i64 hosts] 34)).heap.size = w.heap.size + 1 := by simp
  have c0 := cellR 0 Q0.out rfl
  have c1 := cellR 1 Q0.out rfl
  have c2 := cellR 2 Q0.out rfl
  have hmk := make_ints N hlen
  have HX := Lib.hid (And.intro hx hx2)
  have HCL : Hid (coordsL l x = (cfold l x ((List.range N).reverse.take N)).2) := by
    show _ = _
    unfold coordsL
    rw [List.take_of_length_le (by simp), ← hN]
  clear h hp hN hx hx2
  go_enter Tryz.func62, Tryz.ntmps62
  go_wp2_with fail
  generalize w.alloc (.cells #[.int .i64 kind, .slice sa N sc, .int .i64 hosts] 34) = X at *
  have hr0 : RowAt (X.alloc (.cells (rowA (List.replicate N 0)) 3)) X.heap.size (List.replicate N 0) := heap_alloc_new X _
  have hbX : Below X.heap.size X (X.alloc (.cells (rowA (List.replicate N 0)) 3)) := (Below.refl _ _).alloc (Nat.le_refl _) _
  rw [hz] at hr0 hbX
  have hwr : wrap64 ((N : Int) - 1) = (N : Int) - 1 := by unfold wrap64; omega
  try rw [hwr]
  try rw [hz]
  clear hmk c0 c1 c2
  generalize X.alloc (.cells (rowA (List.replicate N 0)) 3) = Y at *
  go_loopw [1, 6] (fun xv i wr => ∃ (m : Nat), m ≤ N ∧ i = .int .i64 ((N : Int) - 1 - m) ∧ xv = .int .i64 (cfold l x ((List.range N).reverse.take m)).1 ∧ 0 ≤ (cfold l x ((List.range N).reverse.take m)).1 ∧ (cfold l x ((List.range N).reverse.take m)).1 ≤ 1000 ∧ RowAt wr (w.heap.size + 1) (cfold l x ((List.range N).reverse.take m)).2 ∧ Below (w.heap.size + 1) X wr) (fun _ i _ => (intOf i + 1).toNat)
  case atStart =>
    refine ⟨0, Nat.zero_le _, by simp, rfl, HX.out.1, HX.out.2, ?_, hbX⟩
    have : (cfold l x ((List.range N).reverse.take 0)).2 = List.replicate N 0 := by rw [HN.out]; rfl
    rw [this]; exact hr0
  case round =>
    obtain ⟨m, hm, rfl, rfl, hs0, hs1, hR, hbr⟩ := hrel
    have HBR := Lib.hid hbr
    by_cases hlt : m < N
    · obtain ⟨j, hj⟩ : ∃ j : Nat, N = m + 1 + j := ⟨N - m - 1, by omega⟩
      have hi : (N : Int) - 1 - m = (j : Int) := by omega
      rw [hi]
      have hk1 : j < l.length := by rw [← HN.out]; omega
      have HS : Hid (cfold l x ((List.range N).reverse.take (m + 1)) = cstep l (cfold l x ((List.range N).reverse.take m)) j) := by
        show _ = _
        rw [List.take_succ_eq_append_getElem (by simpa using hlt), cfold_snoc]
        congr 1
        simp only [List.getElem_reverse, List.getElem_range, List.length_range]
        omega
      have HLN : Hid ((cfold l x ((List.range N).reverse.take m)).2.length = N) := by show _ = _; rw [cfold_len, HN.out]
      obtain ⟨g, o, rfl, hc⟩ := (HL.out.keep (HB.out.trans (hbr.mono (by omega)))).at_ (ne_nil_of_lt hk1)
      have e0 := hc j hk1
      have hgl : g < w.heap.size := by
        obtain ⟨g', o', e', hc'⟩ := HL.out.at_ (ne_nil_of_lt hk1)
        cases e'
        exact block_lt_of_cell (hc' 0 (by omega))
      have hgn : g ≠ w.heap.size + 1 := by omega
      have HC : Hid (cstep l (cfold l x ((List.range N).reverse.take m)) j = ((cfold l x ((List.range N).reverse.take m)).1 / l[j], (cfold l x ((List.range N).reverse.take m)).2.set j ((cfold l x ((List.range N).reverse.take m)).1 % l[j]))) := by
        show _ = _
        unfold cstep
        simp [List.getD, hk1]
      obtain ⟨s1, s2⟩ := HP.out (l[j]) (List.getElem_mem hk1)
      generalize l[j] = sz at *
      generalize cfold l x ((List.range N).reverse.take m) = st at *
      obtain ⟨sr, sl⟩ := st
      dsimp only at *
      have q1 := (hbr.block _ (show w.heap.size < w.heap.size + 1 by omega)).trans Q0.out
      have c1 := cellR 1 q1 rfl
      have t1 := hR.open_ j
      obtain ⟨v0, t0⟩ : ∃ v0, wr.cell? ⟨w.heap.size + 1, j, none⟩ = some (.int .i64 v0) := ⟨_, hR.cell j (by rw [HLN.out]; omega)⟩
      have tl := hR.lt
      have hszr := hbr.size
      have hsz0 : sz ≠ 0 := by omega
      have hmod : sr.tmod sz = sr % sz := Int.tmod_eq_emod_of_nonneg hs0
      have hdle : sr / sz ≤ sr := Int.ediv_le_self _ hs0
      have hdnn : 0 ≤ sr / sz := Int.ediv_nonneg hs0 (by omega)
      have hdiv : wrap64 (sr.tdiv sz) = sr / sz := by
        rw [Int.tdiv_eq_ediv_of_nonneg hs0]; unfold wrap64; omega
      have hne : wrap64 ((j : Int) - 1) = (j : Int) - 1 := by unfold wrap64; omega
      have HR := Lib.hid hR
      have HNJ := Lib.hid hj
      clear hc hk1 q1 hR hbr hi hj
      have hjN : j < N := by have := HNJ.out; omega
      go_wp2_with fail
      go_roundw
      case rel =>
        have HF : cfold l x ((List.range N).reverse.take (m + 1)) = (sr / sz, sl.set j (sr % sz)) := by rw [HS.out, HC.out]
        refine ⟨m + 1, by omega, ?_, ?_, ?_, ?_, ?_, ?_⟩
        · first | (congr 1; omega) | (have := HNJ.out; show Value.int .i64 _ = Value.int .i64 _; congr 1; omega)
        · rw [HF]
        · rw [HF]; exact hdnn
        · rw [HF]; exact Int.le_trans hdle hs1
        · rw [HF]; exact HR.out.set j _
        · exact HBR.out.setCell (Nat.le_refl _) _
      case measure => simp [intOf]
    · have hmn : m = N := by omega
      subst hmn
      have hneg : decide (0 ≤ (m : Int) - 1 - m) = false := decide_eq_false (by omega)
      go_wp2_with fail
      go_ret
      exact ⟨w.heap.size + 1, rfl, Nat.le_succ _, by rw [HCL.out]; exact hR, HB.out.trans (HBR.out.mono (by omega))⟩
end Go.Proofs.YtbhkenphcahifaaGreat
