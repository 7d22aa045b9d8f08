import Derived.Test.YtbhkenphcahifaaGreatQSA
import Derived.Test.YtbhkenphcahifaaGreatProg
import Derived.WalkKit
import Derived.WalkSpells
import Derived.LoopTactic
import Derived.Lib.Hide
import Derived.BigQuiet
import Derived.Deep.QuietTactic
import Derived.Shelf.Abstract
import Derived.Lib.AppendZeros
import Derived.Laws.AppendOwnNone
import Derived.RangeFuncNested
import Derived.RangeFuncBound
import Derived.RangeFuncCalls
import Derived.RangeFuncLeaves
import Derived.RangeFuncOne
import Derived.Shelf.RegionOpen
import Derived.OwnWalkIn
import Derived.TacticsInMore
import Derived.LoopNIn
import Derived.LoopIn
import Derived.Test.YtbhkenphcahifaaGreatRows
import Derived.ProofKit
import Derived.OpenShut
import Derived.Carry
import Derived.SizedLaws
import Derived.OrdersIn
import Derived.Laws.Rows
import Derived.Laws.Tables
import Derived.Deep.AppendLies
import Derived.Laws.StructEq
import Derived.ChangeKeysEq
import Derived.Shelf.Small.Bits
import Derived.Shelf.Small.Wraps
import Derived.Shelf.Strconv.Itoa0
import Derived.Shelf.Sort.Plain
import Derived.Shelf.Bits.Mul64
import Derived.Ground.Names2Prog
import Derived.Shelf.Slices.CompactI
import Derived.Shelf.Slices.SearchI
import Derived.Shelf.Slices.Cells
import Derived.Shelf.Slices.In.SortNone
import Derived.Lib.OwnBridge
import Derived.Sort.OwnSortedInts
import Derived.BigRegion
import Init
import Derived.Deep.Grids
namespace Go.Proofs.YtbhkenphcahifaaGreat
open Go.RowKit Go.Shelf
attribute [local go_sem] Oper.semAt_some
set_option maxRecDepth 100000
set_option maxHeartbeats 4000000
theorem rCoords_any {w : World} {sa : Option Addr} {l : List Int} (h : Ints w sa l) (hp : ∀ s ∈ l, 1 ≤ s ∧ s ≤ 64) (sc : Nat) (kind hosts x : Int) (hx : 0 ≤ x) (hx2 : x ≤ 1000) :
    Calls Tryz.prog 62 #[.agg #[.int .i64 kind, .slice sa l.length sc, .int .i64 hosts], .int .i64 x] w fun e w' => ∃ g, e = .returned (.slice (some ⟨g, 0, none⟩) l.length l.length) ∧ w.heap.size ≤ g ∧ RowAt w' g (coordsL l x) ∧ Below w.heap.size w w' := by
  have hlen := h.len
  have HL := Lib.hid h
  have HP := Lib.hid hp
  obtain ⟨N, hN⟩ : ∃ N, N = l.length := ⟨_, rfl⟩
  have HN := Lib.hid hN
  rw [← hN] at hlen ⊢
  have HB := Lib.hid ((Below.refl w.heap.size w).alloc (Nat.le_refl _) (.cells #[.int .i64 kind, .slice sa N sc, .int .i64 hosts] 34))
  have Q0 := Lib.hid (heap_alloc_new w (.cells #[.int .i64 kind, .slice sa N sc, .int .i64 hosts] 34))
  have hz : (w.alloc (.cells #[.int .i64 kind, .slice sa N sc, .int .i64 hosts] 34)).heap.size = w.heap.size + 1 := by simp
  have c0 := cellR 0 Q0.out rfl
  have c1 := cellR 1 Q0.out rfl
  have c2 := cellR 2 Q0.out rfl
  have hmk := make_ints N hlen
  have HX := Lib.hid (And.intro hx hx2)
  have HCL : Hid (coordsL l x = (cfold l x ((List.range N).reverse.take N)).2) := by
    show _ = _
    unfold coordsL
    rw [List.take_of_length_le (by simp), ← hN]
  clear h hp hN hx hx2
  go_enter Tryz.func62, Tryz.ntmps62
  go_wp2_with fail
  generalize w.alloc (.cells #[.int .i64 kind, .slice sa N sc, .int .i64 hosts] 34) = X at *
  have hr0 : RowAt (X.alloc (.cells (rowA (List.replicate N 0)) 3)) X.heap.size (List.replicate N 0) := heap_alloc_new X _
  have hbX : Below X.heap.size X (X.alloc (.cells (rowA (List.replicate N 0)) 3)) := (Below.refl _ _).alloc (Nat.le_refl _) _
  rw [hz] at hr0 hbX
  have hwr : wrap64 ((N : Int) - 1) = (N : Int) - 1 := by unfold wrap64; omega
  try rw [hwr]
  try rw [hz]
  clear hmk c0 c1 c2
  generalize X.alloc (.cells (rowA (List.replicate N 0)) 3) = Y at *
  go_loopw [1, 6] (fun xv i wr => ∃ (m : Nat), m ≤ N ∧ i = .int .i64 ((N : Int) - 1 - m) ∧ xv = .int .i64 (cfold l x ((List.range N).reverse.take m)).1 ∧ 0 ≤ (cfold l x ((List.range N).reverse.take m)).1 ∧ (cfold l x ((List.range N).reverse.take m)).1 ≤ 1000 ∧ RowAt wr (w.heap.size + 1) (cfold l x ((List.range N).reverse.take m)).2 ∧ Below (w.heap.size + 1) X wr) (fun _ i _ => (intOf i + 1).toNat)
  case atStart =>
    refine ⟨0, Nat.zero_le _, by simp, rfl, HX.out.1, HX.out.2, ?_, hbX⟩
    have : (cfold l x ((List.range N).reverse.take 0)).2 = List.replicate N 0 := by rw [HN.out]; rfl
    rw [this]; exact hr0
  case round =>
    obtain ⟨m, hm, rfl, rfl, hs0, hs1, hR, hbr⟩ := hrel
    have HBR := Lib.hid hbr
    by_cases hlt : m < N
    · obtain ⟨j, hj⟩ : ∃ j : Nat, N = m + 1 + j := ⟨N - m - 1, by omega⟩
      have hi : (N : Int) - 1 - m = (j : Int) := by omega
      rw [hi]
      have hk1 : j < l.length := by rw [← HN.out]; omega
      have HS : Hid (cfold l x ((List.range N).reverse.take (m + 1)) = cstep l (cfold l x ((List.range N).reverse.take m)) j) := by
        show _ = _
        rw [List.take_succ_eq_append_getElem (by simpa using hlt), cfold_snoc]
        congr 1
        simp only [List.getElem_reverse, List.getElem_range, List.length_range]
        omega
      have HLN : Hid ((cfold l x ((List.range N).reverse.take m)).2.length = N) := by show _ = _; rw [cfold_len, HN.out]
      obtain ⟨g, o, rfl, hc⟩ := (HL.out.keep (HB.out.trans (hbr.mono (by omega)))).at_ (ne_nil_of_lt hk1)
      have e0 := hc j hk1
      have hgl : g < w.heap.size := by
        obtain ⟨g', o', e', hc'⟩ := HL.out.at_ (ne_nil_of_lt hk1)
        cases e'
        exact block_lt_of_cell (hc' 0 (by omega))
      have hgn : g ≠ w.heap.size + 1 := by omega
      have HC : Hid (cstep l (cfold l x ((List.range N).reverse.take m)) j = ((cfold l x ((List.range N).reverse.take m)).1 / l[j], (cfold l x ((List.range N).reverse.take m)).2.set j ((cfold l x ((List.range N).reverse.take m)).1 % l[j]))) := by
        show _ = _
        unfold cstep
        simp [List.getD, hk1]
      obtain ⟨s1, s2⟩ := HP.out (l[j]) (List.getElem_mem hk1)
      generalize l[j] = sz at *
      generalize cfold l x ((List.range N).reverse.take m) = st at *
      obtain ⟨sr, sl⟩ := st
      dsimp only at *
      have q1 := (hbr.block _ (show w.heap.size < w.heap.size + 1 by omega)).trans Q0.out
      have c1 := cellR 1 q1 rfl
      have t1 := hR.open_ j
      obtain ⟨v0, t0⟩ : ∃ v0, wr.cell? ⟨w.heap.size + 1, j, none⟩ = some (.int .i64 v0) := ⟨_, hR.cell j (by rw [HLN.out]; omega)⟩
      have tl := hR.lt
      have hszr := hbr.size
      have hsz0 : sz ≠ 0 := by omega
      have hmod : sr.tmod sz = sr % sz := Int.tmod_eq_emod_of_nonneg hs0
      have hdle : sr / sz ≤ sr := Int.ediv_le_self _ hs0
      have hdnn : 0 ≤ sr / sz := Int.ediv_nonneg hs0 (by omega)
      have hdiv : wrap64 (sr.tdiv sz) = sr / sz := by
        rw [Int.tdiv_eq_ediv_of_nonneg hs0]; unfold wrap64; omega
      have hne : wrap64 ((j : Int) - 1) = (j : Int) - 1 := by unfold wrap64; omega
      have HR := Lib.hid hR
      have HNJ := Lib.hid hj
      clear hc hk1 q1 hR hbr hi hj
      have hjN : j < N := by have := HNJ.out; omega
      go_wp2_with fail
      go_roundw
      case rel =>
        have HF : cfold l x ((List.range N).reverse.take (m + 1)) = (sr / sz, sl.set j (sr % sz)) := by rw [HS.out, HC.out]
        refine ⟨m + 1, by omega, ?_, ?_, ?_, ?_, ?_, ?_⟩
        · first | (congr 1; omega) | (have := HNJ.out; show Value.int .i64 _ = Value.int .i64 _; congr 1; omega)
        · rw [HF]
        · rw [HF]; exact hdnn
        · rw [HF]; exact Int.le_trans hdle hs1
        · rw [HF]; exact HR.out.set j _
        · exact HBR.out.setCell (Nat.le_refl _) _
      case measure => simp [intOf]
    · have hmn : m = N := by omega
      subst hmn
      have hneg : decide (0 ≤ (m : Int) - 1 - m) = false := decide_eq_false (by omega)
      go_wp2_with fail
      go_ret
      exact ⟨w.heap.size + 1, rfl, Nat.le_succ _, by rw [HCL.out]; exact hR, HB.out.trans (HBR.out.mono (by omega))⟩
end Go.Proofs.YtbhkenphcahifaaGreat
namespace Go.Proofs.YtbhkenphcahifaaGreat
open Go.RowKit Go.Shelf
attribute [local go_sem] Oper.semAt_some
set_option maxRecDepth 100000
set_option maxHeartbeats 4000000
theorem spec_any (sa : Option Addr) (m sc : Nat) (kind hosts : Int) (w : World) :
    Calls Tryz.prog 12 #[.agg #[.int .i64 kind, .slice sa m sc, .int .i64 hosts]] w fun e w' => e = .returned (.agg #[.int .i64 kind, .slice sa m sc, .int .i64 hosts]) ∧ Below w.heap.size w w' := by
  obtain ⟨hbx, q0, q1, hz⟩ := twoN w (.cells #[.int .i64 kind, .slice sa m sc, .int .i64 hosts] 24) (.cells #[.int .i64 0, .slice none 0 0, .int .i64 0] 34)
  have HB := Lib.hid hbx
  have Q1 := Lib.hid q1
  have c0 := cellR 0 q0 rfl
  have c1 := cellR 1 q0 rfl
  have c2 := cellR 2 q0 rfl
  have d0 := cellR 0 q1 rfl
  have d1 := cellR 1 q1 rfl
  have d2 := cellR 2 q1 rfl
  have f0 := frozen_of_row _ _ 0 _ _ q1
  have f1 := frozen_of_row _ _ 1 _ _ q1
  have f2 := frozen_of_row _ _ 2 _ _ q1
  have l1 := (Array.getElem?_eq_some_iff.1 q1).1
  clear hbx q0 q1 hz
  obtain ⟨hb9, _, hr, _⟩ := twoN w (.cells #[.int .i64 kind, .slice sa m sc, .int .i64 hosts] 24) (.cells #[.int .i64 kind, .slice sa m sc, .int .i64 hosts] 34)
  have HR := Lib.hid hr
  have HB9 := Lib.hid hb9
  clear hr hb9
  go_enter Tryz.func12, Tryz.ntmps12
  go_wp2_with fail
  have hr := HR.out
  refine bodyPost_ret (v := .agg #[.int .i64 kind, .slice sa m sc, .int .i64 hosts]) ?_ rfl ⟨rfl, HB9.out⟩
  simp [results, Act.put, run_loadVar_row _ _ 34 34 _ _ _ hr Tryz.underlying34 rfl info30, Tryz.results12, asAddr]
theorem equal_any {w : World} {a b : Option Addr} {l m : List Int} (hl : Ints w a l) (hm : Ints w b m) (ca cb : Nat) :
    Calls Tryz.prog 15 #[.slice a l.length ca, .slice b m.length cb] w fun e w' => e = .returned (.bool (decide (l = m))) ∧ Below w.heap.size w w' := by
  have h1 := hl.len
  have h2 := hm.len
  by_cases hn : l.length = m.length
  case neg =>
    have hd : decide (l = m) = false := decide_eq_false fun h => hn (by rw [h])
    rw [hd]
    have hne : ((l.length : Int) != (m.length : Int)) = true := by rw [bne_iff_ne]; omega
    clear hl hm hd hn
    generalize l.length = N at *
    generalize m.length = M at *
    go_enter Tryz.func15, Tryz.ntmps15
    go_wp2_with fail
    go_ret
    exact ⟨rfl, Below.refl _ _⟩
  have HL := Lib.hid hl
  have HM := Lib.hid hm
  obtain ⟨R, hR⟩ : ∃ R, R = decide (l = m) := ⟨_, rfl⟩
  have HR := Lib.hid hR
  rw [← hR, ← hn]
  obtain ⟨N, hN⟩ : ∃ N, N = l.length := ⟨_, rfl⟩
  have HN := Lib.hid hN
  have HN2 : Hid (N = m.length) := by show _ = _; rw [hN, hn]
  rw [← hN] at h1 ⊢
  clear hl hm hR hN hn h2
  go_enter Tryz.func15, Tryz.ntmps15
  go_wp2_with fail
  go_loopw [5] (fun i wr => ∃ k : Nat, k ≤ N ∧ i = .int .i64 k ∧ Hid (∀ j (h1 : j < l.length) (h2 : j < m.length), j < k → l[j] = m[j]) ∧ Below w.heap.size w wr) (fun i _ => N - (intOf i).toNat)
  case atStart => exact ⟨0, Nat.zero_le _, rfl, fun j _ _ h => by omega, Below.refl _ _⟩
  case round =>
    obtain ⟨k, hk, rfl, HP, hb⟩ := hrel
    by_cases hlt : k < N
    · have k1 : k < l.length := by rw [← HN.out]; exact hlt
      have k2 : k < m.length := by rw [← HN2.out]; exact hlt
      obtain ⟨g, o, rfl, hc⟩ := (HL.out.keep hb).at_ (ne_nil_of_lt k1)
      obtain ⟨g2, o2, rfl, hc2⟩ := (HM.out.keep hb).at_ (ne_nil_of_lt k2)
      have e0 := hc k k1
      have e1 := hc2 k k2
      have HP2 : Hid (l[k] = m[k] → ∀ j (h1 : j < l.length) (h2 : j < m.length), j < k + 1 → l[j] = m[j]) := fun h j a1 a2 a3 => by
        by_cases h3 : j < k
        · exact HP.out j a1 a2 h3
        · obtain rfl : j = k := by omega
          exact h
      have HNE : Hid (l[k] ≠ m[k] → R = false) := fun h => by
        rw [HR.out]; exact decide_eq_false fun e => h (by subst e; rfl)
      generalize l[k] = x at *
      generalize m[k] = y at *
      clear hc hc2 k1 k2 HP
      have HB := Lib.hid hb
      clear hb
      by_cases hxy : x = y
      · have hne : (x != y) = false := by simp [hxy]
        have HP3 := Lib.hid (HP2.out hxy)
        clear hxy HP2 HNE
        go_wp2_with fail
        go_quiet (fail)
        go_wp2_with fail
        go_roundw
        case rel => exact ⟨k + 1, by omega, by go_num, HP3, below_drewN HB.out _⟩
        case measure => simp [intOf]; omega
      · have hne : (x != y) = true := bne_iff_ne.2 hxy
        have HR2 := Lib.hid (HNE.out hxy)
        clear hxy HP2 HNE
        go_wp2_with fail
        go_quiet (fail)
        go_wp2_with fail
        go_ret
        exact ⟨by rw [HR2.out]; rfl, below_drewN HB.out _⟩
    · have HR2 : Hid (R = true) := by
        show _ = _
        rw [HR.out]
        have hle : l.length = m.length := by rw [← HN.out, ← HN2.out]
        exact decide_eq_true (List.ext_getElem hle fun j a1 a2 => HP.out j a1 a2 (by have := HN.out; omega))
      have hkn : k = N := by omega
      subst hkn
      clear HP
      go_wp2_with fail
      go_ret
      exact ⟨by rw [HR2.out]; rfl, hb⟩
end Go.Proofs.YtbhkenphcahifaaGreat
namespace Go.Proofs.YtbhkenphcahifaaGreat
open Go.RowKit Go.Shelf
/-- an iterator that WRITES blocks of its own: which blocks are the iterator's (Fr), told against what lies between two rounds (J) -/
structure Priv (J : World → Prop) (Fr : Nat → World → Prop) : Prop where
  cells : ∀ W b, Fr b W → ∃ o, W.heap[b]? = some o ∧ o.isCells = true
  new : ∀ W W2 b, J W → Below W.heap.size W W2 → W.heap.size ≤ b → (∃ o, W2.heap[b]? = some o ∧ o.isCells = true) → Fr b W2
  grow : ∀ W W2 b, J W → Fr b W → Below W.heap.size W W2 → Fr b W2
  store : ∀ W b c i v, J W → Fr b W → Fr c W → Fr b (W.setCell ⟨c, i, none⟩ v)
  jgrow : ∀ W W2, J W → Below W.heap.size W W2 → J W2
  jstore : ∀ W c i v, J W → Fr c W → J (W.setCell ⟨c, i, none⟩ v)
def SeqW {α : Type} (n : Nat) (gf : Nat) (lb : Array Value) (encs : α → Array Value) (Kp : World → World → Prop) (Fr : Nat → World → Prop) (Nd : Nat → Prop) (L : List α) (w : World) : Prop :=
  ∀ (l : Nat) (J : List α → World → Prop) (W : World), Below w.heap.size w W → (∀ b, Nd b → Fr b W) → (∀ pre, Priv (J pre) Fr) →
    (∀ pre x W1, J pre W1 → pre.length < L.length → YieldAt Fence.wide (n - 1) Tryz.prog l (encs x) W1 fun e W' => e = .returned (.bool true) ∧ J (pre ++ [x]) W' ∧ Kp W1 W') →
    J [] W → CallsIn Fence.wide n Tryz.prog gf (#[.func (.yield l) #[] #[]] ++ lb) W fun e W' => (∃ v, e = .returned v) ∧ J L W'
theorem set_other_obj {W : World} {c i : Nat} {v : Value} {k : Nat} {o oc : Obj} (hk : W.heap[k]? = some o) (hc : W.heap[c]? = some oc) (h1 : oc.isCells = true) (h2 : o.isCells = false) : (W.setCell ⟨c, i, none⟩ v).heap[k]? = some o := by
  have hne : k ≠ c := by
    rintro rfl
    rw [hk] at hc; cases hc
    rw [h1] at h2; cases h2
  rw [heap_setCell_other _ _ _ _ hne]; exact hk
/-- a range over such an iterator, by a body that never leaves -/
theorem range_w {α : Type} {n : Nat} {g : Operand} {ps : Array Tmp} {assign body : Code} {Q : Exit → Act → World → Prop} {a : Act} {w : World} (h1 : 1 ≤ n) {gf : Nat} {lb : Array Value}
    (hg : a.eval g = .func (.func gf) #[] lb) (eg : ∀ args w, (callFunc gf args).run Tryz.prog w = .ok (.enter gf args) w) {encs : α → Array Value} {Kp : World → World → Prop} {Fr : Nat → World → Prop} {Nd : Nat → Prop} {L : List α}
    (hseq : SeqW (n - 1) gf lb encs Kp Fr Nd L w) (hnd : ∀ b, Nd b → Fr b w) (hKt : ∀ {A B C : World}, Kp A B → Kp B C → Kp A C) (hKb : ∀ (W : World) (l : Nat) (o o' : Obj), w.heap.size ≤ l → W.heap[l]? = some o → o.isCells = false → Kp W (W.putObj l o'))
    (hps : ∀ x, (encs x).size = ps.size) (I : List α → World → Prop) (hI : OwnFrom w.heap.size I) (hP : ∀ pre, Priv (I pre) Fr) (h0 : I [] w) (a₁ : α → Act)
    (hassign : ∀ (l : Nat) (x : α) (W : World) (K : Act → World → Prop), K (a₁ x) W → assign.wpIn (Fence.wide.inRound l) (n - 1 - 1) Tryz.prog (Exit.then K (fun _ _ _ => False)) { tmps := (ps.zip (encs x)).foldl (fun t (p, v) => t.setIfInBounds p v) a.tmps, defers := [] } W)
    (hbody : ∀ (l : Nat) (pre : List α) (x : α) (W : World), I pre W → pre.length < L.length → body.wpIn (Fence.wide.inRound l) (n - 1 - 1) Tryz.prog (ownPostG w.heap.size Kp I (fun _ _ _ => False) (pre ++ [x]) W) (a₁ x) W)
    (hdone : ∀ (D : Nat) (W : World), w.heap.size ≤ D → I L W → W.heap[D]? = some (.deferred (some [])) → Q .normal { a with defers := { target := .collected D, args := #[] } :: a.defers } W) :
    (Code.rangeFunc g ps assign body).wpIn Fence.wide n Tryz.prog Q a w := by
  refine wpIn_rangeFunc ?_
  intro fn hfn
  rw [show Fence.wide.round = none from rfl]
  let rc : LoopState → Option Code → Loop := fun st pe => { state := st, pending := pe, fn, tmps := a.tmps, params := ps, assign, body, defers := w.heap.size }
  obtain ⟨W1, hW1⟩ : ∃ W1, (w.alloc (.deferred (some []))).alloc (.loop (rc .ready none)) = W1 := ⟨_, rfl⟩
  have hb1 : Below w.heap.size w W1 := by
    rw [← hW1]; exact ((Below.refl _ w).alloc (Nat.le_refl _) _).alloc (by simp) _
  have hl1 : W1.heap[w.heap.size + 1]? = some (.loop (rc .ready none)) := by
    rw [← hW1]; have := World.alloc_heap_new (w.alloc (.deferred (some []))) (.loop (rc .ready none)); rwa [World.size_alloc] at this
  have hk1 : W1.heap[w.heap.size]? = some (.deferred (some [])) := by
    rw [← hW1]; exact (Below.heap_alloc _ _ _ (by simp)).trans (World.alloc_heap_new w _)
  have hi1 : I [] W1 := by rw [← hW1]; exact hI.alloc _ (hI.alloc _ h0)
  refine ⟨w.heap.size + 1, [{ target := .collected w.heap.size, args := #[] }], W1, { target := .fn (.func gf) lb, args := #[.func (.yield (w.heap.size + 1)) #[] #[]] }, W1, gf,
    #[.func (.yield (w.heap.size + 1)) #[] #[]] ++ lb, W1, ?_, ?_, ?_, ?_, fun _ => h1, ?_⟩
  · rw [← hW1]; exact run_enterLoop_outer _ _ _ _ _
  · simp only [resolve, hg]
    simp [go_sem]
  · intro f' hf'; trivial
  · simp [invoke, go_sem, eg]
  · refine (hseq (w.heap.size + 1) (fun pre W => I pre W ∧ W.heap[w.heap.size + 1]? = some (.loop (rc .ready none)) ∧ W.heap[w.heap.size]? = some (.deferred (some []))) W1 hb1 (fun b hb => (hP []).grow w W1 b h0 (hnd b hb) hb1) ?_ ?_ ⟨hi1, hl1, hk1⟩).mono ?_
    · intro pre
      have p := hP pre
      refine ⟨p.cells, fun W W2 b hj => p.new W W2 b hj.1, fun W W2 b hj => p.grow W W2 b hj.1, fun W b c i v hj => p.store W b c i v hj.1, fun W W2 hj hb => ⟨p.jgrow W W2 hj.1 hb, ?_, ?_⟩, fun W c i v hj hc => ⟨p.jstore W c i v hj.1 hc, ?_, ?_⟩⟩
      · rw [hb.block _ (Array.getElem?_eq_some_iff.1 hj.2.1).1]; exact hj.2.1
      · rw [hb.block _ (Array.getElem?_eq_some_iff.1 hj.2.2).1]; exact hj.2.2
      · obtain ⟨oc, h1, h2⟩ := p.cells W c hc
        exact set_other_obj hj.2.1 h1 h2 rfl
      · obtain ⟨oc, h1, h2⟩ := p.cells W c hc
        exact set_other_obj hj.2.2 h1 h2 rfl
    · rintro pre x W ⟨hi, hl, hk⟩ hlen
      have hlt : w.heap.size + 1 < W.heap.size := (Array.getElem?_eq_some_iff.1 hl).1
      refine ⟨fn, _, assign, body, run_yield (P := Tryz.prog) (args := encs x) hl (hps x), roundIn_of_wpIn hfn (hassign _ x W _ ?_)⟩
      refine ⟨_, run_beginRound hl rfl, ?_⟩
      have hl2 := World.putObj_heap_same (w := W) (o := .loop { rc .ready none with state := .busy }) hlt
      have hk2 : (W.putObj (w.heap.size + 1) (.loop { rc .ready none with state := .busy })).heap[w.heap.size]? = some (.deferred (some [])) := (World.putObj_heap_other (by omega)).trans hk
      refine wpIn_mono (hbody (w.heap.size + 1) pre x _ (hI.putObj _ hi (by omega) hl rfl) hlen) ?_
      rintro e a3 W3 hp
      cases e with
      | normal =>
        obtain ⟨hk3, hkp3, hi3⟩ := hp
        have hl3 := hk3.same _ _ (by omega) hl2 rfl
        have hk4 := hk3.same _ _ (Nat.le_refl _) hk2 rfl
        exact ⟨_, _, run_endRound (P := Tryz.prog) none hl3, rfl, ⟨hI.putObj _ hi3 (by omega) hl3 rfl, World.putObj_heap_same (Array.getElem?_eq_some_iff.1 hl3).1, (World.putObj_heap_other (by omega)).trans hk4⟩, hKt (hKt (hKb _ _ _ _ (by omega) hl rfl) hkp3) (hKb _ _ _ _ (by omega) hl3 rfl)⟩
      | ret => exact hp.2.elim
      | exit id => exact hp.2.elim
      | goto t => exact hp.2.elim
      | panic ch => exact hp.elim
      | outgrown => exact hp.elim
    · rintro e W2 ⟨⟨v, rfl⟩, hi, hl, hk⟩
      exact ⟨none, _, run_endLoop (P := Tryz.prog) hl (by simp), hdone _ _ (Nat.le_refl _) (hI.putObj _ hi (by omega) hl rfl) ((World.putObj_heap_other (by omega)).trans hk)⟩
/-- a list of numbers that grows in a variable of its own -/
def OutI (n0 o : Nat) (xs : List Int) (W : World) : Prop := ∃ v, Boxed W o 22 v ∧ W.ownsRow n0 3 1 v xs.length (xs.map (Value.int .i64)) ∧ (v = .slice none 0 0 ↔ xs = [])
/-- the blocks beside that variable and its array -/
def Fq (n0 o b : Nat) (W : World) : Prop := (∃ ob, W.heap[b]? = some ob ∧ ob.isCells = true) ∧ n0 ≤ b ∧ b ≠ o ∧ ∀ v, W.cell? ⟨o, 0, none⟩ = some v → v.ownBlock ≠ some b
/-- what a round of such a loop keeps -/
def Kq (n0 o : Nat) (W W' : World) : Prop := Below n0 W W' ∧ ∀ b, Fq n0 o b W → W'.heap[b]? = W.heap[b]? ∧ Fq n0 o b W'
theorem Kq.trans {n0 o : Nat} {A B C : World} (h : Kq n0 o A B) (k : Kq n0 o B C) : Kq n0 o A C :=
  ⟨h.1.trans k.1, fun b hb => ⟨((k.2 b (h.2 b hb).2).1).trans (h.2 b hb).1, (k.2 b (h.2 b hb).2).2⟩⟩
theorem Kq.putObj {n0 o : Nat} {s : Nat} (hn : n0 ≤ s) (W : World) (l : Nat) (ob o' : Obj) (hs : s ≤ l) (hl : W.heap[l]? = some ob) (hc : ob.isCells = false) (hol : o ≠ l) : Kq n0 o W (W.putObj l o') := by
  have hlt := (Array.getElem?_eq_some_iff.1 hl).1
  refine ⟨(Below.refl n0 W).grown (grownBy_putObj' W l o') (by omega) (fun k e => by cases e; omega), ?_⟩
  rintro b ⟨⟨ob2, h1, h2⟩, h3, h4, h5⟩
  have hne : b ≠ l := by rintro rfl; rw [hl] at h1; cases h1; rw [hc] at h2; cases h2
  have e1 : (W.putObj l o').heap[b]? = W.heap[b]? := World.putObj_heap_other hne
  refine ⟨e1, ⟨ob2, e1.trans h1, h2⟩, h3, h4, fun v hv => h5 v ?_⟩
  rw [← hv]; exact (World.cell?_of_block (w := W) (World.putObj_heap_other hol)).symm
theorem ownsRow_bl {B : Nat} {e : TypeId} {k : Nat} {v : Value} {n : Nat} {xs : List Value} {w w' : World} (h : w.ownsRow B e k v n xs) (hb : Below w.heap.size w w') : w'.ownsRow B e k v n xs := by
  refine h.kept (row := none) ⟨hb.os, hb.tape, hb.output, hb.size, fun k hk _ => hb.block k hk⟩ ?_
  cases e : v.ownBlock with
  | none => exact .inl rfl
  | some b => exact .inr (by simp)
theorem OutI.below {n0 o : Nat} {xs : List Int} {W W' : World} (h : OutI n0 o xs W) (hb : Below W.heap.size W W') : OutI n0 o xs W' := by
  obtain ⟨v, h1, h2, h3⟩ := h
  exact ⟨v, (hb.block o h1.lt).trans h1, ownsRow_bl h2 hb, h3⟩
theorem OutI.priv {n0 o : Nat} {xs : List Int} {w : World} (hn : n0 ≤ w.heap.size) : Priv (fun W => OutI n0 o xs W ∧ Below n0 w W) (Fq n0 o) where
  cells := fun W b h => h.1
  new := by
    rintro W W2 b ⟨⟨v, h1, h2, h3⟩, hw⟩ hb hsz hc
    have hlt := h1.lt
    have hws := hw.size
    refine ⟨hc, by omega, by omega, fun u hu e => ?_⟩
    rw [hb.cell (p := ⟨o, 0, none⟩) hlt, h1.cell] at hu
    cases hu
    have := (h2.lt b e).2
    omega
  grow := by
    rintro W W2 b ⟨⟨v, h1, h2, h3⟩, hw⟩ ⟨⟨ob, k1, k2⟩, k3, k4, k5⟩ hb
    have hlt := (Array.getElem?_eq_some_iff.1 k1).1
    refine ⟨⟨ob, (hb.block b hlt).trans k1, k2⟩, k3, k4, fun u hu => k5 u ?_⟩
    rw [← hu]; exact (hb.cell (p := ⟨o, 0, none⟩) h1.lt).symm
  store := by
    rintro W b c i v ⟨⟨u, h1, h2, h3⟩, hw⟩ ⟨⟨ob, k1, k2⟩, k3, k4, k5⟩ ⟨⟨oc, m1, m2⟩, m3, m4, m5⟩
    have eo : (W.setCell ⟨c, i, none⟩ v).heap[o]? = W.heap[o]? := heap_setCell_other _ _ _ _ (Ne.symm m4)
    refine ⟨?_, k3, k4, fun x hx => k5 x ?_⟩
    · by_cases hbc : b = c
      · subst hbc
        cases ob with
        | cells cs t fr => exact ⟨.cells (cs.setIfInBounds i v) t fr, by simp [World.setCell, Array.getElem?_modify, k1], rfl⟩
        | _ => cases k2
      · exact ⟨ob, (heap_setCell_other _ _ _ _ hbc).trans k1, k2⟩
    · rw [← hx]; exact (World.cell?_of_block (w := W) eo).symm
  jgrow := fun W W2 h hb => ⟨h.1.below hb, h.2.trans (hb.mono (by have := h.2.size; omega))⟩
  jstore := by
    rintro W c i v ⟨⟨u, h1, h2, h3⟩, hw⟩ ⟨⟨oc, m1, m2⟩, m3, m4, m5⟩
    exact ⟨⟨u, (heap_setCell_other _ _ _ _ (Ne.symm m4)).trans h1, ownsRow_setCell_other h2 (m5 u h1.cell) v, h3⟩, hw.setCell (p := ⟨c, i, none⟩) m3 v⟩
end Go.Proofs.YtbhkenphcahifaaGreat
namespace Go.Proofs.YtbhkenphcahifaaGreat
open Go.RowKit Go.Shelf
attribute [local go_sem] Oper.semAt_some
set_option maxRecDepth 100000
set_option maxHeartbeats 4000000
theorem sem_call3 {P : Program} {o : Oper} {a : Act} {w : World} {g : FuncId} {x y z : Operand} {ts : Array TypeId} {vx vy vz : Value} (hop : o.op = .call { callee := .value (.func g), args := #[x, y, z], argTypes := ts }) (hx : a.eval x = vx) (hy : a.eval y = vy) (hz : a.eval z = vz)
    (eg : ∀ args w, (callFunc g args).run P w = .ok (.enter g args) w) : (o.semAt none a.eval).run P w = .ok (.enter g #[vx, vy, vz]) w :=
  sem_call hop (by simp [hx, hy, hz]) eg
theorem i64_mul (x y : Int) (h1 : -1000000000 ≤ x * y) (h2 : x * y ≤ 1000000000) (w : World) : (binOp .mul 3 (.int .i64 x) (.int .i64 y)).run Tryz.prog w = .ok (.int .i64 (x * y)) w := by
  have hw : IntKind.i64.wrap (x * y) = x * y := by rw [IntKind.wrap_i64]; generalize x * y = z at *; omega
  simp [go_sem, hw]
theorem i64_add (x y : Int) (h1 : -1000000000 ≤ x + y) (h2 : x + y ≤ 1000000000) (w : World) : (binOp .add 3 (.int .i64 x) (.int .i64 y)).run Tryz.prog w = .ok (.int .i64 (x + y)) w := by
  have hw : IntKind.i64.wrap (x + y) = x + y := by rw [IntKind.wrap_i64]; generalize x + y = z at *; omega
  simp [go_sem, hw]
theorem i64_sub (x y : Int) (h1 : -1000000000 ≤ x - y) (h2 : x - y ≤ 1000000000) (w : World) : (binOp .sub 3 (.int .i64 x) (.int .i64 y)).run Tryz.prog w = .ok (.int .i64 (x - y)) w := by
  have hw : IntKind.i64.wrap (x - y) = x - y := by rw [IntKind.wrap_i64]; generalize x - y = z at *; omega
  simp [go_sem, hw]
/-- a word without its last digits, a digit, a word with another digit -/
def digI (k i : Nat) (x : Int) : Int := x / ((k ^ i : Nat) : Int) % (k : Int)
def wthI (k i : Nat) (x d : Int) : Int := x + (d - digI k i x) * ((k ^ i : Nat) : Int)
theorem dig_bound {k i : Nat} {x : Int} (hk : 1 ≤ k) : 0 ≤ digI k i x ∧ digI k i x < k := ⟨Int.emod_nonneg _ (by omega), Int.emod_lt_of_pos _ (by omega)⟩
theorem pow_pos' {k i : Nat} (hk : 1 ≤ k) : 1 ≤ k ^ i := Nat.one_le_pow _ _ hk
theorem wth_mul {k i : Nat} {x d : Int} (hk : 1 ≤ k) (hk2 : k ≤ 16) (hi : i ≤ 5) (hd : 0 ≤ d) (hd2 : d ≤ 1000) : -17000000 ≤ (d - digI k i x) * ((k ^ i : Nat) : Int) ∧ (d - digI k i x) * ((k ^ i : Nat) : Int) ≤ 1048576000 := by
  have hp := pow_small hk2 hi
  obtain ⟨g1, g2⟩ := dig_bound (k := k) (i := i) (x := x) hk
  generalize digI k i x = dg at *
  generalize k ^ i = p at *
  constructor
  · have h := Int.mul_le_mul_of_nonneg_right (show (-16 : Int) ≤ d - dg by omega) (show (0 : Int) ≤ (p : Int) by omega)
    omega
  · have h := Int.mul_le_mul_of_nonneg_right (show d - dg ≤ (1000 : Int) by omega) (show (0 : Int) ≤ (p : Int) by omega)
    omega
theorem without_any (k i : Nat) (hk : 1 ≤ k) (hk2 : k ≤ 16) (hi : i ≤ 5) (lv ww x : Int) (hx : 0 ≤ x) (hx2 : x ≤ 1000000) (w : World) :
    Calls Tryz.prog 190 #[.agg #[.int .i64 (k : Int), .int .i64 lv, .int .i64 ww], .int .i64 x, .int .i64 i] w fun e w' => e = .returned (.int .i64 (x / ((k ^ i : Nat) : Int))) ∧ Below w.heap.size w w' := by
  have HB := Lib.hid ((Below.refl w.heap.size w).alloc (Nat.le_refl _) (.cells #[.int .i64 (k : Int), .int .i64 lv, .int .i64 ww] 142))
  have Q0 := Lib.hid (heap_alloc_new w (.cells #[.int .i64 (k : Int), .int .i64 lv, .int .i64 ww] 142))
  have c0 := cellR 0 Q0.out rfl
  have c1 := cellR 1 Q0.out rfl
  have c2 := cellR 2 Q0.out rfl
  have W3 := Lib.hid (fun W => power_any k i hk2 hi W)
  have hp := pow_pos' (i := i) hk
  generalize k ^ i = p at *
  have hne : (p : Int) ≠ 0 := by omega
  have hdle := Int.ediv_le_self (p : Int) hx
  have hdnn := Int.ediv_nonneg hx (show (0 : Int) ≤ (p : Int) by omega)
  have hw : wrap64 (x.tdiv (p : Int)) = x / (p : Int) := by rw [Int.tdiv_eq_ediv_of_nonneg hx]; unfold wrap64; omega
  clear Q0 hp
  go_enter Tryz.func190, Tryz.ntmps190
  go_wp2_with fail
  generalize w.alloc (.cells #[.int .i64 (k : Int), .int .i64 lv, .int .i64 ww] 142) = X at *
  refine (W3.out _).mono ?_
  rintro e w1 ⟨rfl, rfl⟩
  clear W3
  go_wp2_with fail
  go_ret
  exact ⟨rfl, HB.out⟩
theorem digit_any (k i : Nat) (hk : 1 ≤ k) (hk2 : k ≤ 16) (hi : i ≤ 5) (lv ww x : Int) (hx : 0 ≤ x) (hx2 : x ≤ 1000000) (w : World) :
    Calls Tryz.prog 191 #[.agg #[.int .i64 (k : Int), .int .i64 lv, .int .i64 ww], .int .i64 x, .int .i64 i] w fun e w' => e = .returned (.int .i64 (digI k i x)) ∧ Below w.heap.size w w' := by
  have HB := Lib.hid ((Below.refl w.heap.size w).alloc (Nat.le_refl _) (.cells #[.int .i64 (k : Int), .int .i64 lv, .int .i64 ww] 142))
  have Q0 := Lib.hid (heap_alloc_new w (.cells #[.int .i64 (k : Int), .int .i64 lv, .int .i64 ww] 142))
  have c0 := cellR 0 Q0.out rfl
  have c1 := cellR 1 Q0.out rfl
  have c2 := cellR 2 Q0.out rfl
  have HW := Lib.hid (fun W => without_any k i hk hk2 hi lv ww x hx hx2 W)
  have C0 := Lib.hid c0
  have hq0 := Int.ediv_nonneg hx (show (0 : Int) ≤ ((k ^ i : Nat) : Int) by omega)
  have ER := Lib.hid (fun W => i64_rem (x / ((k ^ i : Nat) : Int)) (k : Int) hq0 (by omega) W)
  have HD : digI k i x = x / ((k ^ i : Nat) : Int) % (k : Int) := rfl
  rw [← HD] at ER
  clear HD hq0
  generalize digI k i x = dg at *
  generalize x / ((k ^ i : Nat) : Int) = q at *
  go_enter Tryz.func191, Tryz.ntmps191
  go_wp2_with fail
  generalize w.alloc (.cells #[.int .i64 (k : Int), .int .i64 lv, .int .i64 ww] 142) = X at *
  clear c0 c1 c2
  refine (wpIn_wide (n := 0)).1 ?_
  refine region_det (by kernel_rfl) (I := fun listed a' w' => Hid (Below X.heap.size X w') ∧ a' = ⟨#[Value.agg #[.int .i64 (k : Int), .int .i64 lv, .int .i64 ww], Value.int IntKind.i64 (x), Value.int IntKind.i64 (i), Value.pointer (some ⟨w.heap.size, 0, none⟩), undef, undef, (if listed.getD 7 false = true then Value.int IntKind.i64 (dg) else Value.int IntKind.i64 (0)), (if listed.getD 0 false = true then Value.agg #[.int .i64 (k : Int), .int .i64 lv, .int .i64 ww] else undef), (if listed.getD 1 false = true then Value.int IntKind.i64 (x) else undef), (if listed.getD 2 false = true then Value.int IntKind.i64 (i) else undef), (if listed.getD 3 false = true then Value.int IntKind.i64 (q) else undef), (if listed.getD 4 false = true then Value.pointer (some ⟨w.heap.size, 0, none⟩) else undef), (if listed.getD 5 false = true then Value.int IntKind.i64 ((k : Int)) else undef), (if listed.getD 6 false = true then Value.int IntKind.i64 (dg) else undef)], []⟩) (hup_check (by kernel_rfl)) ?h0 ?step ?fin
  case h0 => exact ⟨(Below.refl _ _).drew, rfl⟩
  case step =>
    intro listed a' w' i hs hbi hdep hi ⟨IB, ha⟩
    obtain ⟨ls⟩ := listed
    match ls, hs with
    | [x0, x1, x2, x3, x4, x5, x6, x7], _ =>
    subst ha
    have hi' : i = 0 ∨ i = 1 ∨ i = 2 ∨ i = 3 ∨ i = 4 ∨ i = 5 ∨ i = 6 ∨ i = 7 := by simp at hi; omega
    rcases hi' with rfl | rfl | rfl | rfl | rfl | rfl | rfl | rfl
    · obtain rfl : x0 = false := by simpa using hbi
      refine wpOpIn_load_row rfl rfl 142 _ rfl w.heap.size rfl 142 _ _ _ (heapB IB.out Q0.out) Tryz.underlying142 rfl info109 ?_
      exact ⟨IB, rfl⟩
    · obtain rfl : x1 = false := by simpa using hbi
      refine wpOpIn_plain rfl rfl rfl ?_
      exact ⟨IB, rfl⟩
    · obtain rfl : x2 = false := by simpa using hbi
      refine wpOpIn_plain rfl rfl rfl ?_
      exact ⟨IB, rfl⟩
    · obtain rfl : x3 = false := by simpa using hbi
      obtain rfl : x0 = true := hdep _ rfl ⟨0, .data⟩ (by simp) rfl
      obtain rfl : x1 = true := hdep _ rfl ⟨1, .data⟩ (by simp) rfl
      obtain rfl : x2 = true := hdep _ rfl ⟨2, .data⟩ (by simp) rfl
      refine wpOpIn_call (args := #[Value.agg #[.int .i64 (k : Int), .int .i64 lv, .int .i64 ww], Value.int IntKind.i64 (x), Value.int IntKind.i64 (i)]) rfl rfl (sem_call3 rfl rfl rfl rfl (enters_of Tryz.func190 (by kernel_rfl) rfl)) (HW.out w') ?_
      rintro e V ⟨rfl, hb⟩
      exact ⟨_, rfl, (IB.out.trans (hb.mono IB.out.size)), rfl⟩
    · obtain rfl : x4 = false := by simpa using hbi
      refine wpOpIn_plain (v := Value.pointer (some ⟨w.heap.size, 0, none⟩)) (w' := w') rfl rfl (by simp [Oper.semAt, execOp, go_sem]) ?_
      exact ⟨IB, rfl⟩
    · obtain rfl : x5 = false := by simpa using hbi
      obtain rfl : x4 = true := hdep _ rfl ⟨4, .data⟩ (by simp) rfl
      have c9 := kcell IB.out C0.out
      refine wpOpIn_plain (v := Value.int IntKind.i64 ((k : Int))) (w' := w') rfl rfl (by simp [Oper.semAt, execOp, go_sem, c9]) ?_
      exact ⟨IB, rfl⟩
    · obtain rfl : x6 = false := by simpa using hbi
      obtain rfl : x3 = true := hdep _ rfl ⟨3, .data⟩ (by simp) rfl
      obtain rfl : x5 = true := hdep _ rfl ⟨5, .data⟩ (by simp) rfl
      refine wpOpIn_plain (v := Value.int IntKind.i64 (dg)) (w' := w') rfl rfl (sem_bin (vx := Value.int IntKind.i64 (q)) (vy := Value.int IntKind.i64 ((k : Int))) rfl rfl rfl rfl (ER.out w')) ?_
      exact ⟨IB, rfl⟩
    · obtain rfl : x7 = false := by simpa using hbi
      obtain rfl : x6 = true := hdep _ rfl ⟨6, .data⟩ (by simp) rfl
      refine wpOpIn_plain rfl rfl rfl ?_
      exact ⟨IB, rfl⟩
  case fin =>
  intro listed a' Z hs hall ⟨IB, ha⟩
  obtain ⟨ls⟩ := listed
  match ls, hs with
  | [x0, x1, x2, x3, x4, x5, x6, x7], _ =>
  obtain rfl : x0 = true := hall 0 (by simp)
  obtain rfl : x1 = true := hall 1 (by simp)
  obtain rfl : x2 = true := hall 2 (by simp)
  obtain rfl : x3 = true := hall 3 (by simp)
  obtain rfl : x4 = true := hall 4 (by simp)
  obtain rfl : x5 = true := hall 5 (by simp)
  obtain rfl : x6 = true := hall 6 (by simp)
  obtain rfl : x7 = true := hall 7 (by simp)
  subst ha
  have HZ : Hid (Below X.heap.size X Z) := IB
  clear IB hall hs
  dsimp only [Exit.then, Exit.inBlock]
  go_wp2_with fail
  go_ret
  exact ⟨rfl, HB.out.trans (HZ.out.mono HB.out.size)⟩
theorem with_any (k i : Nat) (hk : 1 ≤ k) (hk2 : k ≤ 16) (hi : i ≤ 5) (lv ww x d : Int) (hx : 0 ≤ x) (hx2 : x ≤ 1000) (hd : 0 ≤ d) (hd2 : d ≤ 16) (w : World) :
    Calls Tryz.prog 188 #[.agg #[.int .i64 (k : Int), .int .i64 lv, .int .i64 ww], .int .i64 x, .int .i64 i, .int .i64 d] w fun e w' => e = .returned (.int .i64 (wthI k i x d)) ∧ Below w.heap.size w w' := by
  have HB := Lib.hid ((Below.refl w.heap.size w).alloc (Nat.le_refl _) (.cells #[.int .i64 (k : Int), .int .i64 lv, .int .i64 ww] 142))
  have Q0 := Lib.hid (heap_alloc_new w (.cells #[.int .i64 (k : Int), .int .i64 lv, .int .i64 ww] 142))
  have c0 := cellR 0 Q0.out rfl
  have c1 := cellR 1 Q0.out rfl
  have c2 := cellR 2 Q0.out rfl
  have HD := Lib.hid (fun W => digit_any k i hk hk2 hi lv ww x hx (by omega) W)
  have HP := Lib.hid (fun W => power_any k i hk2 hi W)
  have C0 := Lib.hid c0
  obtain ⟨g1, g2⟩ := dig_bound (k := k) (i := i) (x := x) hk
  have hp := pow_small hk2 hi
  have HW : wthI k i x d = x + (d - digI k i x) * ((k ^ i : Nat) : Int) := rfl
  rw [HW]
  have hm1 : -17000000 ≤ (d - digI k i x) * ((k ^ i : Nat) : Int) := (wth_mul hk hk2 hi hd (by omega)).1
  have hm2 : (d - digI k i x) * ((k ^ i : Nat) : Int) ≤ 17000000 := by
    have h := Int.mul_le_mul_of_nonneg_right (show d - digI k i x ≤ (16 : Int) by omega) (show (0 : Int) ≤ ((k ^ i : Nat) : Int) by omega)
    omega
  have ES := Lib.hid (fun W => i64_sub d (digI k i x) (by omega) (by omega) W)
  have EM := Lib.hid (fun W => i64_mul (d - digI k i x) ((k ^ i : Nat) : Int) (by omega) (by omega) W)
  have EA := Lib.hid (fun W => i64_add x ((d - digI k i x) * ((k ^ i : Nat) : Int)) (by omega) (by omega) W)
  generalize (d - digI k i x) * ((k ^ i : Nat) : Int) = m at *
  generalize digI k i x = dg at *
  generalize k ^ i = p at *
  clear HW hm1 hm2 g1 g2 hp
  go_enter Tryz.func188, Tryz.ntmps188
  go_wp2_with fail
  generalize w.alloc (.cells #[.int .i64 (k : Int), .int .i64 lv, .int .i64 ww] 142) = X at *
  clear c0 c1 c2
  refine (wpIn_wide (n := 0)).1 ?_
  refine region_det (by kernel_rfl) (I := fun listed a' w' => Hid (Below X.heap.size X w') ∧ a' = ⟨#[Value.agg #[.int .i64 (k : Int), .int .i64 lv, .int .i64 ww], Value.int IntKind.i64 (x), Value.int IntKind.i64 (i), Value.int IntKind.i64 (d), Value.pointer (some ⟨w.heap.size, 0, none⟩), undef, undef, undef, (if listed.getD 13 false = true then Value.int IntKind.i64 (x + m) else Value.int IntKind.i64 (0)), (if listed.getD 0 false = true then Value.int IntKind.i64 (x) else undef), (if listed.getD 1 false = true then Value.int IntKind.i64 (d) else undef), (if listed.getD 2 false = true then Value.agg #[.int .i64 (k : Int), .int .i64 lv, .int .i64 ww] else undef), (if listed.getD 3 false = true then Value.int IntKind.i64 (x) else undef), (if listed.getD 4 false = true then Value.int IntKind.i64 (i) else undef), (if listed.getD 5 false = true then Value.int IntKind.i64 (dg) else undef), (if listed.getD 6 false = true then Value.int IntKind.i64 (d - dg) else undef), (if listed.getD 7 false = true then Value.pointer (some ⟨w.heap.size, 0, none⟩) else undef), (if listed.getD 8 false = true then Value.int IntKind.i64 ((k : Int)) else undef), (if listed.getD 9 false = true then Value.int IntKind.i64 (i) else undef), (if listed.getD 10 false = true then Value.int IntKind.i64 ((p : Int)) else undef), (if listed.getD 11 false = true then Value.int IntKind.i64 (m) else undef), (if listed.getD 12 false = true then Value.int IntKind.i64 (x + m) else undef)], []⟩) (hup_check (by kernel_rfl)) ?h0 ?step ?fin
  case h0 => exact ⟨(Below.refl _ _).drew, rfl⟩
  case step =>
    intro listed a' w' i hs hbi hdep hi ⟨IB, ha⟩
    obtain ⟨ls⟩ := listed
    match ls, hs with
    | [x0, x1, x2, x3, x4, x5, x6, x7, x8, x9, x10, x11, x12, x13], _ =>
    subst ha
    have hi' : i = 0 ∨ i = 1 ∨ i = 2 ∨ i = 3 ∨ i = 4 ∨ i = 5 ∨ i = 6 ∨ i = 7 ∨ i = 8 ∨ i = 9 ∨ i = 10 ∨ i = 11 ∨ i = 12 ∨ i = 13 := by simp at hi; omega
    rcases hi' with rfl | rfl | rfl | rfl | rfl | rfl | rfl | rfl | rfl | rfl | rfl | rfl | rfl | rfl
    · obtain rfl : x0 = false := by simpa using hbi
      refine wpOpIn_plain rfl rfl rfl ?_
      exact ⟨IB, rfl⟩
    · obtain rfl : x1 = false := by simpa using hbi
      refine wpOpIn_plain rfl rfl rfl ?_
      exact ⟨IB, rfl⟩
    · obtain rfl : x2 = false := by simpa using hbi
      refine wpOpIn_load_row rfl rfl 142 _ rfl w.heap.size rfl 142 _ _ _ (heapB IB.out Q0.out) Tryz.underlying142 rfl info109 ?_
      exact ⟨IB, rfl⟩
    · obtain rfl : x3 = false := by simpa using hbi
      refine wpOpIn_plain rfl rfl rfl ?_
      exact ⟨IB, rfl⟩
    · obtain rfl : x4 = false := by simpa using hbi
      refine wpOpIn_plain rfl rfl rfl ?_
      exact ⟨IB, rfl⟩
    · obtain rfl : x5 = false := by simpa using hbi
      obtain rfl : x2 = true := hdep _ rfl ⟨2, .data⟩ (by simp) rfl
      obtain rfl : x3 = true := hdep _ rfl ⟨3, .data⟩ (by simp) rfl
      obtain rfl : x4 = true := hdep _ rfl ⟨4, .data⟩ (by simp) rfl
      refine wpOpIn_call (args := #[Value.agg #[.int .i64 (k : Int), .int .i64 lv, .int .i64 ww], Value.int IntKind.i64 (x), Value.int IntKind.i64 (i)]) rfl rfl (sem_call3 rfl rfl rfl rfl (enters_of Tryz.func191 (by kernel_rfl) rfl)) (HD.out w') ?_
      rintro e V ⟨rfl, hb⟩
      exact ⟨_, rfl, (IB.out.trans (hb.mono IB.out.size)), rfl⟩
    · obtain rfl : x6 = false := by simpa using hbi
      obtain rfl : x1 = true := hdep _ rfl ⟨1, .data⟩ (by simp) rfl
      obtain rfl : x5 = true := hdep _ rfl ⟨5, .data⟩ (by simp) rfl
      refine wpOpIn_plain (v := Value.int IntKind.i64 (d - dg)) (w' := w') rfl rfl (sem_bin (vx := Value.int IntKind.i64 (d)) (vy := Value.int IntKind.i64 (dg)) rfl rfl rfl rfl (ES.out w')) ?_
      exact ⟨IB, rfl⟩
    · obtain rfl : x7 = false := by simpa using hbi
      refine wpOpIn_plain (v := Value.pointer (some ⟨w.heap.size, 0, none⟩)) (w' := w') rfl rfl (by simp [Oper.semAt, execOp, go_sem]) ?_
      exact ⟨IB, rfl⟩
    · obtain rfl : x8 = false := by simpa using hbi
      obtain rfl : x7 = true := hdep _ rfl ⟨7, .data⟩ (by simp) rfl
      have c9 := kcell IB.out C0.out
      refine wpOpIn_plain (v := Value.int IntKind.i64 ((k : Int))) (w' := w') rfl rfl (by simp [Oper.semAt, execOp, go_sem, c9]) ?_
      exact ⟨IB, rfl⟩
    · obtain rfl : x9 = false := by simpa using hbi
      refine wpOpIn_plain rfl rfl rfl ?_
      exact ⟨IB, rfl⟩
    · obtain rfl : x10 = false := by simpa using hbi
      obtain rfl : x8 = true := hdep _ rfl ⟨8, .data⟩ (by simp) rfl
      obtain rfl : x9 = true := hdep _ rfl ⟨9, .data⟩ (by simp) rfl
      refine wpOpIn_call (args := #[Value.int IntKind.i64 ((k : Int)), Value.int IntKind.i64 (i)]) rfl rfl (sem_call2 rfl rfl rfl (enters_of Tryz.func117 (by kernel_rfl) rfl)) (HP.out w') ?_
      rintro e V ⟨rfl, rfl⟩
      exact ⟨_, rfl, IB, rfl⟩
    · obtain rfl : x11 = false := by simpa using hbi
      obtain rfl : x6 = true := hdep _ rfl ⟨6, .data⟩ (by simp) rfl
      obtain rfl : x10 = true := hdep _ rfl ⟨10, .data⟩ (by simp) rfl
      refine wpOpIn_plain (v := Value.int IntKind.i64 (m)) (w' := w') rfl rfl (sem_bin (vx := Value.int IntKind.i64 (d - dg)) (vy := Value.int IntKind.i64 ((p : Int))) rfl rfl rfl rfl (EM.out w')) ?_
      exact ⟨IB, rfl⟩
    · obtain rfl : x12 = false := by simpa using hbi
      obtain rfl : x0 = true := hdep _ rfl ⟨0, .data⟩ (by simp) rfl
      obtain rfl : x11 = true := hdep _ rfl ⟨11, .data⟩ (by simp) rfl
      refine wpOpIn_plain (v := Value.int IntKind.i64 (x + m)) (w' := w') rfl rfl (sem_bin (vx := Value.int IntKind.i64 (x)) (vy := Value.int IntKind.i64 (m)) rfl rfl rfl rfl (EA.out w')) ?_
      exact ⟨IB, rfl⟩
    · obtain rfl : x13 = false := by simpa using hbi
      obtain rfl : x12 = true := hdep _ rfl ⟨12, .data⟩ (by simp) rfl
      refine wpOpIn_plain rfl rfl rfl ?_
      exact ⟨IB, rfl⟩
  case fin =>
  intro listed a' Z hs hall ⟨IB, ha⟩
  obtain ⟨ls⟩ := listed
  match ls, hs with
  | [x0, x1, x2, x3, x4, x5, x6, x7, x8, x9, x10, x11, x12, x13], _ =>
  obtain rfl : x0 = true := hall 0 (by simp)
  obtain rfl : x1 = true := hall 1 (by simp)
  obtain rfl : x2 = true := hall 2 (by simp)
  obtain rfl : x3 = true := hall 3 (by simp)
  obtain rfl : x4 = true := hall 4 (by simp)
  obtain rfl : x5 = true := hall 5 (by simp)
  obtain rfl : x6 = true := hall 6 (by simp)
  obtain rfl : x7 = true := hall 7 (by simp)
  obtain rfl : x8 = true := hall 8 (by simp)
  obtain rfl : x9 = true := hall 9 (by simp)
  obtain rfl : x10 = true := hall 10 (by simp)
  obtain rfl : x11 = true := hall 11 (by simp)
  obtain rfl : x12 = true := hall 12 (by simp)
  obtain rfl : x13 = true := hall 13 (by simp)
  subst ha
  have HZ : Hid (Below X.heap.size X Z) := IB
  clear IB hall hs
  dsimp only [Exit.then, Exit.inBlock]
  go_wp2_with fail
  go_ret
  exact ⟨rfl, HB.out.trans (HZ.out.mono HB.out.size)⟩
theorem owner_any (a h g gr po : Int) (ha : 1 ≤ a) (ha2 : a ≤ 16) (hh : 1 ≤ h) (hh2 : h ≤ 4) (hg : 0 ≤ gr) (hg2 : gr ≤ 1000) (hp : 0 ≤ po) (hp2 : po ≤ 1000) (w : World) :
    Calls Tryz.prog 204 #[.agg #[.int .i64 a, .int .i64 h, .int .i64 g], .int .i64 gr, .int .i64 po] w fun e w' => e = .returned (.int .i64 (gr * a + po / h)) ∧ Below w.heap.size w w' := by
  have HB := Lib.hid ((Below.refl w.heap.size w).alloc (Nat.le_refl _) (.cells #[.int .i64 a, .int .i64 h, .int .i64 g] 146))
  have Q0 := Lib.hid (heap_alloc_new w (.cells #[.int .i64 a, .int .i64 h, .int .i64 g] 146))
  have c0 := cellR 0 Q0.out rfl
  have c1 := cellR 1 Q0.out rfl
  have c2 := cellR 2 Q0.out rfl
  have m1 := Int.mul_le_mul hg2 ha2 (by omega) (by decide)
  have m2 := Int.mul_nonneg hg (show 0 ≤ a by omega)
  have hdle := Int.ediv_le_self h hp
  have hdnn := Int.ediv_nonneg hp (show 0 ≤ h by omega)
  have hne : h ≠ 0 := by omega
  have hw1 : wrap64 (gr * a) = gr * a := by generalize gr * a = z at *; unfold wrap64; omega
  have hw2 : wrap64 (po.tdiv h) = po / h := by rw [Int.tdiv_eq_ediv_of_nonneg hp]; generalize po / h = z at *; unfold wrap64; omega
  have hw3 : wrap64 (gr * a + po / h) = gr * a + po / h := by generalize gr * a = y at *; generalize po / h = z at *; unfold wrap64; omega
  clear Q0 m1 m2 hdle hdnn
  go_enter Tryz.func204, Tryz.ntmps204
  go_wp2_with fail
  generalize w.alloc (.cells #[.int .i64 a, .int .i64 h, .int .i64 g] 146) = X at *
  go_quiet (fail)
  go_wp2_with fail
  go_ret
  exact ⟨by first | rfl | (show Ending.returned (.int .i64 (wrap64 (gr * a + po / h))) = _; rw [hw3]), below_drewN HB.out _⟩
theorem port_any (a h g gr ot : Int) (hg0 : 1 ≤ g) (hg1 : g ≤ 1000) (hg : 0 ≤ gr) (hg2 : gr ≤ 1000) (hp : 0 ≤ ot) (hp2 : ot ≤ 1000) (w : World) :
    Calls Tryz.prog 203 #[.agg #[.int .i64 a, .int .i64 h, .int .i64 g], .int .i64 gr, .int .i64 ot] w fun e w' => e = .returned (.int .i64 ((ot - gr - 1) % g)) ∧ Below w.heap.size w w' := by
  have HB := Lib.hid ((Below.refl w.heap.size w).alloc (Nat.le_refl _) (.cells #[.int .i64 a, .int .i64 h, .int .i64 g] 146))
  have Q0 := Lib.hid (heap_alloc_new w (.cells #[.int .i64 a, .int .i64 h, .int .i64 g] 146))
  have c0 := cellR 0 Q0.out rfl
  have c1 := cellR 1 Q0.out rfl
  have c2 := cellR 2 Q0.out rfl
  have HM := Lib.hid (fun W => modulo_any (ot - gr - 1) g hg0 hg1 W)
  have hw1 : wrap64 (ot - gr) = ot - gr := by unfold wrap64; omega
  have hw2 : wrap64 (ot - gr - 1) = ot - gr - 1 := by unfold wrap64; omega
  clear Q0
  go_enter Tryz.func203, Tryz.ntmps203
  go_wp2_with fail
  generalize w.alloc (.cells #[.int .i64 a, .int .i64 h, .int .i64 g] 146) = X at *
  refine (HM.out _).mono ?_
  rintro e w1 ⟨rfl, rfl⟩
  clear HM
  go_wp2_with fail
  go_ret
  exact ⟨rfl, HB.out⟩
theorem behind_any (a h g gr po : Int) (ha : 1 ≤ a) (ha2 : a ≤ 16) (hh : 1 ≤ h) (hh2 : h ≤ 4) (hg0 : 1 ≤ g) (hg1 : g ≤ 1000) (hg : 0 ≤ gr) (hg2 : gr ≤ 1000) (hp : 0 ≤ po) (hp2 : po ≤ g - 2) (w : World) :
    Calls Tryz.prog 201 #[.agg #[.int .i64 a, .int .i64 h, .int .i64 g], .int .i64 gr, .int .i64 po] w fun e w' => e = .returned (.int .i64 ((gr + po + 1) % g * a + (g - 2 - po) / h)) ∧ Below w.heap.size w w' := by
  have HB := Lib.hid ((Below.refl w.heap.size w).alloc (Nat.le_refl _) (.cells #[.int .i64 a, .int .i64 h, .int .i64 g] 146))
  have Q0 := Lib.hid (heap_alloc_new w (.cells #[.int .i64 a, .int .i64 h, .int .i64 g] 146))
  have c0 := cellR 0 Q0.out rfl
  have c1 := cellR 1 Q0.out rfl
  have c2 := cellR 2 Q0.out rfl
  have C2 := Lib.hid c2
  have hr0 := Int.emod_nonneg (gr + po + 1) (show g ≠ 0 by omega)
  have hr1 := Int.emod_lt_of_pos (gr + po + 1) (show 0 < g by omega)
  have E1 := Lib.hid (fun W => i64_add gr po (by omega) (by omega) W)
  have E2 := Lib.hid (fun W => i64_add (gr + po) 1 (by omega) (by omega) W)
  have E3 := Lib.hid (fun W => i64_rem (gr + po + 1) g (by omega) hg0 W)
  have E4 := Lib.hid (fun W => i64_sub g 2 (by omega) (by omega) W)
  have E5 := Lib.hid (fun W => i64_sub (g - 2) po (by omega) (by omega) W)
  have HO := Lib.hid (fun W => owner_any a h g ((gr + po + 1) % g) (g - 2 - po) ha ha2 hh hh2 hr0 (by omega) (by omega) (by omega) W)
  generalize (gr + po + 1) % g = r at *
  generalize r * a + (g - 2 - po) / h = v at *
  clear hr0 hr1
  go_enter Tryz.func201, Tryz.ntmps201
  go_wp2_with fail
  generalize w.alloc (.cells #[.int .i64 a, .int .i64 h, .int .i64 g] 146) = X at *
  clear c0 c1 c2
  refine (wpIn_wide (n := 0)).1 ?_
  refine region_det (by kernel_rfl) (I := fun listed a' w' => Hid (Below X.heap.size X w') ∧ a' = ⟨#[Value.agg #[.int .i64 a, .int .i64 h, .int .i64 g], Value.int IntKind.i64 (gr), Value.int IntKind.i64 (po), Value.pointer (some ⟨w.heap.size, 0, none⟩), undef, undef, (if listed.getD 14 false = true then Value.int IntKind.i64 (v) else Value.int IntKind.i64 (0)), (if listed.getD 0 false = true then Value.agg #[.int .i64 a, .int .i64 h, .int .i64 g] else undef), (if listed.getD 1 false = true then Value.int IntKind.i64 (gr) else undef), (if listed.getD 2 false = true then Value.int IntKind.i64 (po) else undef), (if listed.getD 3 false = true then Value.int IntKind.i64 (gr + po) else undef), (if listed.getD 4 false = true then Value.int IntKind.i64 (gr + po + 1) else undef), (if listed.getD 5 false = true then Value.pointer (some ⟨w.heap.size, 2, none⟩) else undef), (if listed.getD 6 false = true then Value.int IntKind.i64 (g) else undef), (if listed.getD 7 false = true then Value.int IntKind.i64 (r) else undef), (if listed.getD 8 false = true then Value.pointer (some ⟨w.heap.size, 2, none⟩) else undef), (if listed.getD 9 false = true then Value.int IntKind.i64 (g) else undef), (if listed.getD 10 false = true then Value.int IntKind.i64 (g - 2) else undef), (if listed.getD 11 false = true then Value.int IntKind.i64 (po) else undef), (if listed.getD 12 false = true then Value.int IntKind.i64 (g - 2 - po) else undef), (if listed.getD 13 false = true then Value.int IntKind.i64 (v) else undef)], []⟩) (hup_check (by kernel_rfl)) ?h0 ?step ?fin
  case h0 => exact ⟨(Below.refl _ _).drew, rfl⟩
  case step =>
    intro listed a' w' i hs hbi hdep hi ⟨IB, ha⟩
    obtain ⟨ls⟩ := listed
    match ls, hs with
    | [x0, x1, x2, x3, x4, x5, x6, x7, x8, x9, x10, x11, x12, x13, x14], _ =>
    subst ha
    have hi' : i = 0 ∨ i = 1 ∨ i = 2 ∨ i = 3 ∨ i = 4 ∨ i = 5 ∨ i = 6 ∨ i = 7 ∨ i = 8 ∨ i = 9 ∨ i = 10 ∨ i = 11 ∨ i = 12 ∨ i = 13 ∨ i = 14 := by simp at hi; omega
    rcases hi' with rfl | rfl | rfl | rfl | rfl | rfl | rfl | rfl | rfl | rfl | rfl | rfl | rfl | rfl | rfl
    · obtain rfl : x0 = false := by simpa using hbi
      refine wpOpIn_load_row rfl rfl 146 _ rfl w.heap.size rfl 146 _ _ _ (heapB IB.out Q0.out) Tryz.underlying146 rfl info113 ?_
      exact ⟨IB, rfl⟩
    · obtain rfl : x1 = false := by simpa using hbi
      refine wpOpIn_plain rfl rfl rfl ?_
      exact ⟨IB, rfl⟩
    · obtain rfl : x2 = false := by simpa using hbi
      refine wpOpIn_plain rfl rfl rfl ?_
      exact ⟨IB, rfl⟩
    · obtain rfl : x3 = false := by simpa using hbi
      obtain rfl : x1 = true := hdep _ rfl ⟨1, .data⟩ (by simp) rfl
      obtain rfl : x2 = true := hdep _ rfl ⟨2, .data⟩ (by simp) rfl
      refine wpOpIn_plain (v := Value.int IntKind.i64 (gr + po)) (w' := w') rfl rfl (sem_bin (vx := Value.int IntKind.i64 (gr)) (vy := Value.int IntKind.i64 (po)) rfl rfl rfl rfl (E1.out w')) ?_
      exact ⟨IB, rfl⟩
    · obtain rfl : x4 = false := by simpa using hbi
      obtain rfl : x3 = true := hdep _ rfl ⟨3, .data⟩ (by simp) rfl
      refine wpOpIn_plain (v := Value.int IntKind.i64 (gr + po + 1)) (w' := w') rfl rfl (sem_bin (vx := Value.int IntKind.i64 (gr + po)) (vy := Value.int IntKind.i64 (1)) rfl rfl rfl rfl (E2.out w')) ?_
      exact ⟨IB, rfl⟩
    · obtain rfl : x5 = false := by simpa using hbi
      refine wpOpIn_plain (v := Value.pointer (some ⟨w.heap.size, 2, none⟩)) (w' := w') rfl rfl (by simp [Oper.semAt, execOp, go_sem]) ?_
      exact ⟨IB, rfl⟩
    · obtain rfl : x6 = false := by simpa using hbi
      obtain rfl : x5 = true := hdep _ rfl ⟨5, .data⟩ (by simp) rfl
      have c9 := kcell IB.out C2.out
      refine wpOpIn_plain (v := Value.int IntKind.i64 (g)) (w' := w') rfl rfl (by simp [Oper.semAt, execOp, go_sem, c9]) ?_
      exact ⟨IB, rfl⟩
    · obtain rfl : x7 = false := by simpa using hbi
      obtain rfl : x4 = true := hdep _ rfl ⟨4, .data⟩ (by simp) rfl
      obtain rfl : x6 = true := hdep _ rfl ⟨6, .data⟩ (by simp) rfl
      refine wpOpIn_plain (v := Value.int IntKind.i64 (r)) (w' := w') rfl rfl (sem_bin (vx := Value.int IntKind.i64 (gr + po + 1)) (vy := Value.int IntKind.i64 (g)) rfl rfl rfl rfl (E3.out w')) ?_
      exact ⟨IB, rfl⟩
    · obtain rfl : x8 = false := by simpa using hbi
      refine wpOpIn_plain (v := Value.pointer (some ⟨w.heap.size, 2, none⟩)) (w' := w') rfl rfl (by simp [Oper.semAt, execOp, go_sem]) ?_
      exact ⟨IB, rfl⟩
    · obtain rfl : x9 = false := by simpa using hbi
      obtain rfl : x8 = true := hdep _ rfl ⟨8, .data⟩ (by simp) rfl
      have c9 := kcell IB.out C2.out
      refine wpOpIn_plain (v := Value.int IntKind.i64 (g)) (w' := w') rfl rfl (by simp [Oper.semAt, execOp, go_sem, c9]) ?_
      exact ⟨IB, rfl⟩
    · obtain rfl : x10 = false := by simpa using hbi
      obtain rfl : x9 = true := hdep _ rfl ⟨9, .data⟩ (by simp) rfl
      refine wpOpIn_plain (v := Value.int IntKind.i64 (g - 2)) (w' := w') rfl rfl (sem_bin (vx := Value.int IntKind.i64 (g)) (vy := Value.int IntKind.i64 (2)) rfl rfl rfl rfl (E4.out w')) ?_
      exact ⟨IB, rfl⟩
    · obtain rfl : x11 = false := by simpa using hbi
      refine wpOpIn_plain rfl rfl rfl ?_
      exact ⟨IB, rfl⟩
    · obtain rfl : x12 = false := by simpa using hbi
      obtain rfl : x10 = true := hdep _ rfl ⟨10, .data⟩ (by simp) rfl
      obtain rfl : x11 = true := hdep _ rfl ⟨11, .data⟩ (by simp) rfl
      refine wpOpIn_plain (v := Value.int IntKind.i64 (g - 2 - po)) (w' := w') rfl rfl (sem_bin (vx := Value.int IntKind.i64 (g - 2)) (vy := Value.int IntKind.i64 (po)) rfl rfl rfl rfl (E5.out w')) ?_
      exact ⟨IB, rfl⟩
    · obtain rfl : x13 = false := by simpa using hbi
      obtain rfl : x0 = true := hdep _ rfl ⟨0, .data⟩ (by simp) rfl
      obtain rfl : x7 = true := hdep _ rfl ⟨7, .data⟩ (by simp) rfl
      obtain rfl : x12 = true := hdep _ rfl ⟨12, .data⟩ (by simp) rfl
      refine wpOpIn_call (args := #[Value.agg #[.int .i64 a, .int .i64 h, .int .i64 g], Value.int IntKind.i64 (r), Value.int IntKind.i64 (g - 2 - po)]) rfl rfl (sem_call3 rfl rfl rfl rfl (enters_of Tryz.func204 (by kernel_rfl) rfl)) (HO.out w') ?_
      rintro e V ⟨rfl, hb⟩
      exact ⟨_, rfl, (IB.out.trans (hb.mono IB.out.size)), rfl⟩
    · obtain rfl : x14 = false := by simpa using hbi
      obtain rfl : x13 = true := hdep _ rfl ⟨13, .data⟩ (by simp) rfl
      refine wpOpIn_plain rfl rfl rfl ?_
      exact ⟨IB, rfl⟩
  case fin =>
  intro listed a' Z hs hall ⟨IB, ha⟩
  obtain ⟨ls⟩ := listed
  match ls, hs with
  | [x0, x1, x2, x3, x4, x5, x6, x7, x8, x9, x10, x11, x12, x13, x14], _ =>
  obtain rfl : x0 = true := hall 0 (by simp)
  obtain rfl : x1 = true := hall 1 (by simp)
  obtain rfl : x2 = true := hall 2 (by simp)
  obtain rfl : x3 = true := hall 3 (by simp)
  obtain rfl : x4 = true := hall 4 (by simp)
  obtain rfl : x5 = true := hall 5 (by simp)
  obtain rfl : x6 = true := hall 6 (by simp)
  obtain rfl : x7 = true := hall 7 (by simp)
  obtain rfl : x8 = true := hall 8 (by simp)
  obtain rfl : x9 = true := hall 9 (by simp)
  obtain rfl : x10 = true := hall 10 (by simp)
  obtain rfl : x11 = true := hall 11 (by simp)
  obtain rfl : x12 = true := hall 12 (by simp)
  obtain rfl : x13 = true := hall 13 (by simp)
  obtain rfl : x14 = true := hall 14 (by simp)
  subst ha
  have HZ : Hid (Below X.heap.size X Z) := IB
  clear IB hall hs
  dsimp only [Exit.then, Exit.inBlock]
  go_wp2_with fail
  go_ret
  exact ⟨rfl, HB.out.trans (HZ.out.mono HB.out.size)⟩
end Go.Proofs.YtbhkenphcahifaaGreat
namespace Go.Proofs.YtbhkenphcahifaaGreat
open Go.RowKit Go.Shelf
attribute [local go_sem] Oper.semAt_some
set_option maxRecDepth 100000
set_option maxHeartbeats 4000000
/-- what an iterator has captured, and what it has made -/
def Cap (n0 o : Nat) (cs : List (Nat × Obj)) (W : World) : Prop := ∀ p ∈ cs, Fq n0 o p.1 W ∧ W.heap[p.1]? = some p.2
theorem Cap.kq {n0 o : Nat} {cs : List (Nat × Obj)} {W W' : World} (h : Cap n0 o cs W) (k : Kq n0 o W W') : Cap n0 o cs W' :=
  fun p hp => ⟨(k.2 _ (h p hp).1).2, ((k.2 _ (h p hp).1).1).trans (h p hp).2⟩
theorem Cap.below {J : World → Prop} {n0 o : Nat} {cs : List (Nat × Obj)} {W W' : World} (h : Cap n0 o cs W) (P : Priv J (Fq n0 o)) (hJ : J W) (hb : Below W.heap.size W W') : Cap n0 o cs W' :=
  fun p hp => ⟨P.grow _ _ _ hJ (h p hp).1 hb, heapB hb (h p hp).2⟩
theorem Cap.drewN {n0 o : Nat} {cs : List (Nat × Obj)} {W : World} (h : Cap n0 o cs W) (q : Nat) : Cap n0 o cs (W.drewN q) := h
theorem Cap.m0 {n0 o : Nat} {p : Nat × Obj} {r : List (Nat × Obj)} {W : World} (h : Cap n0 o (p :: r) W) : W.heap[p.1]? = some p.2 := (h p (by simp)).2
theorem Cap.m1 {n0 o : Nat} {p q : Nat × Obj} {r : List (Nat × Obj)} {W : World} (h : Cap n0 o (p :: q :: r) W) : W.heap[q.1]? = some q.2 := (h q (by simp)).2
theorem Cap.m2 {n0 o : Nat} {p q s : Nat × Obj} {r : List (Nat × Obj)} {W : World} (h : Cap n0 o (p :: q :: s :: r) W) : W.heap[s.1]? = some s.2 := (h s (by simp)).2
abbrev encP : Int × Int → Array Value := fun p => #[.int .i64 p.1, .int .i64 p.2]
/-- a route in a dragonfly -/
def dragL (a h x y : Int) : List (Int × Int) :=
  if x / a ≠ y / a then
    (if x / a * a + ((y / a - x / a - 1) % (a * h + 1)) / h ≠ x then [(x / a * a + ((y / a - x / a - 1) % (a * h + 1)) / h, 0)] else []) ++
    ((x / a + (y / a - x / a - 1) % (a * h + 1) + 1) % (a * h + 1) * a + (a * h + 1 - 2 - (y / a - x / a - 1) % (a * h + 1)) / h, 0) ::
    (if (x / a + (y / a - x / a - 1) % (a * h + 1) + 1) % (a * h + 1) * a + (a * h + 1 - 2 - (y / a - x / a - 1) % (a * h + 1)) / h ≠ y then [(y, 1)] else [])
  else if x ≠ y then [(y, 0)] else []
theorem dragIter (n0 o Bs Bx By : Nat) (a h x y : Int) (ha : 1 ≤ a) (ha2 : a ≤ 16) (hh : 1 ≤ h) (hh2 : h ≤ 4) (hx : 0 ≤ x) (hx2 : x < a * (a * h + 1)) (hy : 0 ≤ y) (hy2 : y < a * (a * h + 1)) {w : World}
    (q0 : w.heap[Bs]? = some (.cells #[.int .i64 a, .int .i64 h, .int .i64 (a * h + 1)] 146 (0, 0))) (q1 : w.heap[Bx]? = some (.cells #[.int .i64 x] 3 (0, 0))) (q2 : w.heap[By]? = some (.cells #[.int .i64 y] 3 (0, 0))) (n : Nat) :
    SeqW n 202 #[.pointer (some ⟨Bx, 0, none⟩), .pointer (some ⟨Bs, 0, none⟩), .pointer (some ⟨By, 0, none⟩)] encP (Kq n0 o) (Fq n0 o) (fun b => b = Bs ∨ b = Bx ∨ b = By) (dragL a h x y) w := by
  intro ll J W hW hnd hP hY h0
  have HC : Hid (Cap n0 o [(Bs, .cells #[.int .i64 a, .int .i64 h, .int .i64 (a * h + 1)] 146 (0, 0)), (Bx, .cells #[.int .i64 x] 3 (0, 0)), (By, .cells #[.int .i64 y] 3 (0, 0))] W) := by
    intro p hp
    simp only [List.mem_cons, List.not_mem_nil, or_false] at hp
    rcases hp with rfl | rfl | rfl
    · exact ⟨hnd _ (.inl rfl), heapB hW q0⟩
    · exact ⟨hnd _ (.inr (.inl rfl)), heapB hW q1⟩
    · exact ⟨hnd _ (.inr (.inr rfl)), heapB hW q2⟩
  have HY := Lib.hid hY
  have HP := Lib.hid hP
  clear hY hnd hW q0 q1 q2 hP
  obtain ⟨b1, b2, b3, b4⟩ : 1 ≤ a * h ∧ a * h ≤ 64 ∧ 1 ≤ a * (a * h + 1) ∧ a * (a * h + 1) ≤ 1040 := drag_bound ha ha2 hh hh2
  obtain ⟨g, hg⟩ : ∃ g, g = a * h + 1 := ⟨_, rfl⟩
  have hg0 : 1 ≤ g := by omega
  have hg1 : g ≤ 1000 := by omega
  have hgx0 := Int.ediv_nonneg hx (show 0 ≤ a by omega)
  have hgy0 := Int.ediv_nonneg hy (show 0 ≤ a by omega)
  have hgx1 : x / a < g := Int.ediv_lt_of_lt_mul (by omega) (by rw [hg, Int.mul_comm]; exact hx2)
  have hgy1 : y / a < g := Int.ediv_lt_of_lt_mul (by omega) (by rw [hg, Int.mul_comm]; exact hy2)
  have E1 : wrap64 (x.tdiv a) = x / a := by rw [Int.tdiv_eq_ediv_of_nonneg hx]; unfold wrap64; omega
  have E2 : wrap64 (y.tdiv a) = y / a := by rw [Int.tdiv_eq_ediv_of_nonneg hy]; unfold wrap64; omega
  have hane : a ≠ 0 := by omega
  have hDL : dragL a h x y = if x / a ≠ y / a then (if x / a * a + ((y / a - x / a - 1) % g) / h ≠ x then [(x / a * a + ((y / a - x / a - 1) % g) / h, 0)] else []) ++ ((x / a + (y / a - x / a - 1) % g + 1) % g * a + (g - 2 - (y / a - x / a - 1) % g) / h, 0) :: (if (x / a + (y / a - x / a - 1) % g + 1) % g * a + (g - 2 - (y / a - x / a - 1) % g) / h ≠ y then [(y, 1)] else []) else if x ≠ y then [(y, 0)] else [] := by rw [hg]; rfl
  rw [← hg] at HC
  clear hg b1 b2 b3 b4 hx2 hy2
  have hpo0 := Int.emod_nonneg (y / a - x / a - 1) (show g ≠ 0 by omega)
  have hpo1 : x / a ≠ y / a → (y / a - x / a - 1) % g ≤ g - 2 := fun hne => by
    have h5 : (y / a - x / a - 1) % g = if x / a < y / a then y / a - x / a - 1 else y / a - x / a - 1 + g := by
      split
      · exact Int.emod_eq_of_lt (by omega) (by omega)
      · rw [← Int.add_emod_right]; exact Int.emod_eq_of_lt (by omega) (by omega)
    rw [h5]; split <;> omega
  have HPT := Lib.hid (fun W => port_any a h g (x / a) (y / a) hg0 hg1 hgx0 (by omega) hgy0 (by omega) W)
  have HOW := Lib.hid (fun (hne : x / a ≠ y / a) W => owner_any a h g (x / a) ((y / a - x / a - 1) % g) ha ha2 hh hh2 hgx0 (by omega) hpo0 (by have := hpo1 hne; omega) W)
  have HBE := Lib.hid (fun (hne : x / a ≠ y / a) W => behind_any a h g (x / a) ((y / a - x / a - 1) % g) ha ha2 hh hh2 hg0 hg1 hgx0 (by omega) hpo0 (hpo1 hne) W)
  generalize (x / a + (y / a - x / a - 1) % g + 1) % g * a + (g - 2 - (y / a - x / a - 1) % g) / h = bh at *
  generalize x / a * a + ((y / a - x / a - 1) % g) / h = ex at *
  generalize (y / a - x / a - 1) % g = po at *
  generalize x / a = gx at *
  generalize y / a = gy at *
  clear ha ha2 hh hh2 hx hy hg0 hg1 hgx0 hgy0 hgx1 hgy1 hpo0 hpo1
  have HDL := Lib.hid hDL
  clear hDL
  generalize dragL a h x y = DL at *
  by_cases hgg : gx = gy
  · have hne : (gx != gy) = false := by simp [hgg]
    by_cases hxy : x = y
    · have hxe : (x != y) = false := by simp [hxy]
      have HL : DL = [] := by rw [HDL.out, if_neg (by simp [hgg]), if_neg (by simp [hxy])]
      clear HDL hgg hxy HPT HOW HBE
      have k0 := HC.out.m0
      have k1 := HC.out.m1
      have k2 := HC.out.m2
      have c0 := cellR 0 k0 rfl
      have c1 := cellR 1 k0 rfl
      have c2 := cellR 2 k0 rfl
      have d0 := cellR 0 k1 rfl
      have e0 := cellR 0 k2 rfl
      refine callsIn_of_wp Tryz.func202 rfl trivial ?_ rfl
      simp only [Tryz.ntmps202, List.size_toArray, List.length_cons, List.length_nil, Nat.reduceAdd, Nat.reduceSub, Array.replicate_succ, Array.replicate_zero, List.push_toArray, List.append_toArray, List.nil_append, List.cons_append]
      gi_wp2
      refine wpIn_wide.2 ?_
      go_quiet (fail)
      clear k0 k1 k2 c0 c1 c2 d0 e0
      replace HC := Lib.hid (HC.out.drewN nq)
      replace h0 : J [] (W.drewN nq) := (HP.out []).jgrow _ _ h0 (below_drewN (Below.refl _ _) _)
      generalize W.drewN nq = W1 at *
      have k0 := HC.out.m0
      have k1 := HC.out.m1
      have k2 := HC.out.m2
      have c0 := cellR 0 k0 rfl
      have c1 := cellR 1 k0 rfl
      have c2 := cellR 2 k0 rfl
      have d0 := cellR 0 k1 rfl
      have e0 := cellR 0 k2 rfl
      gi_wp2
      go_end0
      exact ⟨⟨_, rfl⟩, by first | exact h0 | (rw [HL]; exact h0)⟩
    · have hxe : (x != y) = true := bne_iff_ne.2 hxy
      have HL : DL = [(y, 0)] := by rw [HDL.out, if_neg (by simp [hgg]), if_pos hxy]
      clear HDL hgg hxy HPT HOW HBE
      have k0 := HC.out.m0
      have k1 := HC.out.m1
      have k2 := HC.out.m2
      have c0 := cellR 0 k0 rfl
      have c1 := cellR 1 k0 rfl
      have c2 := cellR 2 k0 rfl
      have d0 := cellR 0 k1 rfl
      have e0 := cellR 0 k2 rfl
      refine callsIn_of_wp Tryz.func202 rfl trivial ?_ rfl
      simp only [Tryz.ntmps202, List.size_toArray, List.length_cons, List.length_nil, Nat.reduceAdd, Nat.reduceSub, Array.replicate_succ, Array.replicate_zero, List.push_toArray, List.append_toArray, List.nil_append, List.cons_append]
      gi_wp2
      refine wpIn_wide.2 ?_
      go_quiet (fail)
      clear k0 k1 k2 c0 c1 c2 d0 e0
      replace HC := Lib.hid (HC.out.drewN nq)
      replace h0 : J [] (W.drewN nq) := (HP.out []).jgrow _ _ h0 (below_drewN (Below.refl _ _) _)
      generalize W.drewN nq = W1 at *
      have k0 := HC.out.m0
      have k1 := HC.out.m1
      have k2 := HC.out.m2
      have c0 := cellR 0 k0 rfl
      have c1 := cellR 1 k0 rfl
      have c2 := cellR 2 k0 rfl
      have d0 := cellR 0 k1 rfl
      have e0 := cellR 0 k2 rfl
      obtain ⟨fn, tm, as_, bd, hy, hR⟩ := HY.out [] (y, 0) _ h0 (by rw [HL]; simp)
      gi_wp2
      refine ⟨fun h => (by cases h), ?_⟩
      refine hR.mono ?_
      rintro e W2 ⟨rfl, h1, hk⟩
      replace HC := Lib.hid (HC.out.kq hk)
      clear hy hR hk h0 k0 k1 k2 c0 c1 c2 d0 e0
      have h0 := h1
      simp only [List.nil_append, List.cons_append] at h0
      clear h1
      gi_wp2
      go_end0
      exact ⟨⟨_, rfl⟩, by first | exact h0 | (rw [HL]; exact h0)⟩
  · have hne : (gx != gy) = true := bne_iff_ne.2 hgg
    by_cases hex : ex = x
    · have hxe : (ex != x) = false := by simp [hex]
      by_cases hbe : bh = y
      · have hye : (bh != y) = false := by simp [hbe]
        have HL : DL = [(bh, 0)] := by rw [HDL.out, if_pos hgg, if_neg (by simp [hex]), if_neg (by simp [hbe])]; rfl
        have HOW2 := Lib.hid (HOW.out hgg)
        have HBE2 := Lib.hid (HBE.out hgg)
        clear HDL hgg hex hbe HOW HBE
        have k0 := HC.out.m0
        have k1 := HC.out.m1
        have k2 := HC.out.m2
        have c0 := cellR 0 k0 rfl
        have c1 := cellR 1 k0 rfl
        have c2 := cellR 2 k0 rfl
        have d0 := cellR 0 k1 rfl
        have e0 := cellR 0 k2 rfl
        refine callsIn_of_wp Tryz.func202 rfl trivial ?_ rfl
        simp only [Tryz.ntmps202, List.size_toArray, List.length_cons, List.length_nil, Nat.reduceAdd, Nat.reduceSub, Array.replicate_succ, Array.replicate_zero, List.push_toArray, List.append_toArray, List.nil_append, List.cons_append]
        gi_wp2
        refine wpIn_wide.2 ?_
        go_quiet (fail)
        clear k0 k1 k2 c0 c1 c2 d0 e0
        replace HC := Lib.hid (HC.out.drewN nq)
        replace h0 : J [] (W.drewN nq) := (HP.out []).jgrow _ _ h0 (below_drewN (Below.refl _ _) _)
        generalize W.drewN nq = W1 at *
        have k0 := HC.out.m0
        have k1 := HC.out.m1
        have k2 := HC.out.m2
        have c0 := cellR 0 k0 rfl
        have c1 := cellR 1 k0 rfl
        have c2 := cellR 2 k0 rfl
        have d0 := cellR 0 k1 rfl
        have e0 := cellR 0 k2 rfl
        gi_wp2
        refine ⟨trivial, fun h => (by cases h), callsIn_wide.2 ((HPT.out _).mono ?_)⟩
        rintro e W2 ⟨rfl, hb⟩
        replace HC := Lib.hid (HC.out.below (HP.out []) h0 hb)
        replace h0 := (HP.out []).jgrow _ _ h0 hb
        clear hb k0 k1 k2 c0 c1 c2 d0 e0
        clear HPT
        have k0 := HC.out.m0
        have k1 := HC.out.m1
        have k2 := HC.out.m2
        have c0 := cellR 0 k0 rfl
        have c1 := cellR 1 k0 rfl
        have c2 := cellR 2 k0 rfl
        have d0 := cellR 0 k1 rfl
        have e0 := cellR 0 k2 rfl
        gi_wp2
        refine ⟨trivial, fun h => (by cases h), callsIn_wide.2 ((HOW2.out _).mono ?_)⟩
        rintro e W3 ⟨rfl, hb⟩
        replace HC := Lib.hid (HC.out.below (HP.out []) h0 hb)
        replace h0 := (HP.out []).jgrow _ _ h0 hb
        clear hb k0 k1 k2 c0 c1 c2 d0 e0
        clear HOW2
        have k0 := HC.out.m0
        have k1 := HC.out.m1
        have k2 := HC.out.m2
        have c0 := cellR 0 k0 rfl
        have c1 := cellR 1 k0 rfl
        have c2 := cellR 2 k0 rfl
        have d0 := cellR 0 k1 rfl
        have e0 := cellR 0 k2 rfl
        gi_wp2
        refine ⟨fun _ h => (by cases h), ?_⟩
        gi_wp2
        refine ⟨trivial, fun h => (by cases h), callsIn_wide.2 ((HBE2.out _).mono ?_)⟩
        rintro e W5 ⟨rfl, hb⟩
        replace HC := Lib.hid (HC.out.below (HP.out []) h0 hb)
        replace h0 := (HP.out []).jgrow _ _ h0 hb
        clear hb k0 k1 k2 c0 c1 c2 d0 e0
        clear HBE2
        have k0 := HC.out.m0
        have k1 := HC.out.m1
        have k2 := HC.out.m2
        have c0 := cellR 0 k0 rfl
        have c1 := cellR 1 k0 rfl
        have c2 := cellR 2 k0 rfl
        have d0 := cellR 0 k1 rfl
        have e0 := cellR 0 k2 rfl
        obtain ⟨fn, tm, as_, bd, hy, hR⟩ := HY.out [] (bh, 0) _ h0 (by rw [HL]; simp)
        gi_wp2
        refine ⟨fun h => (by cases h), ?_⟩
        refine hR.mono ?_
        rintro e W6 ⟨rfl, h1, hk⟩
        replace HC := Lib.hid (HC.out.kq hk)
        clear hy hR hk h0 k0 k1 k2 c0 c1 c2 d0 e0
        have h0 := h1
        simp only [List.nil_append, List.cons_append] at h0
        clear h1
        have k0 := HC.out.m0
        have k1 := HC.out.m1
        have k2 := HC.out.m2
        have c0 := cellR 0 k0 rfl
        have c1 := cellR 1 k0 rfl
        have c2 := cellR 2 k0 rfl
        have d0 := cellR 0 k1 rfl
        have e0 := cellR 0 k2 rfl
        gi_wp2
        go_end0
        exact ⟨⟨_, rfl⟩, by first | exact h0 | (rw [HL]; exact h0)⟩
      · have hye : (bh != y) = true := bne_iff_ne.2 hbe
        have HL : DL = [(bh, 0), (y, 1)] := by rw [HDL.out, if_pos hgg, if_neg (by simp [hex]), if_pos hbe]; rfl
        have HOW2 := Lib.hid (HOW.out hgg)
        have HBE2 := Lib.hid (HBE.out hgg)
        clear HDL hgg hex hbe HOW HBE
        have k0 := HC.out.m0
        have k1 := HC.out.m1
        have k2 := HC.out.m2
        have c0 := cellR 0 k0 rfl
        have c1 := cellR 1 k0 rfl
        have c2 := cellR 2 k0 rfl
        have d0 := cellR 0 k1 rfl
        have e0 := cellR 0 k2 rfl
        refine callsIn_of_wp Tryz.func202 rfl trivial ?_ rfl
        simp only [Tryz.ntmps202, List.size_toArray, List.length_cons, List.length_nil, Nat.reduceAdd, Nat.reduceSub, Array.replicate_succ, Array.replicate_zero, List.push_toArray, List.append_toArray, List.nil_append, List.cons_append]
        gi_wp2
        refine wpIn_wide.2 ?_
        go_quiet (fail)
        clear k0 k1 k2 c0 c1 c2 d0 e0
        replace HC := Lib.hid (HC.out.drewN nq)
        replace h0 : J [] (W.drewN nq) := (HP.out []).jgrow _ _ h0 (below_drewN (Below.refl _ _) _)
        generalize W.drewN nq = W1 at *
        have k0 := HC.out.m0
        have k1 := HC.out.m1
        have k2 := HC.out.m2
        have c0 := cellR 0 k0 rfl
        have c1 := cellR 1 k0 rfl
        have c2 := cellR 2 k0 rfl
        have d0 := cellR 0 k1 rfl
        have e0 := cellR 0 k2 rfl
        gi_wp2
        refine ⟨trivial, fun h => (by cases h), callsIn_wide.2 ((HPT.out _).mono ?_)⟩
        rintro e W2 ⟨rfl, hb⟩
        replace HC := Lib.hid (HC.out.below (HP.out []) h0 hb)
        replace h0 := (HP.out []).jgrow _ _ h0 hb
        clear hb k0 k1 k2 c0 c1 c2 d0 e0
        clear HPT
        have k0 := HC.out.m0
        have k1 := HC.out.m1
        have k2 := HC.out.m2
        have c0 := cellR 0 k0 rfl
        have c1 := cellR 1 k0 rfl
        have c2 := cellR 2 k0 rfl
        have d0 := cellR 0 k1 rfl
        have e0 := cellR 0 k2 rfl
        gi_wp2
        refine ⟨trivial, fun h => (by cases h), callsIn_wide.2 ((HOW2.out _).mono ?_)⟩
        rintro e W3 ⟨rfl, hb⟩
        replace HC := Lib.hid (HC.out.below (HP.out []) h0 hb)
        replace h0 := (HP.out []).jgrow _ _ h0 hb
        clear hb k0 k1 k2 c0 c1 c2 d0 e0
        clear HOW2
        have k0 := HC.out.m0
        have k1 := HC.out.m1
        have k2 := HC.out.m2
        have c0 := cellR 0 k0 rfl
        have c1 := cellR 1 k0 rfl
        have c2 := cellR 2 k0 rfl
        have d0 := cellR 0 k1 rfl
        have e0 := cellR 0 k2 rfl
        gi_wp2
        refine ⟨fun _ h => (by cases h), ?_⟩
        gi_wp2
        refine ⟨trivial, fun h => (by cases h), callsIn_wide.2 ((HBE2.out _).mono ?_)⟩
        rintro e W5 ⟨rfl, hb⟩
        replace HC := Lib.hid (HC.out.below (HP.out []) h0 hb)
        replace h0 := (HP.out []).jgrow _ _ h0 hb
        clear hb k0 k1 k2 c0 c1 c2 d0 e0
        clear HBE2
        have k0 := HC.out.m0
        have k1 := HC.out.m1
        have k2 := HC.out.m2
        have c0 := cellR 0 k0 rfl
        have c1 := cellR 1 k0 rfl
        have c2 := cellR 2 k0 rfl
        have d0 := cellR 0 k1 rfl
        have e0 := cellR 0 k2 rfl
        obtain ⟨fn, tm, as_, bd, hy, hR⟩ := HY.out [] (bh, 0) _ h0 (by rw [HL]; simp)
        gi_wp2
        refine ⟨fun h => (by cases h), ?_⟩
        refine hR.mono ?_
        rintro e W6 ⟨rfl, h1, hk⟩
        replace HC := Lib.hid (HC.out.kq hk)
        clear hy hR hk h0 k0 k1 k2 c0 c1 c2 d0 e0
        have h0 := h1
        simp only [List.nil_append, List.cons_append] at h0
        clear h1
        have k0 := HC.out.m0
        have k1 := HC.out.m1
        have k2 := HC.out.m2
        have c0 := cellR 0 k0 rfl
        have c1 := cellR 1 k0 rfl
        have c2 := cellR 2 k0 rfl
        have d0 := cellR 0 k1 rfl
        have e0 := cellR 0 k2 rfl
        obtain ⟨fn, tm, as_, bd, hy, hR⟩ := HY.out [(bh, 0)] (y, 1) _ h0 (by rw [HL]; simp)
        gi_wp2
        refine ⟨fun h => (by cases h), ?_⟩
        refine hR.mono ?_
        rintro e W7 ⟨rfl, h1, hk⟩
        replace HC := Lib.hid (HC.out.kq hk)
        clear hy hR hk h0 k0 k1 k2 c0 c1 c2 d0 e0
        have h0 := h1
        simp only [List.nil_append, List.cons_append] at h0
        clear h1
        gi_wp2
        go_end0
        exact ⟨⟨_, rfl⟩, by first | exact h0 | (rw [HL]; exact h0)⟩
    · have hxe : (ex != x) = true := bne_iff_ne.2 hex
      by_cases hbe : bh = y
      · have hye : (bh != y) = false := by simp [hbe]
        have HL : DL = [(ex, 0), (bh, 0)] := by rw [HDL.out, if_pos hgg, if_pos hex, if_neg (by simp [hbe])]; rfl
        have HOW2 := Lib.hid (HOW.out hgg)
        have HBE2 := Lib.hid (HBE.out hgg)
        clear HDL hgg hex hbe HOW HBE
        have k0 := HC.out.m0
        have k1 := HC.out.m1
        have k2 := HC.out.m2
        have c0 := cellR 0 k0 rfl
        have c1 := cellR 1 k0 rfl
        have c2 := cellR 2 k0 rfl
        have d0 := cellR 0 k1 rfl
        have e0 := cellR 0 k2 rfl
        refine callsIn_of_wp Tryz.func202 rfl trivial ?_ rfl
        simp only [Tryz.ntmps202, List.size_toArray, List.length_cons, List.length_nil, Nat.reduceAdd, Nat.reduceSub, Array.replicate_succ, Array.replicate_zero, List.push_toArray, List.append_toArray, List.nil_append, List.cons_append]
        gi_wp2
        refine wpIn_wide.2 ?_
        go_quiet (fail)
        clear k0 k1 k2 c0 c1 c2 d0 e0
        replace HC := Lib.hid (HC.out.drewN nq)
        replace h0 : J [] (W.drewN nq) := (HP.out []).jgrow _ _ h0 (below_drewN (Below.refl _ _) _)
        generalize W.drewN nq = W1 at *
        have k0 := HC.out.m0
        have k1 := HC.out.m1
        have k2 := HC.out.m2
        have c0 := cellR 0 k0 rfl
        have c1 := cellR 1 k0 rfl
        have c2 := cellR 2 k0 rfl
        have d0 := cellR 0 k1 rfl
        have e0 := cellR 0 k2 rfl
        gi_wp2
        refine ⟨trivial, fun h => (by cases h), callsIn_wide.2 ((HPT.out _).mono ?_)⟩
        rintro e W2 ⟨rfl, hb⟩
        replace HC := Lib.hid (HC.out.below (HP.out []) h0 hb)
        replace h0 := (HP.out []).jgrow _ _ h0 hb
        clear hb k0 k1 k2 c0 c1 c2 d0 e0
        clear HPT
        have k0 := HC.out.m0
        have k1 := HC.out.m1
        have k2 := HC.out.m2
        have c0 := cellR 0 k0 rfl
        have c1 := cellR 1 k0 rfl
        have c2 := cellR 2 k0 rfl
        have d0 := cellR 0 k1 rfl
        have e0 := cellR 0 k2 rfl
        gi_wp2
        refine ⟨trivial, fun h => (by cases h), callsIn_wide.2 ((HOW2.out _).mono ?_)⟩
        rintro e W3 ⟨rfl, hb⟩
        replace HC := Lib.hid (HC.out.below (HP.out []) h0 hb)
        replace h0 := (HP.out []).jgrow _ _ h0 hb
        clear hb k0 k1 k2 c0 c1 c2 d0 e0
        clear HOW2
        have k0 := HC.out.m0
        have k1 := HC.out.m1
        have k2 := HC.out.m2
        have c0 := cellR 0 k0 rfl
        have c1 := cellR 1 k0 rfl
        have c2 := cellR 2 k0 rfl
        have d0 := cellR 0 k1 rfl
        have e0 := cellR 0 k2 rfl
        obtain ⟨fn, tm, as_, bd, hy, hR⟩ := HY.out [] (ex, 0) _ h0 (by rw [HL]; simp)
        gi_wp2
        refine ⟨fun h => (by cases h), ?_⟩
        refine hR.mono ?_
        rintro e W4 ⟨rfl, h1, hk⟩
        replace HC := Lib.hid (HC.out.kq hk)
        clear hy hR hk h0 k0 k1 k2 c0 c1 c2 d0 e0
        have h0 := h1
        simp only [List.nil_append, List.cons_append] at h0
        clear h1
        have k0 := HC.out.m0
        have k1 := HC.out.m1
        have k2 := HC.out.m2
        have c0 := cellR 0 k0 rfl
        have c1 := cellR 1 k0 rfl
        have c2 := cellR 2 k0 rfl
        have d0 := cellR 0 k1 rfl
        have e0 := cellR 0 k2 rfl
        gi_wp2
        refine ⟨trivial, fun h => (by cases h), callsIn_wide.2 ((HBE2.out _).mono ?_)⟩
        rintro e W5 ⟨rfl, hb⟩
        replace HC := Lib.hid (HC.out.below (HP.out [(ex, 0)]) h0 hb)
        replace h0 := (HP.out [(ex, 0)]).jgrow _ _ h0 hb
        clear hb k0 k1 k2 c0 c1 c2 d0 e0
        clear HBE2
        have k0 := HC.out.m0
        have k1 := HC.out.m1
        have k2 := HC.out.m2
        have c0 := cellR 0 k0 rfl
        have c1 := cellR 1 k0 rfl
        have c2 := cellR 2 k0 rfl
        have d0 := cellR 0 k1 rfl
        have e0 := cellR 0 k2 rfl
        obtain ⟨fn, tm, as_, bd, hy, hR⟩ := HY.out [(ex, 0)] (bh, 0) _ h0 (by rw [HL]; simp)
        gi_wp2
        refine ⟨fun h => (by cases h), ?_⟩
        refine hR.mono ?_
        rintro e W6 ⟨rfl, h1, hk⟩
        replace HC := Lib.hid (HC.out.kq hk)
        clear hy hR hk h0 k0 k1 k2 c0 c1 c2 d0 e0
        have h0 := h1
        simp only [List.nil_append, List.cons_append] at h0
        clear h1
        have k0 := HC.out.m0
        have k1 := HC.out.m1
        have k2 := HC.out.m2
        have c0 := cellR 0 k0 rfl
        have c1 := cellR 1 k0 rfl
        have c2 := cellR 2 k0 rfl
        have d0 := cellR 0 k1 rfl
        have e0 := cellR 0 k2 rfl
        gi_wp2
        go_end0
        exact ⟨⟨_, rfl⟩, by first | exact h0 | (rw [HL]; exact h0)⟩
      · have hye : (bh != y) = true := bne_iff_ne.2 hbe
        have HL : DL = [(ex, 0), (bh, 0), (y, 1)] := by rw [HDL.out, if_pos hgg, if_pos hex, if_pos hbe]; rfl
        have HOW2 := Lib.hid (HOW.out hgg)
        have HBE2 := Lib.hid (HBE.out hgg)
        clear HDL hgg hex hbe HOW HBE
        have k0 := HC.out.m0
        have k1 := HC.out.m1
        have k2 := HC.out.m2
        have c0 := cellR 0 k0 rfl
        have c1 := cellR 1 k0 rfl
        have c2 := cellR 2 k0 rfl
        have d0 := cellR 0 k1 rfl
        have e0 := cellR 0 k2 rfl
        refine callsIn_of_wp Tryz.func202 rfl trivial ?_ rfl
        simp only [Tryz.ntmps202, List.size_toArray, List.length_cons, List.length_nil, Nat.reduceAdd, Nat.reduceSub, Array.replicate_succ, Array.replicate_zero, List.push_toArray, List.append_toArray, List.nil_append, List.cons_append]
        gi_wp2
        refine wpIn_wide.2 ?_
        go_quiet (fail)
        clear k0 k1 k2 c0 c1 c2 d0 e0
        replace HC := Lib.hid (HC.out.drewN nq)
        replace h0 : J [] (W.drewN nq) := (HP.out []).jgrow _ _ h0 (below_drewN (Below.refl _ _) _)
        generalize W.drewN nq = W1 at *
        have k0 := HC.out.m0
        have k1 := HC.out.m1
        have k2 := HC.out.m2
        have c0 := cellR 0 k0 rfl
        have c1 := cellR 1 k0 rfl
        have c2 := cellR 2 k0 rfl
        have d0 := cellR 0 k1 rfl
        have e0 := cellR 0 k2 rfl
        gi_wp2
        refine ⟨trivial, fun h => (by cases h), callsIn_wide.2 ((HPT.out _).mono ?_)⟩
        rintro e W2 ⟨rfl, hb⟩
        replace HC := Lib.hid (HC.out.below (HP.out []) h0 hb)
        replace h0 := (HP.out []).jgrow _ _ h0 hb
        clear hb k0 k1 k2 c0 c1 c2 d0 e0
        clear HPT
        have k0 := HC.out.m0
        have k1 := HC.out.m1
        have k2 := HC.out.m2
        have c0 := cellR 0 k0 rfl
        have c1 := cellR 1 k0 rfl
        have c2 := cellR 2 k0 rfl
        have d0 := cellR 0 k1 rfl
        have e0 := cellR 0 k2 rfl
        gi_wp2
        refine ⟨trivial, fun h => (by cases h), callsIn_wide.2 ((HOW2.out _).mono ?_)⟩
        rintro e W3 ⟨rfl, hb⟩
        replace HC := Lib.hid (HC.out.below (HP.out []) h0 hb)
        replace h0 := (HP.out []).jgrow _ _ h0 hb
        clear hb k0 k1 k2 c0 c1 c2 d0 e0
        clear HOW2
        have k0 := HC.out.m0
        have k1 := HC.out.m1
        have k2 := HC.out.m2
        have c0 := cellR 0 k0 rfl
        have c1 := cellR 1 k0 rfl
        have c2 := cellR 2 k0 rfl
        have d0 := cellR 0 k1 rfl
        have e0 := cellR 0 k2 rfl
        obtain ⟨fn, tm, as_, bd, hy, hR⟩ := HY.out [] (ex, 0) _ h0 (by rw [HL]; simp)
        gi_wp2
        refine ⟨fun h => (by cases h), ?_⟩
        refine hR.mono ?_
        rintro e W4 ⟨rfl, h1, hk⟩
        replace HC := Lib.hid (HC.out.kq hk)
        clear hy hR hk h0 k0 k1 k2 c0 c1 c2 d0 e0
        have h0 := h1
        simp only [List.nil_append, List.cons_append] at h0
        clear h1
        have k0 := HC.out.m0
        have k1 := HC.out.m1
        have k2 := HC.out.m2
        have c0 := cellR 0 k0 rfl
        have c1 := cellR 1 k0 rfl
        have c2 := cellR 2 k0 rfl
        have d0 := cellR 0 k1 rfl
        have e0 := cellR 0 k2 rfl
        gi_wp2
        refine ⟨trivial, fun h => (by cases h), callsIn_wide.2 ((HBE2.out _).mono ?_)⟩
        rintro e W5 ⟨rfl, hb⟩
        replace HC := Lib.hid (HC.out.below (HP.out [(ex, 0)]) h0 hb)
        replace h0 := (HP.out [(ex, 0)]).jgrow _ _ h0 hb
        clear hb k0 k1 k2 c0 c1 c2 d0 e0
        clear HBE2
        have k0 := HC.out.m0
        have k1 := HC.out.m1
        have k2 := HC.out.m2
        have c0 := cellR 0 k0 rfl
        have c1 := cellR 1 k0 rfl
        have c2 := cellR 2 k0 rfl
        have d0 := cellR 0 k1 rfl
        have e0 := cellR 0 k2 rfl
        obtain ⟨fn, tm, as_, bd, hy, hR⟩ := HY.out [(ex, 0)] (bh, 0) _ h0 (by rw [HL]; simp)
        gi_wp2
        refine ⟨fun h => (by cases h), ?_⟩
        refine hR.mono ?_
        rintro e W6 ⟨rfl, h1, hk⟩
        replace HC := Lib.hid (HC.out.kq hk)
        clear hy hR hk h0 k0 k1 k2 c0 c1 c2 d0 e0
        have h0 := h1
        simp only [List.nil_append, List.cons_append] at h0
        clear h1
        have k0 := HC.out.m0
        have k1 := HC.out.m1
        have k2 := HC.out.m2
        have c0 := cellR 0 k0 rfl
        have c1 := cellR 1 k0 rfl
        have c2 := cellR 2 k0 rfl
        have d0 := cellR 0 k1 rfl
        have e0 := cellR 0 k2 rfl
        obtain ⟨fn, tm, as_, bd, hy, hR⟩ := HY.out [(ex, 0), (bh, 0)] (y, 1) _ h0 (by rw [HL]; simp)
        gi_wp2
        refine ⟨fun h => (by cases h), ?_⟩
        refine hR.mono ?_
        rintro e W7 ⟨rfl, h1, hk⟩
        replace HC := Lib.hid (HC.out.kq hk)
        clear hy hR hk h0 k0 k1 k2 c0 c1 c2 d0 e0
        have h0 := h1
        simp only [List.nil_append, List.cons_append] at h0
        clear h1
        gi_wp2
        go_end0
        exact ⟨⟨_, rfl⟩, by first | exact h0 | (rw [HL]; exact h0)⟩
end Go.Proofs.YtbhkenphcahifaaGreat
namespace Go.Proofs.YtbhkenphcahifaaGreat
open Go.RowKit Go.Shelf
attribute [local go_sem] Oper.semAt_some
set_option maxRecDepth 100000
set_option maxHeartbeats 4000000
/-- the error of a route -/
def rteE (kind : Int) (l : List Int) (hosts x y : Int) : Int := if vOk kind l hosts then (if inB (swI kind l) [x, y] = true then (if y < hoI kind l then 0 else 2) else 3) else 2
theorem ints_pair (w : World) (x y : Int) : Ints (w.alloc (.cells #[.int .i64 x, .int .i64 y] 3)) (some ⟨w.heap.size, 0, none⟩) [x, y] := by
  refine ⟨by simp, fun _ => ⟨w.heap.size, 0, rfl, fun j hj => ?_⟩⟩
  have : j = 0 ∨ j = 1 := by simp at hj; omega
  rcases this with rfl | rfl
  · exact cellR 0 (heap_alloc_new w (.cells #[.int .i64 x, .int .i64 y] 3)) rfl
  · exact cellR 1 (heap_alloc_new w (.cells #[.int .i64 x, .int .i64 y] 3)) rfl
theorem routed_bad {w : World} {sa : Option Addr} {l : List Int} (h : Ints w sa l) (sc : Nat) (kind hosts x y : Int) (hE : ¬ (vOk kind l hosts ∧ inB (swI kind l) [x, y] = true)) :
    Calls Tryz.prog 115 #[.agg #[.int .i64 kind, .slice sa l.length sc, .int .i64 hosts], .int .i64 x, .int .i64 y] w fun e w' => e = .returned (.tuple #[.nilIface, .int .i64 (rteE kind l hosts x y)]) ∧ Below w.heap.size w w' := by
  obtain ⟨hbx, q0, q1, hz⟩ := twoN w (.cells #[.int .i64 kind, .slice sa l.length sc, .int .i64 hosts] 24) (.cells #[.int .i64 x, .int .i64 y] 3)
  have HB := Lib.hid hbx
  have c0 := cellR 0 (heap_alloc_new w (.cells #[.int .i64 kind, .slice sa l.length sc, .int .i64 hosts] 24)) rfl
  have c1 := cellR 1 (heap_alloc_new w (.cells #[.int .i64 kind, .slice sa l.length sc, .int .i64 hosts] 24)) rfl
  have c2 := cellR 2 (heap_alloc_new w (.cells #[.int .i64 kind, .slice sa l.length sc, .int .i64 hosts] 24)) rfl
  have hi := ints_pair (w.alloc (.cells #[.int .i64 kind, .slice sa l.length sc, .int .i64 hosts] 24)) x y
  rw [show (w.alloc (.cells #[.int .i64 kind, .slice sa l.length sc, .int .i64 hosts] 24)).heap.size = w.heap.size + 1 by simp] at hi
  have hne : rteE kind l hosts x y ≠ 0 := by
    unfold rteE
    by_cases hv : vOk kind l hosts
    · rw [if_pos hv, if_neg (fun h => hE ⟨hv, h⟩)]; decide
    · rw [if_neg hv]; decide
  have HC : Hid (Calls Tryz.prog 53 #[.agg #[.int .i64 kind, .slice sa l.length sc, .int .i64 hosts], .slice (some ⟨w.heap.size + 1, 0, none⟩) 2 2] ((w.alloc (.cells #[.int .i64 kind, .slice sa l.length sc, .int .i64 hosts] 24)).alloc (.cells #[.int .i64 x, .int .i64 y] 3)) fun e w' => e = .returned (.tuple #[.nilIface, .int .i64 (rteE kind l hosts x y)]) ∧ Below w.heap.size ((w.alloc (.cells #[.int .i64 kind, .slice sa l.length sc, .int .i64 hosts] 24)).alloc (.cells #[.int .i64 x, .int .i64 y] 3)) w') := by
    refine (networkWith_any (h.keep hbx) hi sc 2 kind hosts).mono ?_
    rintro e w' ⟨rfl, hb⟩
    refine ⟨?_, hb.mono (by rw [hz]; omega)⟩
    unfold withV rteE
    by_cases hv : vOk kind l hosts
    · rw [if_pos hv, if_neg (fun h => hE ⟨hv, h⟩), if_pos hv, if_neg (fun h => hE ⟨hv, h⟩)]
    · rw [if_neg hv, if_neg hv]
  have hneb : (rteE kind l hosts x y != 0) = true := bne_iff_ne.2 hne
  generalize rteE kind l hosts x y = E at *
  clear h hbx q0 q1 hi hz hE hne
  go_enter Tryz.func115, Tryz.ntmps115
  go_wp2_with fail
  refine HC.out.mono ?_
  rintro e w1 ⟨rfl, hb1⟩
  have HB1 := Lib.hid (HB.out.trans hb1)
  clear HC hb1 HB c0 c1 c2
  go_wp2_with fail
  go_ret2
  exact ⟨rfl, HB1.out⟩
theorem routed1_any {w : World} {sa : Option Addr} {l : List Int} (h : Ints w sa l) (sc : Nat) (hosts x y : Int) (hv : vOk 1 l hosts) (hin : inB (swI 1 l) [x, y] = true) :
    Calls Tryz.prog 115 #[.agg #[.int .i64 1, .slice sa l.length sc, .int .i64 hosts], .int .i64 x, .int .i64 y] w fun e w' => e = .returned (.tuple #[if y < hoI 1 l then .iface 138 (.agg #[.slice sa l.length sc, .int .i64 (prodI l)]) else .nilIface, .int .i64 (rteE 1 l hosts x y)]) ∧ Below w.heap.size w w' := by
  have hvb := v_bound hv
  obtain ⟨hbx, q0, q1, hz⟩ := twoN w (.cells #[.int .i64 1, .slice sa l.length sc, .int .i64 hosts] 24) (.cells #[.int .i64 x, .int .i64 y] 3)
  have HB := Lib.hid hbx
  have c0 := cellR 0 (heap_alloc_new w (.cells #[.int .i64 1, .slice sa l.length sc, .int .i64 hosts] 24)) rfl
  have c1 := cellR 1 (heap_alloc_new w (.cells #[.int .i64 1, .slice sa l.length sc, .int .i64 hosts] 24)) rfl
  have c2 := cellR 2 (heap_alloc_new w (.cells #[.int .i64 1, .slice sa l.length sc, .int .i64 hosts] 24)) rfl
  have hi := ints_pair (w.alloc (.cells #[.int .i64 1, .slice sa l.length sc, .int .i64 hosts] 24)) x y
  rw [show (w.alloc (.cells #[.int .i64 1, .slice sa l.length sc, .int .i64 hosts] 24)).heap.size = w.heap.size + 1 by simp] at hi
  have HC : Hid (Calls Tryz.prog 53 #[.agg #[.int .i64 1, .slice sa l.length sc, .int .i64 hosts], .slice (some ⟨w.heap.size + 1, 0, none⟩) 2 2] ((w.alloc (.cells #[.int .i64 1, .slice sa l.length sc, .int .i64 hosts] 24)).alloc (.cells #[.int .i64 x, .int .i64 y] 3)) fun e w' => e = .returned (.tuple #[.iface 138 (.agg #[.slice sa l.length sc, .int .i64 (prodI l)]), .int .i64 0]) ∧ Below w.heap.size ((w.alloc (.cells #[.int .i64 1, .slice sa l.length sc, .int .i64 hosts] 24)).alloc (.cells #[.int .i64 x, .int .i64 y] 3)) w') := by
    refine (networkWith1_any (h.keep hbx) hi sc 2 hosts hv).mono ?_
    rintro e w' ⟨rfl, hb⟩
    exact ⟨by rw [if_pos hin]; rfl, hb.mono (by rw [hz]; omega)⟩
  have HSZ : Hid (∀ W, Calls Tryz.prog 144 #[.agg #[.slice sa l.length sc, .int .i64 (prodI l)]] W fun e w' => e = .returned (.tuple #[.int .i64 (swI 1 l), .int .i64 (hoI 1 l)]) ∧ Below W.heap.size W w') := fun W => sizeT_any sa l.length sc (prodI l) W
  have hm := m_size1 sa l.length sc (prodI l)
  by_cases hy : y < hoI 1 l
  case pos =>
    rw [if_pos hy]
    rw [show rteE 1 l hosts x y = 0 by unfold rteE; rw [if_pos hv, if_pos hin, if_pos (by omega)]]
    have hgd : decide (hoI 1 l ≤ y) = false := decide_eq_false (by omega)
    clear hv hin hy h hbx hi hz q0 q1 hvb
    generalize swI 1 l = SW at *
    generalize hoI 1 l = HO_ at *
    go_enter Tryz.func115, Tryz.ntmps115
    go_wp2_with fail
    refine HC.out.mono ?_
    rintro e w1 ⟨rfl, hb1⟩
    have HB1 := Lib.hid (HB.out.trans hb1)
    clear HC hb1 HB c0 c1 c2
    go_wp2_with fail
    refine (HSZ.out _).mono ?_
    rintro e w2 ⟨rfl, hb2⟩
    have HB2 := Lib.hid (HB1.out.trans (hb2.mono HB1.out.size))
    clear HB1 hb2 HSZ hm
    go_wp2_with fail
    go_ret2
    exact ⟨rfl, HB2.out⟩
  case neg =>
    rw [if_neg hy]
    rw [show rteE 1 l hosts x y = 2 by unfold rteE; rw [if_pos hv, if_pos hin, if_neg (by omega)]]
    have hgd : decide (hoI 1 l ≤ y) = true := decide_eq_true (by omega)
    clear hv hin hy h hbx hi hz q0 q1 hvb
    generalize swI 1 l = SW at *
    generalize hoI 1 l = HO_ at *
    go_enter Tryz.func115, Tryz.ntmps115
    go_wp2_with fail
    refine HC.out.mono ?_
    rintro e w1 ⟨rfl, hb1⟩
    have HB1 := Lib.hid (HB.out.trans hb1)
    clear HC hb1 HB c0 c1 c2
    go_wp2_with fail
    refine (HSZ.out _).mono ?_
    rintro e w2 ⟨rfl, hb2⟩
    have HB2 := Lib.hid (HB1.out.trans (hb2.mono HB1.out.size))
    clear HB1 hb2 HSZ hm
    go_wp2_with fail
    go_ret2
    exact ⟨rfl, HB2.out⟩
theorem routed2_any {w : World} {sa : Option Addr} {l : List Int} (h : Ints w sa l) (sc : Nat) (hosts x y : Int) (hv : vOk 2 l hosts) (hin : inB (swI 2 l) [x, y] = true) :
    Calls Tryz.prog 115 #[.agg #[.int .i64 2, .slice sa l.length sc, .int .i64 hosts], .int .i64 x, .int .i64 y] w fun e w' => e = .returned (.tuple #[if y < hoI 2 l then .iface 142 (.agg #[.int .i64 (l.getD 0 0), .int .i64 (l.getD 1 0), .int .i64 (wordsI l)]) else .nilIface, .int .i64 (rteE 2 l hosts x y)]) ∧ Below w.heap.size w w' := by
  have hvb := v_bound hv
  obtain ⟨hbx, q0, q1, hz⟩ := twoN w (.cells #[.int .i64 2, .slice sa l.length sc, .int .i64 hosts] 24) (.cells #[.int .i64 x, .int .i64 y] 3)
  have HB := Lib.hid hbx
  have c0 := cellR 0 (heap_alloc_new w (.cells #[.int .i64 2, .slice sa l.length sc, .int .i64 hosts] 24)) rfl
  have c1 := cellR 1 (heap_alloc_new w (.cells #[.int .i64 2, .slice sa l.length sc, .int .i64 hosts] 24)) rfl
  have c2 := cellR 2 (heap_alloc_new w (.cells #[.int .i64 2, .slice sa l.length sc, .int .i64 hosts] 24)) rfl
  have hi := ints_pair (w.alloc (.cells #[.int .i64 2, .slice sa l.length sc, .int .i64 hosts] 24)) x y
  rw [show (w.alloc (.cells #[.int .i64 2, .slice sa l.length sc, .int .i64 hosts] 24)).heap.size = w.heap.size + 1 by simp] at hi
  have HC : Hid (Calls Tryz.prog 53 #[.agg #[.int .i64 2, .slice sa l.length sc, .int .i64 hosts], .slice (some ⟨w.heap.size + 1, 0, none⟩) 2 2] ((w.alloc (.cells #[.int .i64 2, .slice sa l.length sc, .int .i64 hosts] 24)).alloc (.cells #[.int .i64 x, .int .i64 y] 3)) fun e w' => e = .returned (.tuple #[.iface 142 (.agg #[.int .i64 (l.getD 0 0), .int .i64 (l.getD 1 0), .int .i64 (wordsI l)]), .int .i64 0]) ∧ Below w.heap.size ((w.alloc (.cells #[.int .i64 2, .slice sa l.length sc, .int .i64 hosts] 24)).alloc (.cells #[.int .i64 x, .int .i64 y] 3)) w') := by
    refine (networkWith2_any (h.keep hbx) hi sc 2 hosts hv).mono ?_
    rintro e w' ⟨rfl, hb⟩
    exact ⟨by rw [if_pos hin]; rfl, hb.mono (by rw [hz]; omega)⟩
  have HSZ : Hid (∀ W, Calls Tryz.prog 185 #[.agg #[.int .i64 (l.getD 0 0), .int .i64 (l.getD 1 0), .int .i64 (wordsI l)]] W fun e w' => e = .returned (.tuple #[.int .i64 (swI 2 l), .int .i64 (hoI 2 l)]) ∧ Below W.heap.size W w') := fun W => by
    rcases hv with ⟨h9, _⟩ | ⟨_, h9⟩ | ⟨h9, _⟩
    · cases h9
    · have hwb := words_bound h9
      have h8 := h9.2.2.1
      exact sizeR_any (l.getD 0 0) (l.getD 1 0) (wordsI l) (by omega) (by omega) (by omega) (by omega) W
    · cases h9
  have hm := m_size2 (l.getD 0 0) (l.getD 1 0) (wordsI l)
  by_cases hy : y < hoI 2 l
  case pos =>
    rw [if_pos hy]
    rw [show rteE 2 l hosts x y = 0 by unfold rteE; rw [if_pos hv, if_pos hin, if_pos (by omega)]]
    have hgd : decide (hoI 2 l ≤ y) = false := decide_eq_false (by omega)
    clear hv hin hy h hbx hi hz q0 q1 hvb
    generalize swI 2 l = SW at *
    generalize hoI 2 l = HO_ at *
    go_enter Tryz.func115, Tryz.ntmps115
    go_wp2_with fail
    refine HC.out.mono ?_
    rintro e w1 ⟨rfl, hb1⟩
    have HB1 := Lib.hid (HB.out.trans hb1)
    clear HC hb1 HB c0 c1 c2
    go_wp2_with fail
    refine (HSZ.out _).mono ?_
    rintro e w2 ⟨rfl, hb2⟩
    have HB2 := Lib.hid (HB1.out.trans (hb2.mono HB1.out.size))
    clear HB1 hb2 HSZ hm
    go_wp2_with fail
    go_ret2
    exact ⟨rfl, HB2.out⟩
  case neg =>
    rw [if_neg hy]
    rw [show rteE 2 l hosts x y = 2 by unfold rteE; rw [if_pos hv, if_pos hin, if_neg (by omega)]]
    have hgd : decide (hoI 2 l ≤ y) = true := decide_eq_true (by omega)
    clear hv hin hy h hbx hi hz q0 q1 hvb
    generalize swI 2 l = SW at *
    generalize hoI 2 l = HO_ at *
    go_enter Tryz.func115, Tryz.ntmps115
    go_wp2_with fail
    refine HC.out.mono ?_
    rintro e w1 ⟨rfl, hb1⟩
    have HB1 := Lib.hid (HB.out.trans hb1)
    clear HC hb1 HB c0 c1 c2
    go_wp2_with fail
    refine (HSZ.out _).mono ?_
    rintro e w2 ⟨rfl, hb2⟩
    have HB2 := Lib.hid (HB1.out.trans (hb2.mono HB1.out.size))
    clear HB1 hb2 HSZ hm
    go_wp2_with fail
    go_ret2
    exact ⟨rfl, HB2.out⟩
theorem routed3_any {w : World} {sa : Option Addr} {l : List Int} (h : Ints w sa l) (sc : Nat) (hosts x y : Int) (hv : vOk 3 l hosts) (hin : inB (swI 3 l) [x, y] = true) :
    Calls Tryz.prog 115 #[.agg #[.int .i64 3, .slice sa l.length sc, .int .i64 hosts], .int .i64 x, .int .i64 y] w fun e w' => e = .returned (.tuple #[if y < hoI 3 l then .iface 146 (.agg #[.int .i64 (l.getD 0 0), .int .i64 (l.getD 1 0), .int .i64 (l.getD 0 0 * l.getD 1 0 + 1)]) else .nilIface, .int .i64 (rteE 3 l hosts x y)]) ∧ Below w.heap.size w w' := by
  have hvb := v_bound hv
  obtain ⟨hbx, q0, q1, hz⟩ := twoN w (.cells #[.int .i64 3, .slice sa l.length sc, .int .i64 hosts] 24) (.cells #[.int .i64 x, .int .i64 y] 3)
  have HB := Lib.hid hbx
  have c0 := cellR 0 (heap_alloc_new w (.cells #[.int .i64 3, .slice sa l.length sc, .int .i64 hosts] 24)) rfl
  have c1 := cellR 1 (heap_alloc_new w (.cells #[.int .i64 3, .slice sa l.length sc, .int .i64 hosts] 24)) rfl
  have c2 := cellR 2 (heap_alloc_new w (.cells #[.int .i64 3, .slice sa l.length sc, .int .i64 hosts] 24)) rfl
  have hi := ints_pair (w.alloc (.cells #[.int .i64 3, .slice sa l.length sc, .int .i64 hosts] 24)) x y
  rw [show (w.alloc (.cells #[.int .i64 3, .slice sa l.length sc, .int .i64 hosts] 24)).heap.size = w.heap.size + 1 by simp] at hi
  have HC : Hid (Calls Tryz.prog 53 #[.agg #[.int .i64 3, .slice sa l.length sc, .int .i64 hosts], .slice (some ⟨w.heap.size + 1, 0, none⟩) 2 2] ((w.alloc (.cells #[.int .i64 3, .slice sa l.length sc, .int .i64 hosts] 24)).alloc (.cells #[.int .i64 x, .int .i64 y] 3)) fun e w' => e = .returned (.tuple #[.iface 146 (.agg #[.int .i64 (l.getD 0 0), .int .i64 (l.getD 1 0), .int .i64 (l.getD 0 0 * l.getD 1 0 + 1)]), .int .i64 0]) ∧ Below w.heap.size ((w.alloc (.cells #[.int .i64 3, .slice sa l.length sc, .int .i64 hosts] 24)).alloc (.cells #[.int .i64 x, .int .i64 y] 3)) w') := by
    refine (networkWith3_any (h.keep hbx) hi sc 2 hosts hv).mono ?_
    rintro e w' ⟨rfl, hb⟩
    exact ⟨by rw [if_pos hin]; rfl, hb.mono (by rw [hz]; omega)⟩
  have HSZ : Hid (∀ W, Calls Tryz.prog 199 #[.agg #[.int .i64 (l.getD 0 0), .int .i64 (l.getD 1 0), .int .i64 (l.getD 0 0 * l.getD 1 0 + 1)]] W fun e w' => e = .returned (.tuple #[.int .i64 (swI 3 l), .int .i64 (hoI 3 l)]) ∧ Below W.heap.size W w') := fun W => by
    rcases hv with ⟨h9, _⟩ | ⟨h9, _⟩ | ⟨_, h9⟩
    · cases h9
    · cases h9
    · obtain ⟨b1, b2, b3, b4⟩ := drag_bound h9.2.2.1.1 h9.2.2.1.2 h9.2.2.2.1.1 h9.2.2.2.1.2
      have h8 := h9.2.2.1
      exact sizeD_any (l.getD 0 0) (l.getD 1 0) (l.getD 0 0 * l.getD 1 0 + 1) (by omega) (by omega) (by omega) (by omega) W
  have hm := m_size3 (l.getD 0 0) (l.getD 1 0) (l.getD 0 0 * l.getD 1 0 + 1)
  by_cases hy : y < hoI 3 l
  case pos =>
    rw [if_pos hy]
    rw [show rteE 3 l hosts x y = 0 by unfold rteE; rw [if_pos hv, if_pos hin, if_pos (by omega)]]
    have hgd : decide (hoI 3 l ≤ y) = false := decide_eq_false (by omega)
    clear hv hin hy h hbx hi hz q0 q1 hvb
    generalize swI 3 l = SW at *
    generalize hoI 3 l = HO_ at *
    go_enter Tryz.func115, Tryz.ntmps115
    go_wp2_with fail
    refine HC.out.mono ?_
    rintro e w1 ⟨rfl, hb1⟩
    have HB1 := Lib.hid (HB.out.trans hb1)
    clear HC hb1 HB c0 c1 c2
    go_wp2_with fail
    refine (HSZ.out _).mono ?_
    rintro e w2 ⟨rfl, hb2⟩
    have HB2 := Lib.hid (HB1.out.trans (hb2.mono HB1.out.size))
    clear HB1 hb2 HSZ hm
    go_wp2_with fail
    go_ret2
    exact ⟨rfl, HB2.out⟩
  case neg =>
    rw [if_neg hy]
    rw [show rteE 3 l hosts x y = 2 by unfold rteE; rw [if_pos hv, if_pos hin, if_neg (by omega)]]
    have hgd : decide (hoI 3 l ≤ y) = true := decide_eq_true (by omega)
    clear hv hin hy h hbx hi hz q0 q1 hvb
    generalize swI 3 l = SW at *
    generalize hoI 3 l = HO_ at *
    go_enter Tryz.func115, Tryz.ntmps115
    go_wp2_with fail
    refine HC.out.mono ?_
    rintro e w1 ⟨rfl, hb1⟩
    have HB1 := Lib.hid (HB.out.trans hb1)
    clear HC hb1 HB c0 c1 c2
    go_wp2_with fail
    refine (HSZ.out _).mono ?_
    rintro e w2 ⟨rfl, hb2⟩
    have HB2 := Lib.hid (HB1.out.trans (hb2.mono HB1.out.size))
    clear HB1 hb2 HSZ hm
    go_wp2_with fail
    go_ret2
    exact ⟨rfl, HB2.out⟩
end Go.Proofs.YtbhkenphcahifaaGreat
namespace Go.Proofs.YtbhkenphcahifaaGreat
open Go.RowKit Go.Shelf
theorem OutI.own {α : Type} {n0 o B : Nat} (g : List α → List Int) : OwnFrom B (fun (pre : List α) W => OutI n0 o (g pre) W) := by
  rintro s X Y row ⟨v, h1, h2, h3⟩ hg hr
  refine ⟨v, h1.kept hg (fun e => ?_), h2.kept hg ?_, h3⟩
  · obtain ⟨_, ob, ho, hc⟩ := hr o e.symm
    rw [show X.heap[o]? = _ from h1] at ho
    cases ho; cases hc
  · rcases h2.2 with ⟨rfl, _⟩ | ⟨q, cap, cur, rfl, _, hq, _⟩
    · exact .inl rfl
    · refine .inr (fun e => ?_)
      obtain ⟨_, ob, ho, hc⟩ := hr q e.symm
      rw [hq] at ho
      cases ho; cases hc
theorem wpListIn_append_run {F : Fence} {n : Nat} {P : Program} {w w' : World} {ops : Array Oper} {rest : List Oper} {o : Oper} {a : Act} {Q : Exit → Act → World → Prop}
    (hg : o.guard = none) (s x : Operand) (t : TypeId) (hop : o.op = Op.call { callee := Callee.builtin Builtin.append, args := #[s, x], argTypes := #[t, t] }) {v vx v' : Value} (hs : a.eval s = v) (hx : a.eval x = vx)
    (hrun : (Builtin.append_ #[t, t] o.type #[v, vx]).run P w = .ok v' w') (hK : wpListIn F n P ops Q rest (a.put o.dst v') w') : wpListIn F n P ops Q (o :: rest) a w := by
  refine wpListIn_plain hg fun K hK' => ?_
  unfold Oper.wpIn
  refine ⟨?_, ?_⟩
  · simp [Oper.about, hop, resolve, Target.leads, Sem.run_pure]
  · rw [Oper.semAt_plain F _ _ (by rw [hop]; intro c hc'; cases hc')]
    simp [execOp, hop, resolve, invoke, builtin, hs, hx, hrun, Result.andThen]
    exact hK' _ _ hK
/-- one more number -/
theorem OutI.append {n0 o : Nat} {xs : List Int} {W : World} (h : OutI n0 o xs W) (s : Int) (hl : xs.length ≤ 200000) (hn : n0 ≤ W.heap.size) (ho : n0 ≤ o) :
    ∃ v g cap wA, Boxed W o 22 v ∧ Boxed wA o 22 v ∧ (Builtin.append_ #[22, 22] 22 #[v, .slice (some ⟨W.heap.size, 0, none⟩) 1 1]).run Tryz.prog (W.alloc (.cells #[.int .i64 s] 3)) = .ok (.slice (some ⟨g, 0, none⟩) (xs.length + 1) cap) wA ∧
      OutI n0 o (xs ++ [s]) (wA.setCell ⟨o, 0, none⟩ (.slice (some ⟨g, 0, none⟩) (xs.length + 1) cap)) ∧ KeepsOthers W (wA.setCell ⟨o, 0, none⟩ (.slice (some ⟨g, 0, none⟩) (xs.length + 1) cap)) ∧ Kq n0 o W (wA.setCell ⟨o, 0, none⟩ (.slice (some ⟨g, 0, none⟩) (xs.length + 1) cap)) := by
  obtain ⟨v, h1, h2, h3⟩ := h
  obtain ⟨i0, hi, hz0, hz1, hz2⟩ := info_parts Tryz.info3
  obtain ⟨g, cap, wA, hr, hown, hgrow, hat, hlt⟩ := run_append_lies (P := Tryz.prog) (W.alloc (.cells #[.int .i64 s] 3)) 22 22 n0 3 i0 (.int .i64 0) 1 8 Tryz.underlying22 hi hz0 hz1 hz2 rfl (by decide) v xs.length (xs.map (Value.int .i64)) (h2.alloc _) ⟨W.heap.size, 0, none⟩ 1 1 [.int .i64 s] (by simp)
    (World.news_of_block (cs := #[.int .i64 s]) (heap_alloc_new W (.cells #[.int .i64 s] 3))) (by intro u hu; simp at hu; subst hu; rfl) (by decide) (by unfold maxLen; omega) (by omega) (by simp; omega) _ rfl
  obtain ⟨hv1, hv2, hr2, hk2, hb2⟩ := h1.appended (by decide) h2 hn ho hown hgrow
  refine ⟨v, g, cap, wA, h1, hv1, hr, ⟨_, hv2, by simpa using hr2, by simp⟩, hk2, hb2, ?_⟩
  rintro b ⟨⟨ob, m1, m2⟩, m3, m4, m5⟩
  have hbl := (Array.getElem?_eq_some_iff.1 m1).1
  have hnb := m5 v h1.cell
  have e1 : (wA.setCell ⟨o, 0, none⟩ (.slice (some ⟨g, 0, none⟩) (xs.length + 1) cap)).heap[b]? = W.heap[b]? := by
    rw [heap_setCell_other _ _ _ _ m4, hgrow.block b (by simp; omega) (fun e => hnb e.symm), Below.heap_alloc _ _ _ hbl]
  refine ⟨e1, ⟨ob, e1.trans m1, m2⟩, m3, m4, fun u hu => ?_⟩
  rw [hv2.cell] at hu
  cases hu
  intro e
  have hgb : g = b := by simpa [Value.ownBlock] using e
  rcases hat with hat | hat
  · exact hnb (by rw [hat, hgb])
  · simp at hat; omega
end Go.Proofs.YtbhkenphcahifaaGreat
namespace Go.Proofs.YtbhkenphcahifaaGreat
open Go.RowKit Go.Shelf
attribute [local go_sem] Oper.semAt_some
set_option maxRecDepth 100000
set_option maxHeartbeats 4000000
theorem m_route1 (sa : Option Addr) (n sc : Nat) (m : Int) (w : World) : (method 330 138 (.agg #[.slice sa n sc, .int .i64 m]) "armada/net.route").run Tryz.prog w = .ok (142, .agg #[.slice sa n sc, .int .i64 m]) w := by kernel_rfl
theorem m_route2 (a b c : Int) (w : World) : (method 330 142 (.agg #[.int .i64 a, .int .i64 b, .int .i64 c]) "armada/net.route").run Tryz.prog w = .ok (183, .agg #[.int .i64 a, .int .i64 b, .int .i64 c]) w := by kernel_rfl
theorem m_route3 (a b c : Int) (w : World) : (method 330 146 (.agg #[.int .i64 a, .int .i64 b, .int .i64 c]) "armada/net.route").run Tryz.prog w = .ok (197, .agg #[.int .i64 a, .int .i64 b, .int .i64 c]) w := by kernel_rfl
/-- a function that yields the steps of a route -/
def RIter (lo gf : Nat) (lb : Array Value) (L : List (Int × Int)) (s0 : Nat) (w : World) : Prop :=
  (∀ args w, (callFunc gf args).run Tryz.prog w = .ok (.enter gf args) w) ∧ ∃ Nd : Nat → Prop, (∀ b, Nd b → s0 ≤ b ∧ ∃ o, w.heap[b]? = some o ∧ o.isCells = true) ∧ ∀ n n0 o, lo ≤ n0 → SeqW n gf lb encP (Kq n0 o) (Fq n0 o) Nd L w
/-- a route's maker -/
def RMake (lo f : Nat) (rcv : Value) (x y : Int) (L : List (Int × Int)) (W : World) : Prop :=
  Calls Tryz.prog f #[rcv, .int .i64 x, .int .i64 y] W fun e w' => ∃ gf lb, e = .returned (.func (.func gf) #[] lb) ∧ RIter lo gf lb L W.heap.size w' ∧ Below W.heap.size W w'
theorem three_new (w : World) (a b c : Obj) : Below w.heap.size w (((w.alloc a).alloc b).alloc c) ∧ (((w.alloc a).alloc b).alloc c).heap[w.heap.size]? = some a ∧ (((w.alloc a).alloc b).alloc c).heap[w.heap.size + 1]? = some b ∧ (((w.alloc a).alloc b).alloc c).heap[w.heap.size + 2]? = some c := by
  obtain ⟨h1, h2, h3, h4⟩ := twoN w a b
  have hk : Below ((w.alloc a).alloc b).heap.size ((w.alloc a).alloc b) (((w.alloc a).alloc b).alloc c) := (Below.refl _ _).alloc (Nat.le_refl _) _
  refine ⟨h1.trans (hk.mono (by rw [h4]; omega)), heapB hk h2, heapB hk h3, ?_⟩
  rw [← h4]
  exact heap_alloc_new _ _
theorem dragMake (lo : Nat) (a h x y : Int) (ha : 1 ≤ a) (ha2 : a ≤ 16) (hh : 1 ≤ h) (hh2 : h ≤ 4) (hx : 0 ≤ x) (hx2 : x < a * (a * h + 1)) (hy : 0 ≤ y) (hy2 : y < a * (a * h + 1)) (w : World) :
    RMake lo 197 (.agg #[.int .i64 a, .int .i64 h, .int .i64 (a * h + 1)]) x y (dragL a h x y) w := by
  obtain ⟨hb, q0, q1, q2⟩ := three_new w (.cells #[.int .i64 a, .int .i64 h, .int .i64 (a * h + 1)] 146) (.cells #[.int .i64 x] 3) (.cells #[.int .i64 y] 3)
  have HB := Lib.hid hb
  have HI : Hid (RIter lo 202 #[.pointer (some ⟨w.heap.size + 1, 0, none⟩), .pointer (some ⟨w.heap.size, 0, none⟩), .pointer (some ⟨w.heap.size + 2, 0, none⟩)] (dragL a h x y) w.heap.size (((w.alloc (.cells #[.int .i64 a, .int .i64 h, .int .i64 (a * h + 1)] 146)).alloc (.cells #[.int .i64 x] 3)).alloc (.cells #[.int .i64 y] 3))) := by
    refine ⟨enters_of Tryz.func202 (by kernel_rfl) rfl, _, ?_, fun n n0 o _ => dragIter n0 o w.heap.size (w.heap.size + 1) (w.heap.size + 2) a h x y ha ha2 hh hh2 hx hx2 hy hy2 q0 q1 q2 n⟩
    rintro b (rfl | rfl | rfl)
    · exact ⟨Nat.le_refl _, _, q0, rfl⟩
    · exact ⟨by omega, _, q1, rfl⟩
    · exact ⟨by omega, _, q2, rfl⟩
  clear hb q0 q1 q2
  unfold RMake
  go_enter Tryz.func197, Tryz.ntmps197
  go_wp2_with fail
  go_ret
  exact ⟨202, _, rfl, HI.out, HB.out⟩
theorem Fq_of {n0 o b : Nat} {xs : List Int} {w0 W W2 : World} (hn : n0 ≤ w0.heap.size) (hi : OutI n0 o xs W) (hw : Below n0 w0 W) (hb : Below W.heap.size W W2) (h1 : W.heap.size ≤ b) (h2 : ∃ ob, W2.heap[b]? = some ob ∧ ob.isCells = true) : Fq n0 o b W2 := (OutI.priv (xs := xs) (w := w0) hn).new W W2 b ⟨hi, hw⟩ hb h1 h2
theorem ownsRow_low {w : World} {b b' : Nat} {e : TypeId} {size : Nat} {v : Value} {n : Nat} {xs : List Value} (h : w.ownsRow b e size v n xs) (hb : b' ≤ b) : w.ownsRow b' e size v n xs :=
  ⟨h.1, h.2.imp id fun ⟨g, cap, cur, h1, h2, h3⟩ => ⟨g, cap, cur, h1, Nat.le_trans hb h2, h3⟩⟩
theorem Route1_any {w : World} {sa : Option Addr} {l : List Int} (h : Ints w sa l) (sc : Nat) (hosts x y : Int) (hv : vOk 1 l hosts) (hin : inB (swI 1 l) [x, y] = true) (hy : y < hoI 1 l) (L : List (Int × Int)) (hLn : L.length ≤ 100000)
    (hmk : ∀ W, Below w.heap.size w W → RMake w.heap.size 142 (.agg #[.slice sa l.length sc, .int .i64 (prodI l)]) x y L W) :
    Calls Tryz.prog 87 #[.agg #[.int .i64 1, .slice sa l.length sc, .int .i64 hosts], .int .i64 x, .int .i64 y] w fun e w' => ∃ v, e = .returned (.tuple #[v, .int .i64 0]) ∧ NewInts w.heap.size w' v (x :: L.map (·.1)) ∧ Below w.heap.size w w' := by
  have HRO := Lib.hid (fun W (hb : Below w.heap.size w W) => routed1_any (h.keep hb) sc hosts x y hv hin)
  rw [if_pos hy, show rteE 1 l hosts x y = 0 by unfold rteE; rw [if_pos hv, if_pos hin, if_pos hy]] at HRO
  have HMK := Lib.hid hmk
  have HB := Lib.hid ((Below.refl w.heap.size w).alloc (Nat.le_refl _) (.cells #[.int .i64 1, .slice sa l.length sc, .int .i64 hosts] 24))
  have c0 := cellR 0 (heap_alloc_new w (.cells #[.int .i64 1, .slice sa l.length sc, .int .i64 hosts] 24)) rfl
  have c1 := cellR 1 (heap_alloc_new w (.cells #[.int .i64 1, .slice sa l.length sc, .int .i64 hosts] 24)) rfl
  have c2 := cellR 2 (heap_alloc_new w (.cells #[.int .i64 1, .slice sa l.length sc, .int .i64 hosts] 24)) rfl
  have hm := m_route1 sa l.length sc (prodI l)
  clear h hv hin hy hmk
  generalize prodI l = p0 at *
  have HLN := Lib.hid hLn
  clear hLn
  refine (callsIn_wide (n := 4)).1 ?_
  refine callsIn_of_wp_marks Tryz.func87 rfl trivial ?_ rfl
  simp only [Tryz.ntmps87, List.size_toArray, List.length_cons, List.length_nil, Nat.reduceAdd, Nat.reduceSub, Array.replicate_succ, Array.replicate_zero, List.push_toArray, List.append_toArray, List.nil_append, List.cons_append]
  gi_wp2
  generalize w.alloc (.cells #[.int .i64 1, .slice sa l.length sc, .int .i64 hosts] 24) = X at *
  refine ⟨trivial, callsIn_wide.2 ((HRO.out _ HB.out).mono ?_)⟩
  rintro e w1 ⟨rfl, hb1⟩
  have HB1 := Lib.hid (HB.out.trans (hb1.mono HB.out.size))
  clear HRO c0 c1 c2 HB hb1
  gi_wp2
  obtain ⟨hbw, r0, r1, hz⟩ := twoN w1 (.cells #[.int .i64 x] 3) (.cells #[.slice (some ⟨w1.heap.size, 0, none⟩) 1 1] 22)
  generalize (w1.alloc (.cells #[.int .i64 x] 3)).alloc (.cells #[.slice (some ⟨w1.heap.size, 0, none⟩) 1 1] 22) = W0 at *
  have hO : OutI w1.heap.size (w1.heap.size + 1) [x] W0 := ⟨_, r1, ⟨rfl, .inr ⟨w1.heap.size, 1, #[.int .i64 x], rfl, Nat.le_refl _, r0, Nat.le_refl _, by decide, rfl, rfl⟩⟩, by simp⟩
  refine ⟨trivial, callsIn_wide.2 ((HMK.out _ (HB1.out.trans (hbw.mono HB1.out.size))).mono ?_)⟩
  rintro e w2 ⟨gf, lb, rfl, hIt, hb2⟩
  have hO2 := hO.below hb2
  have hbw2 := hbw.trans (hb2.mono (by rw [hz]; omega))
  obtain ⟨heg, Nd, hNd, hSq⟩ := hIt
  have hnd : ∀ b, Nd b → Fq w1.heap.size (w1.heap.size + 1) b w2 := fun b hb => Fq_of (Nat.le_refl _) hO hbw hb2 (hNd b hb).1 (hNd b hb).2
  have HSQ := Lib.hid (fun n => hSq n w1.heap.size (w1.heap.size + 1) HB1.out.size)
  have hz2 := hb2.size
  clear HMK hm hNd hSq hO hbw r0 r1 hb2
  gi_wp2
  refine range_w (L := L) (by omega) rfl heg (HSQ.out _) hnd Kq.trans (fun W q ob o' hs hl hc => Kq.putObj (by omega) W q ob o' hs hl hc (by omega)) (fun _ => rfl) (fun pre W => OutI w1.heap.size (w1.heap.size + 1) (x :: pre.map (·.1)) W ∧ Below w1.heap.size w1 W) (OwnFrom.and (OutI.own fun pre : List (Int × Int) => x :: pre.map (·.1)) (ownFrom_below (Nat.le_refl _) (by omega))) (fun pre => OutI.priv (Nat.le_refl _)) ⟨hO2, hbw2⟩ (fun p => ⟨#[Value.agg #[.int .i64 1, .slice sa l.length sc, .int .i64 hosts], .int .i64 x, .int .i64 y, .pointer (some ⟨w.heap.size, 0, none⟩), undef, undef, .slice none 0 0, .int .i64 0, .iface 138 (.agg #[.slice sa l.length sc, .int .i64 p0]), .int .i64 0, .pointer (some ⟨w1.heap.size + 1, 0, none⟩), .int .i64 p.1, .tuple #[.iface 138 (.agg #[.slice sa l.length sc, .int .i64 p0]), .int .i64 0], .agg #[.int .i64 1, .slice sa l.length sc, .int .i64 hosts], .int .i64 x, .int .i64 y, .tuple #[.iface 138 (.agg #[.slice sa l.length sc, .int .i64 p0]), .int .i64 0], .iface 138 (.agg #[.slice sa l.length sc, .int .i64 p0]), .int .i64 0, .int .i64 0, .bool false, undef, .int .i64 x, .slice (some ⟨w1.heap.size, 0, none⟩) 1 1, .iface 138 (.agg #[.slice sa l.length sc, .int .i64 p0]), .int .i64 x, .int .i64 y, .func (.func gf) #[] lb, .int .i64 p.1, .int .i64 p.2, undef, undef, undef, undef, undef], []⟩) ?assign ?body ?done
  case assign =>
    intro q p W K hK
    gi_wp2
    exact hK
  case body =>
    rintro q pre p W ⟨hO3, hB3⟩ hlen
    have hll : (x :: pre.map (·.1)).length ≤ 200000 := by have := HLN.out; simp; omega
    obtain ⟨v, g, cap, wA, hv, hvA, hrun, hO4, hk4, hq4⟩ := hO3.append p.1 hll (by have := hB3.size; omega) (by omega)
    have cv := hv.cell
    have cA := hvA.cell
    have fA := hvA.frozen
    have lA := hvA.lt
    have hle : (x :: pre.map (·.1)).length + 1 = pre.length + 1 + 1 := by simp
    rw [hle] at hrun hO4 hk4 hq4
    clear hlen hll hle
    gi_wp2_with (gi_at_builtin; refine wpListIn_append_run rfl _ _ 22 rfl rfl rfl hrun ?_)
    exact ⟨hk4.from _, hq4, by simpa using hO4, hB3.trans hq4.1⟩
  case done =>
    rintro D W hD ⟨⟨v, hv, hrow, hnil⟩, hB3⟩ hK
    have cv := hv.cell
    have hs0 := HB1.out.size
    have hs2 := hbw2.size
    gi_wp2
    refine ⟨by simp, .inl ⟨_, _, rfl, run_takeDeferred hK, ?_⟩⟩
    refine ⟨.tuple #[v, .int .i64 0], ?_, v, rfl, ⟨ownsRow_putObj (ownsRow_low hrow hs0) _ hK rfl, ?_⟩, (HB1.out.trans (hB3.mono hs0)).trans ⟨rfl, rfl, rfl, by simp [World.putObj], fun k hk => World.putObj_heap_other (by omega)⟩⟩
    · simp [results, Tryz.results87, go_sem]
    · have := HLN.out; simp; omega
theorem Classes1_any {w : World} {sa : Option Addr} {l : List Int} (h : Ints w sa l) (sc : Nat) (hosts x y : Int) (hv : vOk 1 l hosts) (hin : inB (swI 1 l) [x, y] = true) (hy : y < hoI 1 l) (L : List (Int × Int)) (hLn : L.length ≤ 100000)
    (hmk : ∀ W, Below w.heap.size w W → RMake w.heap.size 142 (.agg #[.slice sa l.length sc, .int .i64 (prodI l)]) x y L W) :
    Calls Tryz.prog 88 #[.agg #[.int .i64 1, .slice sa l.length sc, .int .i64 hosts], .int .i64 x, .int .i64 y] w fun e w' => ∃ v, e = .returned (.tuple #[v, .int .i64 0]) ∧ NewInts w.heap.size w' v (L.map (·.2)) ∧ Below w.heap.size w w' := by
  have HRO := Lib.hid (fun W (hb : Below w.heap.size w W) => routed1_any (h.keep hb) sc hosts x y hv hin)
  rw [if_pos hy, show rteE 1 l hosts x y = 0 by unfold rteE; rw [if_pos hv, if_pos hin, if_pos hy]] at HRO
  have HMK := Lib.hid hmk
  have HB := Lib.hid ((Below.refl w.heap.size w).alloc (Nat.le_refl _) (.cells #[.int .i64 1, .slice sa l.length sc, .int .i64 hosts] 24))
  have c0 := cellR 0 (heap_alloc_new w (.cells #[.int .i64 1, .slice sa l.length sc, .int .i64 hosts] 24)) rfl
  have c1 := cellR 1 (heap_alloc_new w (.cells #[.int .i64 1, .slice sa l.length sc, .int .i64 hosts] 24)) rfl
  have c2 := cellR 2 (heap_alloc_new w (.cells #[.int .i64 1, .slice sa l.length sc, .int .i64 hosts] 24)) rfl
  have hm := m_route1 sa l.length sc (prodI l)
  clear h hv hin hy hmk
  generalize prodI l = p0 at *
  have HLN := Lib.hid hLn
  clear hLn
  refine (callsIn_wide (n := 4)).1 ?_
  refine callsIn_of_wp_marks Tryz.func88 rfl trivial ?_ rfl
  simp only [Tryz.ntmps88, List.size_toArray, List.length_cons, List.length_nil, Nat.reduceAdd, Nat.reduceSub, Array.replicate_succ, Array.replicate_zero, List.push_toArray, List.append_toArray, List.nil_append, List.cons_append]
  gi_wp2
  generalize w.alloc (.cells #[.int .i64 1, .slice sa l.length sc, .int .i64 hosts] 24) = X at *
  refine ⟨trivial, callsIn_wide.2 ((HRO.out _ HB.out).mono ?_)⟩
  rintro e w1 ⟨rfl, hb1⟩
  have HB1 := Lib.hid (HB.out.trans (hb1.mono HB.out.size))
  clear HRO c0 c1 c2 HB hb1
  gi_wp2
  have hbw : Below w1.heap.size w1 (w1.alloc (.cells #[.slice none 0 0] 22)) := (Below.refl _ _).alloc (Nat.le_refl _) _
  have r1 := heap_alloc_new w1 (.cells #[.slice none 0 0] 22)
  have hz : (w1.alloc (.cells #[.slice none 0 0] 22)).heap.size = w1.heap.size + 1 := by simp
  have hO : OutI w1.heap.size w1.heap.size [] (w1.alloc (.cells #[.slice none 0 0] 22)) := ⟨_, r1, ⟨rfl, .inl ⟨rfl, rfl⟩⟩, by simp⟩
  generalize w1.alloc (.cells #[.slice none 0 0] 22) = W0 at *
  refine ⟨trivial, callsIn_wide.2 ((HMK.out _ (HB1.out.trans (hbw.mono HB1.out.size))).mono ?_)⟩
  rintro e w2 ⟨gf, lb, rfl, hIt, hb2⟩
  have hO2 := hO.below hb2
  have hbw2 := hbw.trans (hb2.mono (by rw [hz]; omega))
  obtain ⟨heg, Nd, hNd, hSq⟩ := hIt
  have hnd : ∀ b, Nd b → Fq w1.heap.size w1.heap.size b w2 := fun b hb => Fq_of (Nat.le_refl _) hO hbw hb2 (hNd b hb).1 (hNd b hb).2
  have HSQ := Lib.hid (fun n => hSq n w1.heap.size w1.heap.size HB1.out.size)
  have hz2 := hb2.size
  clear HMK hm hNd hSq hO hbw r1 hb2
  gi_wp2
  refine range_w (L := L) (by omega) rfl heg (HSQ.out _) hnd Kq.trans (fun W q ob o' hs hl hc => Kq.putObj (by omega) W q ob o' hs hl hc (by omega)) (fun _ => rfl) (fun pre W => OutI w1.heap.size w1.heap.size (pre.map (·.2)) W ∧ Below w1.heap.size w1 W) (OwnFrom.and (OutI.own fun pre : List (Int × Int) => pre.map (·.2)) (ownFrom_below (Nat.le_refl _) (by omega))) (fun pre => OutI.priv (Nat.le_refl _)) ⟨hO2, hbw2⟩ (fun p => ⟨#[Value.agg #[.int .i64 1, .slice sa l.length sc, .int .i64 hosts], .int .i64 x, .int .i64 y, .pointer (some ⟨w.heap.size, 0, none⟩), undef, undef, .slice none 0 0, .int .i64 0, .iface 138 (.agg #[.slice sa l.length sc, .int .i64 p0]), .int .i64 0, .pointer (some ⟨w1.heap.size, 0, none⟩), undef, .int .i64 p.2, .tuple #[.iface 138 (.agg #[.slice sa l.length sc, .int .i64 p0]), .int .i64 0], .agg #[.int .i64 1, .slice sa l.length sc, .int .i64 hosts], .int .i64 x, .int .i64 y, .tuple #[.iface 138 (.agg #[.slice sa l.length sc, .int .i64 p0]), .int .i64 0], .iface 138 (.agg #[.slice sa l.length sc, .int .i64 p0]), .int .i64 0, .int .i64 0, .bool false, undef, .iface 138 (.agg #[.slice sa l.length sc, .int .i64 p0]), .int .i64 x, .int .i64 y, .func (.func gf) #[] lb, .int .i64 p.1, .int .i64 p.2, undef, undef, undef, undef, undef], []⟩) ?assign ?body ?done
  case assign =>
    intro q p W K hK
    gi_wp2
    exact hK
  case body =>
    rintro q pre p W ⟨hO3, hB3⟩ hlen
    have hll : (pre.map (·.2)).length ≤ 200000 := by have := HLN.out; simp; omega
    obtain ⟨v, g, cap, wA, hv, hvA, hrun, hO4, hk4, hq4⟩ := hO3.append p.2 hll (by have := hB3.size; omega) (by omega)
    have cv := hv.cell
    have cA := hvA.cell
    have fA := hvA.frozen
    have lA := hvA.lt
    have hle : (pre.map (·.2)).length + 1 = pre.length + 1 := by simp
    rw [hle] at hrun hO4 hk4 hq4
    clear hlen hll hle
    gi_wp2_with (gi_at_builtin; refine wpListIn_append_run rfl _ _ 22 rfl rfl rfl hrun ?_)
    exact ⟨hk4.from _, hq4, by simpa using hO4, hB3.trans hq4.1⟩
  case done =>
    rintro D W hD ⟨⟨v, hv, hrow, hnil⟩, hB3⟩ hK
    have cv := hv.cell
    have hs0 := HB1.out.size
    have hs2 := hbw2.size
    gi_wp2
    refine ⟨by simp, .inl ⟨_, _, rfl, run_takeDeferred hK, ?_⟩⟩
    refine ⟨.tuple #[v, .int .i64 0], ?_, v, rfl, ⟨ownsRow_putObj (ownsRow_low hrow hs0) _ hK rfl, ?_⟩, (HB1.out.trans (hB3.mono hs0)).trans ⟨rfl, rfl, rfl, by simp [World.putObj], fun k hk => World.putObj_heap_other (by omega)⟩⟩
    · simp [results, Tryz.results88, go_sem]
    · have := HLN.out; simp; omega
theorem Route2_any {w : World} {sa : Option Addr} {l : List Int} (h : Ints w sa l) (sc : Nat) (hosts x y : Int) (hv : vOk 2 l hosts) (hin : inB (swI 2 l) [x, y] = true) (hy : y < hoI 2 l) (L : List (Int × Int)) (hLn : L.length ≤ 100000)
    (hmk : ∀ W, Below w.heap.size w W → RMake w.heap.size 183 (.agg #[.int .i64 (l.getD 0 0), .int .i64 (l.getD 1 0), .int .i64 (wordsI l)]) x y L W) :
    Calls Tryz.prog 87 #[.agg #[.int .i64 2, .slice sa l.length sc, .int .i64 hosts], .int .i64 x, .int .i64 y] w fun e w' => ∃ v, e = .returned (.tuple #[v, .int .i64 0]) ∧ NewInts w.heap.size w' v (x :: L.map (·.1)) ∧ Below w.heap.size w w' := by
  have HRO := Lib.hid (fun W (hb : Below w.heap.size w W) => routed2_any (h.keep hb) sc hosts x y hv hin)
  rw [if_pos hy, show rteE 2 l hosts x y = 0 by unfold rteE; rw [if_pos hv, if_pos hin, if_pos hy]] at HRO
  have HMK := Lib.hid hmk
  have HB := Lib.hid ((Below.refl w.heap.size w).alloc (Nat.le_refl _) (.cells #[.int .i64 2, .slice sa l.length sc, .int .i64 hosts] 24))
  have c0 := cellR 0 (heap_alloc_new w (.cells #[.int .i64 2, .slice sa l.length sc, .int .i64 hosts] 24)) rfl
  have c1 := cellR 1 (heap_alloc_new w (.cells #[.int .i64 2, .slice sa l.length sc, .int .i64 hosts] 24)) rfl
  have c2 := cellR 2 (heap_alloc_new w (.cells #[.int .i64 2, .slice sa l.length sc, .int .i64 hosts] 24)) rfl
  have hm := m_route2 (l.getD 0 0) (l.getD 1 0) (wordsI l)
  clear h hv hin hy hmk
  generalize l.getD 0 0 = p0 at *
  generalize l.getD 1 0 = p1 at *
  generalize wordsI l = p2 at *
  have HLN := Lib.hid hLn
  clear hLn
  refine (callsIn_wide (n := 4)).1 ?_
  refine callsIn_of_wp_marks Tryz.func87 rfl trivial ?_ rfl
  simp only [Tryz.ntmps87, List.size_toArray, List.length_cons, List.length_nil, Nat.reduceAdd, Nat.reduceSub, Array.replicate_succ, Array.replicate_zero, List.push_toArray, List.append_toArray, List.nil_append, List.cons_append]
  gi_wp2
  generalize w.alloc (.cells #[.int .i64 2, .slice sa l.length sc, .int .i64 hosts] 24) = X at *
  refine ⟨trivial, callsIn_wide.2 ((HRO.out _ HB.out).mono ?_)⟩
  rintro e w1 ⟨rfl, hb1⟩
  have HB1 := Lib.hid (HB.out.trans (hb1.mono HB.out.size))
  clear HRO c0 c1 c2 HB hb1
  gi_wp2
  obtain ⟨hbw, r0, r1, hz⟩ := twoN w1 (.cells #[.int .i64 x] 3) (.cells #[.slice (some ⟨w1.heap.size, 0, none⟩) 1 1] 22)
  generalize (w1.alloc (.cells #[.int .i64 x] 3)).alloc (.cells #[.slice (some ⟨w1.heap.size, 0, none⟩) 1 1] 22) = W0 at *
  have hO : OutI w1.heap.size (w1.heap.size + 1) [x] W0 := ⟨_, r1, ⟨rfl, .inr ⟨w1.heap.size, 1, #[.int .i64 x], rfl, Nat.le_refl _, r0, Nat.le_refl _, by decide, rfl, rfl⟩⟩, by simp⟩
  refine ⟨trivial, callsIn_wide.2 ((HMK.out _ (HB1.out.trans (hbw.mono HB1.out.size))).mono ?_)⟩
  rintro e w2 ⟨gf, lb, rfl, hIt, hb2⟩
  have hO2 := hO.below hb2
  have hbw2 := hbw.trans (hb2.mono (by rw [hz]; omega))
  obtain ⟨heg, Nd, hNd, hSq⟩ := hIt
  have hnd : ∀ b, Nd b → Fq w1.heap.size (w1.heap.size + 1) b w2 := fun b hb => Fq_of (Nat.le_refl _) hO hbw hb2 (hNd b hb).1 (hNd b hb).2
  have HSQ := Lib.hid (fun n => hSq n w1.heap.size (w1.heap.size + 1) HB1.out.size)
  have hz2 := hb2.size
  clear HMK hm hNd hSq hO hbw r0 r1 hb2
  gi_wp2
  refine range_w (L := L) (by omega) rfl heg (HSQ.out _) hnd Kq.trans (fun W q ob o' hs hl hc => Kq.putObj (by omega) W q ob o' hs hl hc (by omega)) (fun _ => rfl) (fun pre W => OutI w1.heap.size (w1.heap.size + 1) (x :: pre.map (·.1)) W ∧ Below w1.heap.size w1 W) (OwnFrom.and (OutI.own fun pre : List (Int × Int) => x :: pre.map (·.1)) (ownFrom_below (Nat.le_refl _) (by omega))) (fun pre => OutI.priv (Nat.le_refl _)) ⟨hO2, hbw2⟩ (fun p => ⟨#[Value.agg #[.int .i64 2, .slice sa l.length sc, .int .i64 hosts], .int .i64 x, .int .i64 y, .pointer (some ⟨w.heap.size, 0, none⟩), undef, undef, .slice none 0 0, .int .i64 0, .iface 142 (.agg #[.int .i64 p0, .int .i64 p1, .int .i64 p2]), .int .i64 0, .pointer (some ⟨w1.heap.size + 1, 0, none⟩), .int .i64 p.1, .tuple #[.iface 142 (.agg #[.int .i64 p0, .int .i64 p1, .int .i64 p2]), .int .i64 0], .agg #[.int .i64 2, .slice sa l.length sc, .int .i64 hosts], .int .i64 x, .int .i64 y, .tuple #[.iface 142 (.agg #[.int .i64 p0, .int .i64 p1, .int .i64 p2]), .int .i64 0], .iface 142 (.agg #[.int .i64 p0, .int .i64 p1, .int .i64 p2]), .int .i64 0, .int .i64 0, .bool false, undef, .int .i64 x, .slice (some ⟨w1.heap.size, 0, none⟩) 1 1, .iface 142 (.agg #[.int .i64 p0, .int .i64 p1, .int .i64 p2]), .int .i64 x, .int .i64 y, .func (.func gf) #[] lb, .int .i64 p.1, .int .i64 p.2, undef, undef, undef, undef, undef], []⟩) ?assign ?body ?done
  case assign =>
    intro q p W K hK
    gi_wp2
    exact hK
  case body =>
    rintro q pre p W ⟨hO3, hB3⟩ hlen
    have hll : (x :: pre.map (·.1)).length ≤ 200000 := by have := HLN.out; simp; omega
    obtain ⟨v, g, cap, wA, hv, hvA, hrun, hO4, hk4, hq4⟩ := hO3.append p.1 hll (by have := hB3.size; omega) (by omega)
    have cv := hv.cell
    have cA := hvA.cell
    have fA := hvA.frozen
    have lA := hvA.lt
    have hle : (x :: pre.map (·.1)).length + 1 = pre.length + 1 + 1 := by simp
    rw [hle] at hrun hO4 hk4 hq4
    clear hlen hll hle
    gi_wp2_with (gi_at_builtin; refine wpListIn_append_run rfl _ _ 22 rfl rfl rfl hrun ?_)
    exact ⟨hk4.from _, hq4, by simpa using hO4, hB3.trans hq4.1⟩
  case done =>
    rintro D W hD ⟨⟨v, hv, hrow, hnil⟩, hB3⟩ hK
    have cv := hv.cell
    have hs0 := HB1.out.size
    have hs2 := hbw2.size
    gi_wp2
    refine ⟨by simp, .inl ⟨_, _, rfl, run_takeDeferred hK, ?_⟩⟩
    refine ⟨.tuple #[v, .int .i64 0], ?_, v, rfl, ⟨ownsRow_putObj (ownsRow_low hrow hs0) _ hK rfl, ?_⟩, (HB1.out.trans (hB3.mono hs0)).trans ⟨rfl, rfl, rfl, by simp [World.putObj], fun k hk => World.putObj_heap_other (by omega)⟩⟩
    · simp [results, Tryz.results87, go_sem]
    · have := HLN.out; simp; omega
theorem Classes2_any {w : World} {sa : Option Addr} {l : List Int} (h : Ints w sa l) (sc : Nat) (hosts x y : Int) (hv : vOk 2 l hosts) (hin : inB (swI 2 l) [x, y] = true) (hy : y < hoI 2 l) (L : List (Int × Int)) (hLn : L.length ≤ 100000)
    (hmk : ∀ W, Below w.heap.size w W → RMake w.heap.size 183 (.agg #[.int .i64 (l.getD 0 0), .int .i64 (l.getD 1 0), .int .i64 (wordsI l)]) x y L W) :
    Calls Tryz.prog 88 #[.agg #[.int .i64 2, .slice sa l.length sc, .int .i64 hosts], .int .i64 x, .int .i64 y] w fun e w' => ∃ v, e = .returned (.tuple #[v, .int .i64 0]) ∧ NewInts w.heap.size w' v (L.map (·.2)) ∧ Below w.heap.size w w' := by
  have HRO := Lib.hid (fun W (hb : Below w.heap.size w W) => routed2_any (h.keep hb) sc hosts x y hv hin)
  rw [if_pos hy, show rteE 2 l hosts x y = 0 by unfold rteE; rw [if_pos hv, if_pos hin, if_pos hy]] at HRO
  have HMK := Lib.hid hmk
  have HB := Lib.hid ((Below.refl w.heap.size w).alloc (Nat.le_refl _) (.cells #[.int .i64 2, .slice sa l.length sc, .int .i64 hosts] 24))
  have c0 := cellR 0 (heap_alloc_new w (.cells #[.int .i64 2, .slice sa l.length sc, .int .i64 hosts] 24)) rfl
  have c1 := cellR 1 (heap_alloc_new w (.cells #[.int .i64 2, .slice sa l.length sc, .int .i64 hosts] 24)) rfl
  have c2 := cellR 2 (heap_alloc_new w (.cells #[.int .i64 2, .slice sa l.length sc, .int .i64 hosts] 24)) rfl
  have hm := m_route2 (l.getD 0 0) (l.getD 1 0) (wordsI l)
  clear h hv hin hy hmk
  generalize l.getD 0 0 = p0 at *
  generalize l.getD 1 0 = p1 at *
  generalize wordsI l = p2 at *
  have HLN := Lib.hid hLn
  clear hLn
  refine (callsIn_wide (n := 4)).1 ?_
  refine callsIn_of_wp_marks Tryz.func88 rfl trivial ?_ rfl
  simp only [Tryz.ntmps88, List.size_toArray, List.length_cons, List.length_nil, Nat.reduceAdd, Nat.reduceSub, Array.replicate_succ, Array.replicate_zero, List.push_toArray, List.append_toArray, List.nil_append, List.cons_append]
  gi_wp2
  generalize w.alloc (.cells #[.int .i64 2, .slice sa l.length sc, .int .i64 hosts] 24) = X at *
  refine ⟨trivial, callsIn_wide.2 ((HRO.out _ HB.out).mono ?_)⟩
  rintro e w1 ⟨rfl, hb1⟩
  have HB1 := Lib.hid (HB.out.trans (hb1.mono HB.out.size))
  clear HRO c0 c1 c2 HB hb1
  gi_wp2
  have hbw : Below w1.heap.size w1 (w1.alloc (.cells #[.slice none 0 0] 22)) := (Below.refl _ _).alloc (Nat.le_refl _) _
  have r1 := heap_alloc_new w1 (.cells #[.slice none 0 0] 22)
  have hz : (w1.alloc (.cells #[.slice none 0 0] 22)).heap.size = w1.heap.size + 1 := by simp
  have hO : OutI w1.heap.size w1.heap.size [] (w1.alloc (.cells #[.slice none 0 0] 22)) := ⟨_, r1, ⟨rfl, .inl ⟨rfl, rfl⟩⟩, by simp⟩
  generalize w1.alloc (.cells #[.slice none 0 0] 22) = W0 at *
  refine ⟨trivial, callsIn_wide.2 ((HMK.out _ (HB1.out.trans (hbw.mono HB1.out.size))).mono ?_)⟩
  rintro e w2 ⟨gf, lb, rfl, hIt, hb2⟩
  have hO2 := hO.below hb2
  have hbw2 := hbw.trans (hb2.mono (by rw [hz]; omega))
  obtain ⟨heg, Nd, hNd, hSq⟩ := hIt
  have hnd : ∀ b, Nd b → Fq w1.heap.size w1.heap.size b w2 := fun b hb => Fq_of (Nat.le_refl _) hO hbw hb2 (hNd b hb).1 (hNd b hb).2
  have HSQ := Lib.hid (fun n => hSq n w1.heap.size w1.heap.size HB1.out.size)
  have hz2 := hb2.size
  clear HMK hm hNd hSq hO hbw r1 hb2
  gi_wp2
  refine range_w (L := L) (by omega) rfl heg (HSQ.out _) hnd Kq.trans (fun W q ob o' hs hl hc => Kq.putObj (by omega) W q ob o' hs hl hc (by omega)) (fun _ => rfl) (fun pre W => OutI w1.heap.size w1.heap.size (pre.map (·.2)) W ∧ Below w1.heap.size w1 W) (OwnFrom.and (OutI.own fun pre : List (Int × Int) => pre.map (·.2)) (ownFrom_below (Nat.le_refl _) (by omega))) (fun pre => OutI.priv (Nat.le_refl _)) ⟨hO2, hbw2⟩ (fun p => ⟨#[Value.agg #[.int .i64 2, .slice sa l.length sc, .int .i64 hosts], .int .i64 x, .int .i64 y, .pointer (some ⟨w.heap.size, 0, none⟩), undef, undef, .slice none 0 0, .int .i64 0, .iface 142 (.agg #[.int .i64 p0, .int .i64 p1, .int .i64 p2]), .int .i64 0, .pointer (some ⟨w1.heap.size, 0, none⟩), undef, .int .i64 p.2, .tuple #[.iface 142 (.agg #[.int .i64 p0, .int .i64 p1, .int .i64 p2]), .int .i64 0], .agg #[.int .i64 2, .slice sa l.length sc, .int .i64 hosts], .int .i64 x, .int .i64 y, .tuple #[.iface 142 (.agg #[.int .i64 p0, .int .i64 p1, .int .i64 p2]), .int .i64 0], .iface 142 (.agg #[.int .i64 p0, .int .i64 p1, .int .i64 p2]), .int .i64 0, .int .i64 0, .bool false, undef, .iface 142 (.agg #[.int .i64 p0, .int .i64 p1, .int .i64 p2]), .int .i64 x, .int .i64 y, .func (.func gf) #[] lb, .int .i64 p.1, .int .i64 p.2, undef, undef, undef, undef, undef], []⟩) ?assign ?body ?done
  case assign =>
    intro q p W K hK
    gi_wp2
    exact hK
  case body =>
    rintro q pre p W ⟨hO3, hB3⟩ hlen
    have hll : (pre.map (·.2)).length ≤ 200000 := by have := HLN.out; simp; omega
    obtain ⟨v, g, cap, wA, hv, hvA, hrun, hO4, hk4, hq4⟩ := hO3.append p.2 hll (by have := hB3.size; omega) (by omega)
    have cv := hv.cell
    have cA := hvA.cell
    have fA := hvA.frozen
    have lA := hvA.lt
    have hle : (pre.map (·.2)).length + 1 = pre.length + 1 := by simp
    rw [hle] at hrun hO4 hk4 hq4
    clear hlen hll hle
    gi_wp2_with (gi_at_builtin; refine wpListIn_append_run rfl _ _ 22 rfl rfl rfl hrun ?_)
    exact ⟨hk4.from _, hq4, by simpa using hO4, hB3.trans hq4.1⟩
  case done =>
    rintro D W hD ⟨⟨v, hv, hrow, hnil⟩, hB3⟩ hK
    have cv := hv.cell
    have hs0 := HB1.out.size
    have hs2 := hbw2.size
    gi_wp2
    refine ⟨by simp, .inl ⟨_, _, rfl, run_takeDeferred hK, ?_⟩⟩
    refine ⟨.tuple #[v, .int .i64 0], ?_, v, rfl, ⟨ownsRow_putObj (ownsRow_low hrow hs0) _ hK rfl, ?_⟩, (HB1.out.trans (hB3.mono hs0)).trans ⟨rfl, rfl, rfl, by simp [World.putObj], fun k hk => World.putObj_heap_other (by omega)⟩⟩
    · simp [results, Tryz.results88, go_sem]
    · have := HLN.out; simp; omega
theorem Route3_any {w : World} {sa : Option Addr} {l : List Int} (h : Ints w sa l) (sc : Nat) (hosts x y : Int) (hv : vOk 3 l hosts) (hin : inB (swI 3 l) [x, y] = true) (hy : y < hoI 3 l) (L : List (Int × Int)) (hLn : L.length ≤ 100000)
    (hmk : ∀ W, Below w.heap.size w W → RMake w.heap.size 197 (.agg #[.int .i64 (l.getD 0 0), .int .i64 (l.getD 1 0), .int .i64 (l.getD 0 0 * l.getD 1 0 + 1)]) x y L W) :
    Calls Tryz.prog 87 #[.agg #[.int .i64 3, .slice sa l.length sc, .int .i64 hosts], .int .i64 x, .int .i64 y] w fun e w' => ∃ v, e = .returned (.tuple #[v, .int .i64 0]) ∧ NewInts w.heap.size w' v (x :: L.map (·.1)) ∧ Below w.heap.size w w' := by
  have HRO := Lib.hid (fun W (hb : Below w.heap.size w W) => routed3_any (h.keep hb) sc hosts x y hv hin)
  rw [if_pos hy, show rteE 3 l hosts x y = 0 by unfold rteE; rw [if_pos hv, if_pos hin, if_pos hy]] at HRO
  have HMK := Lib.hid hmk
  have HB := Lib.hid ((Below.refl w.heap.size w).alloc (Nat.le_refl _) (.cells #[.int .i64 3, .slice sa l.length sc, .int .i64 hosts] 24))
  have c0 := cellR 0 (heap_alloc_new w (.cells #[.int .i64 3, .slice sa l.length sc, .int .i64 hosts] 24)) rfl
  have c1 := cellR 1 (heap_alloc_new w (.cells #[.int .i64 3, .slice sa l.length sc, .int .i64 hosts] 24)) rfl
  have c2 := cellR 2 (heap_alloc_new w (.cells #[.int .i64 3, .slice sa l.length sc, .int .i64 hosts] 24)) rfl
  have hm := m_route3 (l.getD 0 0) (l.getD 1 0) (l.getD 0 0 * l.getD 1 0 + 1)
  clear h hv hin hy hmk
  generalize l.getD 0 0 * l.getD 1 0 + 1 = p2 at *
  generalize l.getD 0 0 = p0 at *
  generalize l.getD 1 0 = p1 at *
  have HLN := Lib.hid hLn
  clear hLn
  refine (callsIn_wide (n := 4)).1 ?_
  refine callsIn_of_wp_marks Tryz.func87 rfl trivial ?_ rfl
  simp only [Tryz.ntmps87, List.size_toArray, List.length_cons, List.length_nil, Nat.reduceAdd, Nat.reduceSub, Array.replicate_succ, Array.replicate_zero, List.push_toArray, List.append_toArray, List.nil_append, List.cons_append]
  gi_wp2
  generalize w.alloc (.cells #[.int .i64 3, .slice sa l.length sc, .int .i64 hosts] 24) = X at *
  refine ⟨trivial, callsIn_wide.2 ((HRO.out _ HB.out).mono ?_)⟩
  rintro e w1 ⟨rfl, hb1⟩
  have HB1 := Lib.hid (HB.out.trans (hb1.mono HB.out.size))
  clear HRO c0 c1 c2 HB hb1
  gi_wp2
  obtain ⟨hbw, r0, r1, hz⟩ := twoN w1 (.cells #[.int .i64 x] 3) (.cells #[.slice (some ⟨w1.heap.size, 0, none⟩) 1 1] 22)
  generalize (w1.alloc (.cells #[.int .i64 x] 3)).alloc (.cells #[.slice (some ⟨w1.heap.size, 0, none⟩) 1 1] 22) = W0 at *
  have hO : OutI w1.heap.size (w1.heap.size + 1) [x] W0 := ⟨_, r1, ⟨rfl, .inr ⟨w1.heap.size, 1, #[.int .i64 x], rfl, Nat.le_refl _, r0, Nat.le_refl _, by decide, rfl, rfl⟩⟩, by simp⟩
  refine ⟨trivial, callsIn_wide.2 ((HMK.out _ (HB1.out.trans (hbw.mono HB1.out.size))).mono ?_)⟩
  rintro e w2 ⟨gf, lb, rfl, hIt, hb2⟩
  have hO2 := hO.below hb2
  have hbw2 := hbw.trans (hb2.mono (by rw [hz]; omega))
  obtain ⟨heg, Nd, hNd, hSq⟩ := hIt
  have hnd : ∀ b, Nd b → Fq w1.heap.size (w1.heap.size + 1) b w2 := fun b hb => Fq_of (Nat.le_refl _) hO hbw hb2 (hNd b hb).1 (hNd b hb).2
  have HSQ := Lib.hid (fun n => hSq n w1.heap.size (w1.heap.size + 1) HB1.out.size)
  have hz2 := hb2.size
  clear HMK hm hNd hSq hO hbw r0 r1 hb2
  gi_wp2
  refine range_w (L := L) (by omega) rfl heg (HSQ.out _) hnd Kq.trans (fun W q ob o' hs hl hc => Kq.putObj (by omega) W q ob o' hs hl hc (by omega)) (fun _ => rfl) (fun pre W => OutI w1.heap.size (w1.heap.size + 1) (x :: pre.map (·.1)) W ∧ Below w1.heap.size w1 W) (OwnFrom.and (OutI.own fun pre : List (Int × Int) => x :: pre.map (·.1)) (ownFrom_below (Nat.le_refl _) (by omega))) (fun pre => OutI.priv (Nat.le_refl _)) ⟨hO2, hbw2⟩ (fun p => ⟨#[Value.agg #[.int .i64 3, .slice sa l.length sc, .int .i64 hosts], .int .i64 x, .int .i64 y, .pointer (some ⟨w.heap.size, 0, none⟩), undef, undef, .slice none 0 0, .int .i64 0, .iface 146 (.agg #[.int .i64 p0, .int .i64 p1, .int .i64 p2]), .int .i64 0, .pointer (some ⟨w1.heap.size + 1, 0, none⟩), .int .i64 p.1, .tuple #[.iface 146 (.agg #[.int .i64 p0, .int .i64 p1, .int .i64 p2]), .int .i64 0], .agg #[.int .i64 3, .slice sa l.length sc, .int .i64 hosts], .int .i64 x, .int .i64 y, .tuple #[.iface 146 (.agg #[.int .i64 p0, .int .i64 p1, .int .i64 p2]), .int .i64 0], .iface 146 (.agg #[.int .i64 p0, .int .i64 p1, .int .i64 p2]), .int .i64 0, .int .i64 0, .bool false, undef, .int .i64 x, .slice (some ⟨w1.heap.size, 0, none⟩) 1 1, .iface 146 (.agg #[.int .i64 p0, .int .i64 p1, .int .i64 p2]), .int .i64 x, .int .i64 y, .func (.func gf) #[] lb, .int .i64 p.1, .int .i64 p.2, undef, undef, undef, undef, undef], []⟩) ?assign ?body ?done
  case assign =>
    intro q p W K hK
    gi_wp2
    exact hK
  case body =>
    rintro q pre p W ⟨hO3, hB3⟩ hlen
    have hll : (x :: pre.map (·.1)).length ≤ 200000 := by have := HLN.out; simp; omega
    obtain ⟨v, g, cap, wA, hv, hvA, hrun, hO4, hk4, hq4⟩ := hO3.append p.1 hll (by have := hB3.size; omega) (by omega)
    have cv := hv.cell
    have cA := hvA.cell
    have fA := hvA.frozen
    have lA := hvA.lt
    have hle : (x :: pre.map (·.1)).length + 1 = pre.length + 1 + 1 := by simp
    rw [hle] at hrun hO4 hk4 hq4
    clear hlen hll hle
    gi_wp2_with (gi_at_builtin; refine wpListIn_append_run rfl _ _ 22 rfl rfl rfl hrun ?_)
    exact ⟨hk4.from _, hq4, by simpa using hO4, hB3.trans hq4.1⟩
  case done =>
    rintro D W hD ⟨⟨v, hv, hrow, hnil⟩, hB3⟩ hK
    have cv := hv.cell
    have hs0 := HB1.out.size
    have hs2 := hbw2.size
    gi_wp2
    refine ⟨by simp, .inl ⟨_, _, rfl, run_takeDeferred hK, ?_⟩⟩
    refine ⟨.tuple #[v, .int .i64 0], ?_, v, rfl, ⟨ownsRow_putObj (ownsRow_low hrow hs0) _ hK rfl, ?_⟩, (HB1.out.trans (hB3.mono hs0)).trans ⟨rfl, rfl, rfl, by simp [World.putObj], fun k hk => World.putObj_heap_other (by omega)⟩⟩
    · simp [results, Tryz.results87, go_sem]
    · have := HLN.out; simp; omega
theorem Classes3_any {w : World} {sa : Option Addr} {l : List Int} (h : Ints w sa l) (sc : Nat) (hosts x y : Int) (hv : vOk 3 l hosts) (hin : inB (swI 3 l) [x, y] = true) (hy : y < hoI 3 l) (L : List (Int × Int)) (hLn : L.length ≤ 100000)
    (hmk : ∀ W, Below w.heap.size w W → RMake w.heap.size 197 (.agg #[.int .i64 (l.getD 0 0), .int .i64 (l.getD 1 0), .int .i64 (l.getD 0 0 * l.getD 1 0 + 1)]) x y L W) :
    Calls Tryz.prog 88 #[.agg #[.int .i64 3, .slice sa l.length sc, .int .i64 hosts], .int .i64 x, .int .i64 y] w fun e w' => ∃ v, e = .returned (.tuple #[v, .int .i64 0]) ∧ NewInts w.heap.size w' v (L.map (·.2)) ∧ Below w.heap.size w w' := by
  have HRO := Lib.hid (fun W (hb : Below w.heap.size w W) => routed3_any (h.keep hb) sc hosts x y hv hin)
  rw [if_pos hy, show rteE 3 l hosts x y = 0 by unfold rteE; rw [if_pos hv, if_pos hin, if_pos hy]] at HRO
  have HMK := Lib.hid hmk
  have HB := Lib.hid ((Below.refl w.heap.size w).alloc (Nat.le_refl _) (.cells #[.int .i64 3, .slice sa l.length sc, .int .i64 hosts] 24))
  have c0 := cellR 0 (heap_alloc_new w (.cells #[.int .i64 3, .slice sa l.length sc, .int .i64 hosts] 24)) rfl
  have c1 := cellR 1 (heap_alloc_new w (.cells #[.int .i64 3, .slice sa l.length sc, .int .i64 hosts] 24)) rfl
  have c2 := cellR 2 (heap_alloc_new w (.cells #[.int .i64 3, .slice sa l.length sc, .int .i64 hosts] 24)) rfl
  have hm := m_route3 (l.getD 0 0) (l.getD 1 0) (l.getD 0 0 * l.getD 1 0 + 1)
  clear h hv hin hy hmk
  generalize l.getD 0 0 * l.getD 1 0 + 1 = p2 at *
  generalize l.getD 0 0 = p0 at *
  generalize l.getD 1 0 = p1 at *
  have HLN := Lib.hid hLn
  clear hLn
  refine (callsIn_wide (n := 4)).1 ?_
  refine callsIn_of_wp_marks Tryz.func88 rfl trivial ?_ rfl
  simp only [Tryz.ntmps88, List.size_toArray, List.length_cons, List.length_nil, Nat.reduceAdd, Nat.reduceSub, Array.replicate_succ, Array.replicate_zero, List.push_toArray, List.append_toArray, List.nil_append, List.cons_append]
  gi_wp2
  generalize w.alloc (.cells #[.int .i64 3, .slice sa l.length sc, .int .i64 hosts] 24) = X at *
  refine ⟨trivial, callsIn_wide.2 ((HRO.out _ HB.out).mono ?_)⟩
  rintro e w1 ⟨rfl, hb1⟩
  have HB1 := Lib.hid (HB.out.trans (hb1.mono HB.out.size))
  clear HRO c0 c1 c2 HB hb1
  gi_wp2
  have hbw : Below w1.heap.size w1 (w1.alloc (.cells #[.slice none 0 0] 22)) := (Below.refl _ _).alloc (Nat.le_refl _) _
  have r1 := heap_alloc_new w1 (.cells #[.slice none 0 0] 22)
  have hz : (w1.alloc (.cells #[.slice none 0 0] 22)).heap.size = w1.heap.size + 1 := by simp
  have hO : OutI w1.heap.size w1.heap.size [] (w1.alloc (.cells #[.slice none 0 0] 22)) := ⟨_, r1, ⟨rfl, .inl ⟨rfl, rfl⟩⟩, by simp⟩
  generalize w1.alloc (.cells #[.slice none 0 0] 22) = W0 at *
  refine ⟨trivial, callsIn_wide.2 ((HMK.out _ (HB1.out.trans (hbw.mono HB1.out.size))).mono ?_)⟩
  rintro e w2 ⟨gf, lb, rfl, hIt, hb2⟩
  have hO2 := hO.below hb2
  have hbw2 := hbw.trans (hb2.mono (by rw [hz]; omega))
  obtain ⟨heg, Nd, hNd, hSq⟩ := hIt
  have hnd : ∀ b, Nd b → Fq w1.heap.size w1.heap.size b w2 := fun b hb => Fq_of (Nat.le_refl _) hO hbw hb2 (hNd b hb).1 (hNd b hb).2
  have HSQ := Lib.hid (fun n => hSq n w1.heap.size w1.heap.size HB1.out.size)
  have hz2 := hb2.size
  clear HMK hm hNd hSq hO hbw r1 hb2
  gi_wp2
  refine range_w (L := L) (by omega) rfl heg (HSQ.out _) hnd Kq.trans (fun W q ob o' hs hl hc => Kq.putObj (by omega) W q ob o' hs hl hc (by omega)) (fun _ => rfl) (fun pre W => OutI w1.heap.size w1.heap.size (pre.map (·.2)) W ∧ Below w1.heap.size w1 W) (OwnFrom.and (OutI.own fun pre : List (Int × Int) => pre.map (·.2)) (ownFrom_below (Nat.le_refl _) (by omega))) (fun pre => OutI.priv (Nat.le_refl _)) ⟨hO2, hbw2⟩ (fun p => ⟨#[Value.agg #[.int .i64 3, .slice sa l.length sc, .int .i64 hosts], .int .i64 x, .int .i64 y, .pointer (some ⟨w.heap.size, 0, none⟩), undef, undef, .slice none 0 0, .int .i64 0, .iface 146 (.agg #[.int .i64 p0, .int .i64 p1, .int .i64 p2]), .int .i64 0, .pointer (some ⟨w1.heap.size, 0, none⟩), undef, .int .i64 p.2, .tuple #[.iface 146 (.agg #[.int .i64 p0, .int .i64 p1, .int .i64 p2]), .int .i64 0], .agg #[.int .i64 3, .slice sa l.length sc, .int .i64 hosts], .int .i64 x, .int .i64 y, .tuple #[.iface 146 (.agg #[.int .i64 p0, .int .i64 p1, .int .i64 p2]), .int .i64 0], .iface 146 (.agg #[.int .i64 p0, .int .i64 p1, .int .i64 p2]), .int .i64 0, .int .i64 0, .bool false, undef, .iface 146 (.agg #[.int .i64 p0, .int .i64 p1, .int .i64 p2]), .int .i64 x, .int .i64 y, .func (.func gf) #[] lb, .int .i64 p.1, .int .i64 p.2, undef, undef, undef, undef, undef], []⟩) ?assign ?body ?done
  case assign =>
    intro q p W K hK
    gi_wp2
    exact hK
  case body =>
    rintro q pre p W ⟨hO3, hB3⟩ hlen
    have hll : (pre.map (·.2)).length ≤ 200000 := by have := HLN.out; simp; omega
    obtain ⟨v, g, cap, wA, hv, hvA, hrun, hO4, hk4, hq4⟩ := hO3.append p.2 hll (by have := hB3.size; omega) (by omega)
    have cv := hv.cell
    have cA := hvA.cell
    have fA := hvA.frozen
    have lA := hvA.lt
    have hle : (pre.map (·.2)).length + 1 = pre.length + 1 := by simp
    rw [hle] at hrun hO4 hk4 hq4
    clear hlen hll hle
    gi_wp2_with (gi_at_builtin; refine wpListIn_append_run rfl _ _ 22 rfl rfl rfl hrun ?_)
    exact ⟨hk4.from _, hq4, by simpa using hO4, hB3.trans hq4.1⟩
  case done =>
    rintro D W hD ⟨⟨v, hv, hrow, hnil⟩, hB3⟩ hK
    have cv := hv.cell
    have hs0 := HB1.out.size
    have hs2 := hbw2.size
    gi_wp2
    refine ⟨by simp, .inl ⟨_, _, rfl, run_takeDeferred hK, ?_⟩⟩
    refine ⟨.tuple #[v, .int .i64 0], ?_, v, rfl, ⟨ownsRow_putObj (ownsRow_low hrow hs0) _ hK rfl, ?_⟩, (HB1.out.trans (hB3.mono hs0)).trans ⟨rfl, rfl, rfl, by simp [World.putObj], fun k hk => World.putObj_heap_other (by omega)⟩⟩
    · simp [results, Tryz.results88, go_sem]
    · have := HLN.out; simp; omega
/-- the steps of a route in a network -/
def dragSteps (l : List Int) (x y : Int) : List (Int × Int) := dragL (l.getD 0 0) (l.getD 1 0) x y
theorem dragL_len (a h x y : Int) : (dragL a h x y).length ≤ 3 := by
  unfold dragL
  repeat' split
  all_goals simp
end Go.Proofs.YtbhkenphcahifaaGreat
namespace Go.Proofs.YtbhkenphcahifaaGreat
open Go.RowKit Go.Shelf
attribute [local go_sem] Oper.semAt_some
set_option maxRecDepth 100000
set_option maxHeartbeats 4000000
theorem routed_err {w : World} {sa : Option Addr} {l : List Int} (h : Ints w sa l) (sc : Nat) (kind hosts x y : Int) (hE : rteE kind l hosts x y ≠ 0) :
    Calls Tryz.prog 115 #[.agg #[.int .i64 kind, .slice sa l.length sc, .int .i64 hosts], .int .i64 x, .int .i64 y] w fun e w' => e = .returned (.tuple #[.nilIface, .int .i64 (rteE kind l hosts x y)]) ∧ Below w.heap.size w w' := by
  by_cases hv : vOk kind l hosts ∧ inB (swI kind l) [x, y] = true
  · have hy : ¬ y < hoI kind l := fun hy => hE (by unfold rteE; rw [if_pos hv.1, if_pos hv.2, if_pos hy])
    obtain ⟨hv, hin⟩ := hv
    rcases v_kind hv with rfl | rfl | rfl
    · have := routed1_any h sc hosts x y hv hin; rw [if_neg hy] at this; exact this
    · have := routed2_any h sc hosts x y hv hin; rw [if_neg hy] at this; exact this
    · have := routed3_any h sc hosts x y hv hin; rw [if_neg hy] at this; exact this
  · exact routed_bad h sc kind hosts x y hv
theorem Route_bad {w : World} {sa : Option Addr} {l : List Int} (h : Ints w sa l) (sc : Nat) (kind hosts x y : Int) (hE : rteE kind l hosts x y ≠ 0) :
    Calls Tryz.prog 87 #[.agg #[.int .i64 kind, .slice sa l.length sc, .int .i64 hosts], .int .i64 x, .int .i64 y] w fun e w' => e = .returned (.tuple #[.slice none 0 0, .int .i64 (rteE kind l hosts x y)]) ∧ Below w.heap.size w w' := by
  have HRO := Lib.hid (fun W (hb : Below w.heap.size w W) => routed_err (h.keep hb) sc kind hosts x y hE)
  have hne : (rteE kind l hosts x y != 0) = true := bne_iff_ne.2 hE
  generalize rteE kind l hosts x y = E at *
  have HB := Lib.hid ((Below.refl w.heap.size w).alloc (Nat.le_refl _) (.cells #[.int .i64 kind, .slice sa l.length sc, .int .i64 hosts] 24))
  have c0 := cellR 0 (heap_alloc_new w (.cells #[.int .i64 kind, .slice sa l.length sc, .int .i64 hosts] 24)) rfl
  have c1 := cellR 1 (heap_alloc_new w (.cells #[.int .i64 kind, .slice sa l.length sc, .int .i64 hosts] 24)) rfl
  have c2 := cellR 2 (heap_alloc_new w (.cells #[.int .i64 kind, .slice sa l.length sc, .int .i64 hosts] 24)) rfl
  clear h hE
  refine (callsIn_wide (n := 4)).1 ?_
  refine callsIn_of_wp_marks Tryz.func87 rfl trivial ?_ rfl
  simp only [Tryz.ntmps87, List.size_toArray, List.length_cons, List.length_nil, Nat.reduceAdd, Nat.reduceSub, Array.replicate_succ, Array.replicate_zero, List.push_toArray, List.append_toArray, List.nil_append, List.cons_append]
  gi_wp2
  generalize w.alloc (.cells #[.int .i64 kind, .slice sa l.length sc, .int .i64 hosts] 24) = X at *
  refine ⟨trivial, callsIn_wide.2 ((HRO.out _ HB.out).mono ?_)⟩
  rintro e w1 ⟨rfl, hb1⟩
  have HB1 := Lib.hid (HB.out.trans (hb1.mono HB.out.size))
  clear HRO c0 c1 c2 HB hb1
  gi_wp2
  refine ⟨.tuple #[.slice none 0 0, .int .i64 E], ?_, rfl, HB1.out⟩
  simp [results, Tryz.results87, go_sem]
theorem Classes_bad {w : World} {sa : Option Addr} {l : List Int} (h : Ints w sa l) (sc : Nat) (kind hosts x y : Int) (hE : rteE kind l hosts x y ≠ 0) :
    Calls Tryz.prog 88 #[.agg #[.int .i64 kind, .slice sa l.length sc, .int .i64 hosts], .int .i64 x, .int .i64 y] w fun e w' => e = .returned (.tuple #[.slice none 0 0, .int .i64 (rteE kind l hosts x y)]) ∧ Below w.heap.size w w' := by
  have HRO := Lib.hid (fun W (hb : Below w.heap.size w W) => routed_err (h.keep hb) sc kind hosts x y hE)
  have hne : (rteE kind l hosts x y != 0) = true := bne_iff_ne.2 hE
  generalize rteE kind l hosts x y = E at *
  have HB := Lib.hid ((Below.refl w.heap.size w).alloc (Nat.le_refl _) (.cells #[.int .i64 kind, .slice sa l.length sc, .int .i64 hosts] 24))
  have c0 := cellR 0 (heap_alloc_new w (.cells #[.int .i64 kind, .slice sa l.length sc, .int .i64 hosts] 24)) rfl
  have c1 := cellR 1 (heap_alloc_new w (.cells #[.int .i64 kind, .slice sa l.length sc, .int .i64 hosts] 24)) rfl
  have c2 := cellR 2 (heap_alloc_new w (.cells #[.int .i64 kind, .slice sa l.length sc, .int .i64 hosts] 24)) rfl
  clear h hE
  refine (callsIn_wide (n := 4)).1 ?_
  refine callsIn_of_wp_marks Tryz.func88 rfl trivial ?_ rfl
  simp only [Tryz.ntmps88, List.size_toArray, List.length_cons, List.length_nil, Nat.reduceAdd, Nat.reduceSub, Array.replicate_succ, Array.replicate_zero, List.push_toArray, List.append_toArray, List.nil_append, List.cons_append]
  gi_wp2
  generalize w.alloc (.cells #[.int .i64 kind, .slice sa l.length sc, .int .i64 hosts] 24) = X at *
  refine ⟨trivial, callsIn_wide.2 ((HRO.out _ HB.out).mono ?_)⟩
  rintro e w1 ⟨rfl, hb1⟩
  have HB1 := Lib.hid (HB.out.trans (hb1.mono HB.out.size))
  clear HRO c0 c1 c2 HB hb1
  gi_wp2
  refine ⟨.tuple #[.slice none 0 0, .int .i64 E], ?_, rfl, HB1.out⟩
  simp [results, Tryz.results88, go_sem]
end Go.Proofs.YtbhkenphcahifaaGreat
namespace Go.Proofs.YtbhkenphcahifaaGreat
open Go.RowKit Go.Shelf
set_option maxRecDepth 100000
set_option maxHeartbeats 4000000
theorem inB_two {n x y : Int} (h : inB n [x, y] = true) : (0 ≤ x ∧ x ≤ n - 1) ∧ (0 ≤ y ∧ y ≤ n - 1) := by simpa [inB] using h
theorem dragSteps_make {l : List Int} {hosts x y : Int} (hv : vOk 3 l hosts) (hin : inB (swI 3 l) [x, y] = true) (lo : Nat) (W : World) :
    RMake lo 197 (.agg #[.int .i64 (l.getD 0 0), .int .i64 (l.getD 1 0), .int .i64 (l.getD 0 0 * l.getD 1 0 + 1)]) x y (dragSteps l x y) W := by
  obtain ⟨⟨hx0, hx1⟩, hy0, hy1⟩ := inB_two hin
  have hd : dOk l hosts := by
    rcases hv with ⟨h0, h1⟩ | ⟨h0, h1⟩ | ⟨h0, h1⟩
    · cases h0
    · cases h0
    · exact h1
  have hs : swI 3 l = l.getD 0 0 * (l.getD 0 0 * l.getD 1 0 + 1) := rfl
  rw [hs] at hx1 hy1
  exact dragMake lo _ _ x y hd.2.2.1.1 hd.2.2.1.2 hd.2.2.2.1.1 hd.2.2.2.1.2 hx0 (by omega) hy0 (by omega) W
theorem Route_drag {w : World} {sa : Option Addr} {l : List Int} (h : Ints w sa l) (sc : Nat) (hosts x y : Int) (hv : vOk 3 l hosts) (hin : inB (swI 3 l) [x, y] = true) (hy : y < hoI 3 l) :
    Calls Tryz.prog 87 #[.agg #[.int .i64 3, .slice sa l.length sc, .int .i64 hosts], .int .i64 x, .int .i64 y] w fun e w' => ∃ v, e = .returned (.tuple #[v, .int .i64 0]) ∧ NewInts w.heap.size w' v (x :: (dragSteps l x y).map (·.1)) ∧ Below w.heap.size w w' :=
  Route3_any h sc hosts x y hv hin hy _ (Nat.le_trans (dragL_len _ _ _ _) (by decide)) (fun W _ => dragSteps_make hv hin _ W)
theorem Classes_drag {w : World} {sa : Option Addr} {l : List Int} (h : Ints w sa l) (sc : Nat) (hosts x y : Int) (hv : vOk 3 l hosts) (hin : inB (swI 3 l) [x, y] = true) (hy : y < hoI 3 l) :
    Calls Tryz.prog 88 #[.agg #[.int .i64 3, .slice sa l.length sc, .int .i64 hosts], .int .i64 x, .int .i64 y] w fun e w' => ∃ v, e = .returned (.tuple #[v, .int .i64 0]) ∧ NewInts w.heap.size w' v ((dragSteps l x y).map (·.2)) ∧ Below w.heap.size w w' :=
  Classes3_any h sc hosts x y hv hin hy _ (Nat.le_trans (dragL_len _ _ _ _) (by decide)) (fun W _ => dragSteps_make hv hin _ W)
end Go.Proofs.YtbhkenphcahifaaGreat
namespace Go.Proofs.YtbhkenphcahifaaGreat
open Go.RowKit Go.Shelf
attribute [local go_sem] Oper.semAt_some
set_option maxRecDepth 100000
set_option maxHeartbeats 4000000
/-- the number of coordinates -/
def numK (l a : List Int) : Nat → Int
  | 0 => 0
  | k + 1 => numK l a k * l.getD k 0 + a.getD k 0
def numI (l a : List Int) : Int := numK l a l.length
theorem numK_bound {l a : List Int} (hb : ∀ i, i < l.length → 2 ≤ l.getD i 0 ∧ l.getD i 0 ≤ 16) (ha : ∀ i, i < l.length → 0 ≤ a.getD i 0 ∧ a.getD i 0 < l.getD i 0) : ∀ k, k ≤ l.length → 0 ≤ numK l a k ∧ numK l a k + 1 ≤ 16 ^ k := by
  intro k
  induction k with
  | zero => intro _; exact ⟨Int.le_refl _, by show (0 : Int) + 1 ≤ 16 ^ 0; decide⟩
  | succ k ih =>
    intro hk
    obtain ⟨i1, i2⟩ := ih (by omega)
    obtain ⟨b1, b2⟩ := hb k (by omega)
    obtain ⟨a1, a2⟩ := ha k (by omega)
    show 0 ≤ numK l a k * l.getD k 0 + a.getD k 0 ∧ numK l a k * l.getD k 0 + a.getD k 0 + 1 ≤ 16 ^ (k + 1)
    rw [Int.pow_succ]
    generalize numK l a k = x at *
    generalize l.getD k 0 = s at *
    generalize a.getD k 0 = c at *
    generalize (16 : Int) ^ k = P at *
    have h1 : 0 ≤ x * s := Int.mul_nonneg i1 (by omega)
    have h2 : (x + 1) * s ≤ P * 16 := Int.mul_le_mul i2 b2 (by omega) (by omega)
    rw [Int.add_mul] at h2
    omega
theorem number_any {w : World} {sa ta : Option Addr} {l a : List Int} (h : Ints w sa l) (ht : Ints w ta a) (hn : a.length = l.length) (h4 : l.length ≤ 4) (hb : ∀ i, i < l.length → 2 ≤ l.getD i 0 ∧ l.getD i 0 ≤ 16) (ha : ∀ i, i < l.length → 0 ≤ a.getD i 0 ∧ a.getD i 0 < l.getD i 0) (sc tc : Nat) (m : Int) :
    Calls Tryz.prog 152 #[.agg #[.slice sa l.length sc, .int .i64 m], .slice ta a.length tc] w fun e w' => e = .returned (.int .i64 (numI l a)) ∧ Below w.heap.size w w' := by
  have HL := Lib.hid h
  have HA := Lib.hid ht
  obtain ⟨N, hN⟩ : ∃ N, N = l.length := ⟨_, rfl⟩
  have HN := Lib.hid hN
  have HN2 : Hid (N = a.length) := by show _ = _; rw [hN, hn]
  have HBD := Lib.hid (numK_bound hb ha)
  have HBB := Lib.hid hb
  have HAA := Lib.hid ha
  obtain ⟨R, hR⟩ : ∃ R, R = numI l a := ⟨_, rfl⟩
  have HR : Hid (R = numK l a N) := by show _ = _; rw [hR, hN]; rfl
  rw [hn, ← hN, ← hR]
  rw [← hN] at h4
  have HB := Lib.hid ((Below.refl w.heap.size w).alloc (Nat.le_refl _) (.cells #[.slice sa N sc, .int .i64 m] 138))
  have c0 := cellR 0 (heap_alloc_new w (.cells #[.slice sa N sc, .int .i64 m] 138)) rfl
  have c1 := cellR 1 (heap_alloc_new w (.cells #[.slice sa N sc, .int .i64 m] 138)) rfl
  clear h ht hn hb ha hN hR
  go_enter Tryz.func152, Tryz.ntmps152
  go_wp2_with fail
  generalize w.alloc (.cells #[.slice sa N sc, .int .i64 m] 138) = X at *
  go_loop [5, 11] (fun p i => ∃ (k : Nat), k ≤ N ∧ i = .int .i64 k ∧ p = .int .i64 (numK l a k)) (fun _ i => N - (intOf i).toNat)
  case atStart => exact ⟨0, Nat.zero_le _, rfl, rfl⟩
  case round =>
    obtain ⟨k, hk, rfl, rfl⟩ := hrel
    by_cases hlt : k < N
    · have k1 : k < l.length := by rw [← HN.out]; exact hlt
      have k2 : k < a.length := by rw [← HN2.out]; exact hlt
      obtain ⟨g, o, rfl, hc⟩ := (HL.out.keep HB.out).at_ (ne_nil_of_lt k1)
      obtain ⟨g2, o2, rfl, hc2⟩ := (HA.out.keep HB.out).at_ (ne_nil_of_lt k2)
      have e0 := hc k k1
      have e1 := hc2 k k2
      have el : l.getD k 0 = l[k] := by simp [List.getD, k1]
      have ea : a.getD k 0 = a[k] := by simp [List.getD, k2]
      have HS : Hid (numK l a (k + 1) = numK l a k * l[k] + a[k]) := by show _ = _; rw [← el, ← ea]; rfl
      obtain ⟨y, hy⟩ : ∃ y, y = numK l a (k + 1) := ⟨_, rfl⟩
      have HY := Lib.hid hy
      obtain ⟨i1, i2⟩ := HBD.out k (by omega)
      obtain ⟨j1, j2⟩ := HBD.out (k + 1) (by rw [← HN.out]; omega)
      obtain ⟨b1, b2⟩ := HBB.out k k1
      obtain ⟨a1, a2⟩ := HAA.out k k1
      rw [el] at b1 b2 a2
      rw [ea] at a1 a2
      have p1 := lim16 (show k ≤ 4 by omega)
      rw [HS.out] at j1 j2
      rw [← hy] at HS
      clear hy
      generalize numK l a k = x at *
      generalize l[k] = s at *
      generalize a[k] = c at *
      have m1 : 0 ≤ x * s := Int.mul_nonneg i1 (by omega)
      have m2 : x * s ≤ 65536 * 16 := Int.mul_le_mul (by omega) b2 (by omega) (by decide)
      have hw1 : wrap64 (x * s) = x * s := by generalize x * s = z at *; unfold wrap64; omega
      have hw2 : wrap64 (x * s + c) = x * s + c := by generalize x * s = z at *; unfold wrap64; omega
      clear hc hc2 k1 k2 el ea j1 j2 m1 m2 p1 i1 i2 b1 b2 a1 a2
      go_wp2_with fail
      go_round
      case rel => exact ⟨k + 1, by omega, by go_num, by rw [← HY.out, HS.out, hw2]⟩
      case measure => simp [intOf]; omega
    · have hkN : k = N := by omega
      subst hkN
      go_wp2_with fail
      go_ret
      exact ⟨by rw [HR.out]; rfl, HB.out⟩
end Go.Proofs.YtbhkenphcahifaaGreat
namespace Go.Proofs.YtbhkenphcahifaaGreat
open Go.RowKit Go.Shelf
attribute [local go_sem] Oper.semAt_some
set_option maxRecDepth 100000
set_option maxHeartbeats 4000000
theorem wrap_small (x : Int) (h0 : -1000000000 ≤ x) (h1 : x ≤ 1000000000) : wrap64 x = x := by unfold wrap64; omega
/-- down a tree -/
def downL (k : Nat) (ww y : Int) : Nat → Int → List (Int × Int)
  | 0, _ => []
  | l + 1, wd => ((l : Int) * ww + wthI k l wd (digI k l y), 0) :: downL k ww y l (wthI k l wd (digI k l y))
/-- up a tree, then down -/
def upL (k : Nat) (ww y : Int) : Nat → Nat → Int → List (Int × Int)
  | 0, l, wd => downL k ww y l wd
  | f + 1, l, wd => if wd / ((k ^ l : Nat) : Int) ≠ y / ((k ^ l : Nat) : Int) then (((l + 1 : Nat) : Int) * ww + wthI k l wd (digI k l y), 0) :: upL k ww y f (l + 1) (wthI k l wd (digI k l y)) else downL k ww y l wd
/-- a route in a tree of lv levels -/
def treeL (k lv : Nat) (x y : Int) : List (Int × Int) := upL k ((k ^ (lv - 1) : Nat) : Int) y lv (x / ((k ^ (lv - 1) : Nat) : Int)).toNat (x % ((k ^ (lv - 1) : Nat) : Int))
theorem wth_in {k i m : Nat} {x d : Int} (hk : 1 ≤ k) (him : i < m) (hx : 0 ≤ x) (hx2 : x < ((k ^ m : Nat) : Int)) (hd : 0 ≤ d) (hd2 : d < k) : 0 ≤ wthI k i x d ∧ wthI k i x d < ((k ^ m : Nat) : Int) := by
  obtain ⟨j, rfl⟩ : ∃ j, m = i + 1 + j := ⟨m - i - 1, by omega⟩
  unfold wthI digI
  have hP : (1 : Int) ≤ ((k ^ i : Nat) : Int) := by have := pow_pos' (i := i) hk; omega
  have hpe : ((k ^ (i + 1 + j) : Nat) : Int) = ((k ^ i : Nat) : Int) * ((k : Int) * ((k ^ j : Nat) : Int)) := by
    rw [← Int.natCast_mul, ← Int.natCast_mul, Nat.add_assoc, Nat.pow_add, Nat.add_comm 1 j, Nat.pow_succ, Nat.mul_comm k]
  rw [hpe] at hx2 ⊢
  generalize ((k ^ i : Nat) : Int) = P at *
  generalize ((k ^ j : Nat) : Int) = R at *
  obtain ⟨K, hK⟩ : ∃ K : Int, (k : Int) = K := ⟨_, rfl⟩
  have hK1 : 1 ≤ K := by omega
  rw [hK] at hx2 hd2 ⊢
  have h1 := Int.mul_ediv_add_emod x P
  have h2 := Int.emod_nonneg x (show P ≠ 0 by omega)
  have h3 := Int.emod_lt_of_pos x (show 0 < P by omega)
  have h4 : x / P < K * R := Int.ediv_lt_of_lt_mul (by omega) (by rw [Int.mul_comm]; exact hx2)
  have hq0 := Int.ediv_nonneg hx (show 0 ≤ P by omega)
  generalize x / P = Q at *
  generalize x % P = r at *
  have g1 := Int.mul_ediv_add_emod Q K
  have g2 := Int.emod_nonneg Q (show K ≠ 0 by omega)
  have g3 := Int.emod_lt_of_pos Q (show 0 < K by omega)
  have g4 : Q / K < R := Int.ediv_lt_of_lt_mul (by omega) (by rw [Int.mul_comm]; exact h4)
  have g5 := Int.ediv_nonneg hq0 (show 0 ≤ K by omega)
  generalize Q / K = s at *
  generalize Q % K = t at *
  have e : x + (d - t) * P = P * (K * s + d) + r := by
    rw [← h1, ← g1, Int.sub_mul, Int.mul_add, Int.mul_add, Int.mul_comm d P, Int.mul_comm t P]; omega
  rw [e]
  have f1 : 0 ≤ K * s := Int.mul_nonneg (by omega) g5
  have f2 : 0 ≤ P * (K * s + d) := Int.mul_nonneg (by omega) (by omega)
  have f3 : K * (s + 1) ≤ K * R := Int.mul_le_mul_of_nonneg_left (by omega) (by omega)
  rw [Int.mul_add] at f3
  have f4 : P * (K * s + d + 1) ≤ P * (K * R) := Int.mul_le_mul_of_nonneg_left (by omega) (by omega)
  rw [Int.mul_add] at f4
  omega
theorem upF {k : Nat} {ww y : Int} {lv : Nat} (hT : ∀ l wd, l = lv - 1 → 0 ≤ wd → wd < ww → wd / ((k ^ l : Nat) : Int) = y / ((k ^ l : Nat) : Int)) (hW : ∀ l wd, l < lv - 1 → 0 ≤ wd → wd < ww → 0 ≤ wthI k l wd (digI k l y) ∧ wthI k l wd (digI k l y) < ww) :
    ∀ (f l : Nat) (wd : Int), l < lv → lv - l ≤ f → 0 ≤ wd → wd < ww → upL k ww y f l wd = upL k ww y (lv - l) l wd := by
  intro f
  induction f with
  | zero => intro l wd h1 h2; omega
  | succ f ih =>
    intro l wd h1 h2 h3 h4
    obtain ⟨m, hm⟩ : ∃ m, lv - l = m + 1 := ⟨lv - l - 1, by omega⟩
    rw [hm]
    unfold upL
    by_cases hq : wd / ((k ^ l : Nat) : Int) = y / ((k ^ l : Nat) : Int)
    · rw [if_neg (by simp only [ne_eq, hq, not_true_eq_false, not_false_eq_true]), if_neg (by simp only [ne_eq, hq, not_true_eq_false, not_false_eq_true])]
    · rw [if_pos hq, if_pos hq]
      have hl : l < lv - 1 := by
        by_cases h : l = lv - 1
        · exact absurd (hT l wd h h3 h4) hq
        · omega
      obtain ⟨g1, g2⟩ := hW l wd hl h3 h4
      rw [ih (l + 1) _ (by omega) (by omega) g1 g2, show lv - (l + 1) = m by omega]
theorem treeIter (n0 o Bs Bx By : Nat) (k lv : Nat) (x y : Int) (hk : 1 ≤ k) (hk2 : k ≤ 16) (hlv : 1 ≤ lv) (hlv2 : lv ≤ 5) (hww2 : k ^ (lv - 1) ≤ 1000) (hx : 0 ≤ x) (hx2 : x < (lv : Int) * ((k ^ (lv - 1) : Nat) : Int)) (hy : 0 ≤ y) (hy2 : y < ((k ^ (lv - 1) : Nat) : Int)) {w : World}
    (q0 : w.heap[Bs]? = some (.cells #[.int .i64 (k : Int), .int .i64 (lv : Int), .int .i64 ((k ^ (lv - 1) : Nat) : Int)] 142 (0, 0))) (q1 : w.heap[Bx]? = some (.cells #[.int .i64 x] 3 (0, 0))) (q2 : w.heap[By]? = some (.cells #[.int .i64 y] 3 (0, 0))) (n : Nat) :
    SeqW n 189 #[.pointer (some ⟨Bx, 0, none⟩), .pointer (some ⟨Bs, 0, none⟩), .pointer (some ⟨By, 0, none⟩)] encP (Kq n0 o) (Fq n0 o) (fun b => b = Bs ∨ b = Bx ∨ b = By) (treeL k lv x y) w := by
  intro ll J W hW hnd hP hY h0
  have HC : Hid (Cap n0 o [(Bs, .cells #[.int .i64 (k : Int), .int .i64 (lv : Int), .int .i64 ((k ^ (lv - 1) : Nat) : Int)] 142 (0, 0)), (Bx, .cells #[.int .i64 x] 3 (0, 0)), (By, .cells #[.int .i64 y] 3 (0, 0))] W) := by
    intro p hp
    simp only [List.mem_cons, List.not_mem_nil, or_false] at hp
    rcases hp with rfl | rfl | rfl
    · exact ⟨hnd _ (.inl rfl), heapB hW q0⟩
    · exact ⟨hnd _ (.inr (.inl rfl)), heapB hW q1⟩
    · exact ⟨hnd _ (.inr (.inr rfl)), heapB hW q2⟩
  have HY := Lib.hid hY
  have HP := Lib.hid hP
  clear hY hnd hW q0 q1 q2 hP
  have HWI := Lib.hid (fun (i : Nat) (wd d : Int) (h1 : i < lv - 1) (h2 : 0 ≤ wd) (h3 : wd < ((k ^ (lv - 1) : Nat) : Int)) (h4 : 0 ≤ d) (h5 : d < k) => wth_in (k := k) (i := i) (m := lv - 1) (x := wd) (d := d) hk h1 h2 h3 h4 h5)
  have HTOP := Lib.hid (fun (wd : Int) (h1 : 0 ≤ wd) (h2 : wd < ((k ^ (lv - 1) : Nat) : Int)) => Int.ediv_eq_zero_of_lt h1 h2)
  have hDL : treeL k lv x y = upL k ((k ^ (lv - 1) : Nat) : Int) y lv (x / ((k ^ (lv - 1) : Nat) : Int)).toNat (x % ((k ^ (lv - 1) : Nat) : Int)) := rfl
  have hw1 : 1 ≤ k ^ (lv - 1) := pow_pos' hk
  obtain ⟨ww, hww⟩ : ∃ ww : Int, ww = ((k ^ (lv - 1) : Nat) : Int) := ⟨_, rfl⟩
  have hwa : 1 ≤ ww := by omega
  have hwb : ww ≤ 1000 := by omega
  have HWW := Lib.hid hww
  rw [← hww] at hx2 hy2 hDL HWI HTOP HC
  have HW3 := Lib.hid (fun (i : Nat) (hi : i ≤ 5) (v : Int) (h1 : 0 ≤ v) (h2 : v ≤ 1000) W => without_any k i hk hk2 hi (lv : Int) ww v h1 (by omega) W)
  have HDG := Lib.hid (fun (i : Nat) (hi : i ≤ 5) W => digit_any k i hk hk2 hi (lv : Int) ww y hy (by omega) W)
  have HWT := Lib.hid (fun (i : Nat) (hi : i ≤ 5) (v d : Int) (h1 : 0 ≤ v) (h2 : v ≤ 1000) (h3 : 0 ≤ d) (h4 : d ≤ 16) W => with_any k i hk hk2 hi (lv : Int) ww v d h1 h2 h3 h4 W)
  have HDB := Lib.hid (fun (i : Nat) => dig_bound (k := k) (i := i) (x := y) hk)
  have hlx2 : x / ww < lv := Int.ediv_lt_of_lt_mul (by omega) hx2
  have hlx0 := Int.ediv_nonneg hx (show 0 ≤ ww by omega)
  have hwx0 := Int.emod_nonneg x (show ww ≠ 0 by omega)
  have hwx1 := Int.emod_lt_of_pos x (show 0 < ww by omega)
  have hne : ww ≠ 0 := by omega
  have E1 : wrap64 (x.tdiv ww) = x / ww := by rw [Int.tdiv_eq_ediv_of_nonneg hx]; unfold wrap64; omega
  have E2 : x.tmod ww = x % ww := Int.tmod_eq_emod_of_nonneg hx
  have HKK := Lib.hid (And.intro hk (And.intro hk2 (And.intro hlv hlv2)))
  have HYY := Lib.hid (And.intro hy hy2)
  obtain ⟨lx, hlx⟩ := Int.eq_ofNat_of_zero_le hlx0
  rw [hlx] at hDL hlx2 E1
  have hlx3 : lx < lv := by omega
  rw [Int.toNat_natCast] at hDL
  have HDL := Lib.hid hDL
  generalize treeL k lv x y = DL at *
  generalize x % ww = wx at *
  have k0 := HC.out.m0
  have k1 := HC.out.m1
  have k2 := HC.out.m2
  have c0 := cellR 0 k0 rfl
  have c1 := cellR 1 k0 rfl
  have c2 := cellR 2 k0 rfl
  have d0 := cellR 0 k1 rfl
  have e0 := cellR 0 k2 rfl
  clear hDL hww hk hk2 hlv hlv2 hy hy2 hx hx2 hww2 hw1 hlx0 hlx2 hlx
  refine callsIn_of_wp Tryz.func189 rfl trivial ?_ rfl
  simp only [Tryz.ntmps189, List.size_toArray, List.length_cons, List.length_nil, Nat.reduceAdd, Nat.reduceSub, Array.replicate_succ, Array.replicate_zero, List.push_toArray, List.append_toArray, List.nil_append, List.cons_append]
  gi_wp2
  refine wpIn_wide.2 ?_
  go_quiet (fail)
  replace HC := Lib.hid (HC.out.drewN nq)
  replace h0 : J [] (W.drewN nq) := (HP.out []).jgrow _ _ h0 (below_drewN (Below.refl _ _) _)
  generalize W.drewN nq = W1 at *
  have HE1 := Lib.hid E1
  clear k0 k1 k2 c0 c1 c2 d0 e0 E1 E2
  gi_wp2
  gi_loopw [5, 6] (fun a b wr => ∃ (l : Nat) (wd : Int) (pre : List (Int × Int)), l < lv ∧ a = .int .i64 (l : Int) ∧ b = .int .i64 wd ∧ 0 ≤ wd ∧ wd < ww ∧ Hid (pre ++ upL k ww y (lv - l) l wd = DL) ∧ J pre wr ∧ Hid (Cap n0 o [(Bs, .cells #[.int .i64 (k : Int), .int .i64 (lv : Int), .int .i64 ww] 142 (0, 0)), (Bx, .cells #[.int .i64 x] 3 (0, 0)), (By, .cells #[.int .i64 y] 3 (0, 0))] wr)) (fun a _ _ => lv - (intOf a).toNat)
  case atStart =>
    have hup : Hid ([] ++ upL k ww y (lv - lx) lx wx = DL) := by
      show _ = _
      rw [HDL.out, List.nil_append]
      refine (upF (lv := lv) (fun l wd h h1 h2 => ?_) (fun l wd h h1 h2 => HWI.out l wd (digI k l y) h h1 h2 (HDB.out l).1 (HDB.out l).2) lv lx wx hlx3 (by omega) hwx0 hwx1).symm
      rw [h, ← HWW.out, HTOP.out wd h1 h2, HTOP.out y HYY.out.1 HYY.out.2]
    exact ⟨lx, wx, [], hlx3, by rw [HE1.out], rfl, hwx0, hwx1, hup, h0, HC⟩
  case round =>
    obtain ⟨l, wd, pre, hl, rfl, rfl, hwd0, hwd1, HU, hJ, HC1⟩ := hrel
    have hk4 := HKK.out
    have HQ1 := Lib.hid (fun W => HW3.out l (by omega) wd hwd0 (by omega) W)
    have HQ2 := Lib.hid (fun W => HW3.out l (by omega) y HYY.out.1 (by have := HYY.out.2; omega) W)
    have hdb := HDB.out l
    have HD1 := Lib.hid (fun W => HDG.out l (by omega) W)
    have HT1 := Lib.hid (fun W => HWT.out l (by omega) wd (digI k l y) hwd0 (by omega) hdb.1 (by omega) W)
    have HWB := Lib.hid (fun (h : l < lv - 1) => HWI.out l wd (digI k l y) h hwd0 hwd1 hdb.1 hdb.2)
    have HEQ := Lib.hid (fun (h : l = lv - 1) => show wd / ((k ^ l : Nat) : Int) = y / ((k ^ l : Nat) : Int) by
      rw [h, ← HWW.out, HTOP.out wd hwd0 hwd1, HTOP.out y HYY.out.1 HYY.out.2])
    have HUS : Hid (upL k ww y (lv - l) l wd = if wd / ((k ^ l : Nat) : Int) ≠ y / ((k ^ l : Nat) : Int) then (((l + 1 : Nat) : Int) * ww + wthI k l wd (digI k l y), 0) :: upL k ww y (lv - (l + 1)) (l + 1) (wthI k l wd (digI k l y)) else downL k ww y l wd) := by
      show _ = _
      rw [show lv - l = (lv - (l + 1)) + 1 by omega]; rfl
    generalize wd / ((k ^ l : Nat) : Int) = q1 at *
    generalize y / ((k ^ l : Nat) : Int) = q2 at *
    generalize wthI k l wd (digI k l y) = wd2 at *
    generalize digI k l y = dg at *
    clear hdb hk4
    gi_wp2
    refine region_det (by kernel_rfl) (I := fun listed a' w' => Hid (Below wr.heap.size wr w') ∧ a' = ⟨#[Value.func (Fn.yield ll) #[] #[], Value.pointer (some ⟨Bx, 0, none⟩), Value.pointer (some ⟨Bs, 0, none⟩), Value.pointer (some ⟨By, 0, none⟩), undef, Value.int IntKind.i64 ((l : Int)), Value.int IntKind.i64 (wd), Value.int IntKind.i64 (x), Value.pointer (some ⟨Bs, 2, none⟩), Value.int IntKind.i64 (ww), Value.int IntKind.i64 (wrap64 (x.tdiv ww)), Value.int IntKind.i64 (x), Value.pointer (some ⟨Bs, 2, none⟩), Value.int IntKind.i64 (ww), Value.int IntKind.i64 (wx), (if listed.getD 0 false = true then Value.agg #[.int .i64 (k : Int), .int .i64 (lv : Int), .int .i64 ww] else u15), (if listed.getD 1 false = true then Value.int IntKind.i64 (wd) else u16), (if listed.getD 2 false = true then Value.int IntKind.i64 ((l : Int)) else u17), (if listed.getD 3 false = true then Value.int IntKind.i64 (q1) else u18), (if listed.getD 4 false = true then Value.agg #[.int .i64 (k : Int), .int .i64 (lv : Int), .int .i64 ww] else u19), (if listed.getD 5 false = true then Value.int IntKind.i64 (y) else u20), (if listed.getD 6 false = true then Value.int IntKind.i64 ((l : Int)) else u21), (if listed.getD 7 false = true then Value.int IntKind.i64 (q2) else u22), (if listed.getD 8 false = true then Value.bool (q1 != q2) else u23), u24, u25, u26, u27, u28, u29, u30, u31, u32, u33, u34, u35, u36, u37, u38, u39, u40, u41, u42, undef, undef, undef, undef, undef, undef, undef, undef, undef, undef, undef, undef, undef, undef, undef, undef, undef, undef, undef, undef, undef], []⟩) (hup_check (by kernel_rfl)) ?h0 ?step ?fin
    case h0 => exact ⟨(Below.refl _ _).drew, rfl⟩
    case step => as_aux_lemma =>
      intro listed a' w' i hs hbi hdep hi ⟨IB, ha⟩
      obtain ⟨ls⟩ := listed
      match ls, hs with
      | [x0, x1, x2, x3, x4, x5, x6, x7, x8], _ =>
      subst ha
      have hi' : i = 0 ∨ i = 1 ∨ i = 2 ∨ i = 3 ∨ i = 4 ∨ i = 5 ∨ i = 6 ∨ i = 7 ∨ i = 8 := by simp at hi; omega
      rcases hi' with rfl | rfl | rfl | rfl | rfl | rfl | rfl | rfl | rfl
      · obtain rfl : x0 = false := by simpa using hbi
        refine wpOpIn_load_row rfl rfl 142 _ rfl Bs rfl 142 _ _ _ (heapB IB.out HC1.out.m0) Tryz.underlying142 rfl info109 ?_
        exact ⟨IB, rfl⟩
      · obtain rfl : x1 = false := by simpa using hbi
        refine wpOpIn_plain rfl rfl rfl ?_
        exact ⟨IB, rfl⟩
      · obtain rfl : x2 = false := by simpa using hbi
        refine wpOpIn_plain rfl rfl rfl ?_
        exact ⟨IB, rfl⟩
      · obtain rfl : x3 = false := by simpa using hbi
        obtain rfl : x0 = true := hdep _ rfl ⟨0, .data⟩ (by simp) rfl
        obtain rfl : x1 = true := hdep _ rfl ⟨1, .data⟩ (by simp) rfl
        obtain rfl : x2 = true := hdep _ rfl ⟨2, .data⟩ (by simp) rfl
        refine wpOpIn_call (args := #[Value.agg #[.int .i64 (k : Int), .int .i64 (lv : Int), .int .i64 ww], Value.int IntKind.i64 (wd), Value.int IntKind.i64 ((l : Int))]) rfl rfl (sem_call3 rfl rfl rfl rfl (enters_of Tryz.func190 (by kernel_rfl) rfl)) (HQ1.out w') ?_
        rintro e V ⟨rfl, hb⟩
        exact ⟨_, rfl, (IB.out.trans (hb.mono IB.out.size)), rfl⟩
      · obtain rfl : x4 = false := by simpa using hbi
        refine wpOpIn_load_row rfl rfl 142 _ rfl Bs rfl 142 _ _ _ (heapB IB.out HC1.out.m0) Tryz.underlying142 rfl info109 ?_
        exact ⟨IB, rfl⟩
      · obtain rfl : x5 = false := by simpa using hbi
        have c9 := kcell IB.out (cellR 0 HC1.out.m2 rfl)
        refine wpOpIn_plain (v := Value.int IntKind.i64 (y)) (w' := w') rfl rfl (by simp [Oper.semAt, execOp, go_sem, c9]) ?_
        exact ⟨IB, rfl⟩
      · obtain rfl : x6 = false := by simpa using hbi
        refine wpOpIn_plain rfl rfl rfl ?_
        exact ⟨IB, rfl⟩
      · obtain rfl : x7 = false := by simpa using hbi
        obtain rfl : x4 = true := hdep _ rfl ⟨4, .data⟩ (by simp) rfl
        obtain rfl : x5 = true := hdep _ rfl ⟨5, .data⟩ (by simp) rfl
        obtain rfl : x6 = true := hdep _ rfl ⟨6, .data⟩ (by simp) rfl
        refine wpOpIn_call (args := #[Value.agg #[.int .i64 (k : Int), .int .i64 (lv : Int), .int .i64 ww], Value.int IntKind.i64 (y), Value.int IntKind.i64 ((l : Int))]) rfl rfl (sem_call3 rfl rfl rfl rfl (enters_of Tryz.func190 (by kernel_rfl) rfl)) (HQ2.out w') ?_
        rintro e V ⟨rfl, hb⟩
        exact ⟨_, rfl, (IB.out.trans (hb.mono IB.out.size)), rfl⟩
      · obtain rfl : x8 = false := by simpa using hbi
        obtain rfl : x3 = true := hdep _ rfl ⟨3, .data⟩ (by simp) rfl
        obtain rfl : x7 = true := hdep _ rfl ⟨7, .data⟩ (by simp) rfl
        refine wpOpIn_plain (v := Value.bool (q1 != q2)) (w' := w') rfl rfl (by simp [Oper.semAt, execOp, go_sem]) ?_
        exact ⟨IB, rfl⟩
    case fin =>
    intro listed a' Z hs hall ⟨IB, ha⟩
    obtain ⟨ls⟩ := listed
    match ls, hs with
    | [x0, x1, x2, x3, x4, x5, x6, x7, x8], _ =>
    obtain rfl : x0 = true := hall 0 (by simp)
    obtain rfl : x1 = true := hall 1 (by simp)
    obtain rfl : x2 = true := hall 2 (by simp)
    obtain rfl : x3 = true := hall 3 (by simp)
    obtain rfl : x4 = true := hall 4 (by simp)
    obtain rfl : x5 = true := hall 5 (by simp)
    obtain rfl : x6 = true := hall 6 (by simp)
    obtain rfl : x7 = true := hall 7 (by simp)
    obtain rfl : x8 = true := hall 8 (by simp)
    subst ha
    have HZ : Hid (Below wr.heap.size wr Z) := IB
    replace HC1 := Lib.hid (HC1.out.below (HP.out pre) hJ HZ.out)
    replace hJ := (HP.out pre).jgrow _ _ hJ HZ.out
    clear IB hall hs HZ
    dsimp only [Exit.then, Exit.inBlock]
    by_cases hq : q1 = q2
    case neg =>
      have hqb : (q1 != q2) = true := bne_iff_ne.2 hq
      have hl1 : l < lv - 1 := by
        by_cases h : l = lv - 1
        · exact absurd (HEQ.out h) hq
        · omega
      obtain ⟨w0, w1⟩ := HWB.out hl1
      have HU2 : Hid (pre ++ ((((l + 1 : Nat) : Int) * ww + wd2, 0) :: upL k ww y (lv - (l + 1)) (l + 1) wd2) = DL) := by
        show _ = _; rw [← HU.out, HUS.out, if_pos hq]
      clear HU HUS HEQ HQ1 HQ2 hq HWB
      have hk4 := HKK.out
      have hmm := Int.mul_le_mul (show (((l + 1 : Nat) : Int)) ≤ 5 by omega) hwb (by omega) (by decide)
      have hmn := Int.mul_nonneg (show (0 : Int) ≤ ((l + 1 : Nat) : Int) by omega) (show 0 ≤ ww by omega)
      have hlc : ((l + 1 : Nat) : Int) = (l : Int) + 1 := by omega
      have hlo : l + 1 < lv := by omega
      have hms : lv - (intOf (.int .i64 ((l : Int) + 1))).toNat < lv - (intOf (.int .i64 (l : Int))).toNat := by simp [intOf]; omega
      have HCAST : Hid (Value.int .i64 ((l : Int) + 1) = .int .i64 ((l + 1 : Nat) : Int)) := by show _ = _; rw [hlc]
      rw [hlc] at HU2 hmm hmn
      have HW1 := Lib.hid (wrap_small ((l : Int) + 1) (by omega) (by omega))
      have HW2 := Lib.hid (wrap_small (((l : Int) + 1) * ww) (by omega) (by omega))
      have HW3' := Lib.hid (wrap_small (((l : Int) + 1) * ww + wd2) (by omega) (by omega))
      have HU3 : Hid ((pre ++ [(((l : Int) + 1) * ww + wd2, 0)]) ++ upL k ww y (lv - (l + 1)) (l + 1) wd2 = DL) := by show _ = _; rw [List.append_assoc]; exact HU2.out
      clear hmm hmn hlc hk4
      obtain ⟨wz, rfl⟩ : ∃ wz, wz = Z := ⟨_, rfl⟩
      gi_wp2
      refine region_det (by kernel_rfl) (I := fun listed a' w' => Hid (Below wz.heap.size wz w') ∧ Hid (listed.getD 8 false = true → listed.getD 1 false = true) ∧ a' = ⟨#[Value.func (Fn.yield ll) #[] #[], Value.pointer (some ⟨Bx, 0, none⟩), Value.pointer (some ⟨Bs, 0, none⟩), Value.pointer (some ⟨By, 0, none⟩), undef, Value.int IntKind.i64 ((l : Int)), (if listed.getD 8 false = true then Value.int IntKind.i64 (wd2) else Value.int IntKind.i64 (wd)), Value.int IntKind.i64 (x), Value.pointer (some ⟨Bs, 2, none⟩), Value.int IntKind.i64 (ww), Value.int IntKind.i64 (wrap64 (x.tdiv ww)), Value.int IntKind.i64 (x), Value.pointer (some ⟨Bs, 2, none⟩), Value.int IntKind.i64 (ww), Value.int IntKind.i64 (wx), Value.agg #[.int .i64 (k : Int), .int .i64 (lv : Int), .int .i64 ww], Value.int IntKind.i64 (wd), Value.int IntKind.i64 ((l : Int)), Value.int IntKind.i64 (q1), Value.agg #[.int .i64 (k : Int), .int .i64 (lv : Int), .int .i64 ww], Value.int IntKind.i64 (y), Value.int IntKind.i64 ((l : Int)), Value.int IntKind.i64 (q2), Value.bool true, (if listed.getD 0 false = true then Value.agg #[.int .i64 (k : Int), .int .i64 (lv : Int), .int .i64 ww] else u24), (if listed.getD 1 false = true then Value.int IntKind.i64 (wd) else u25), (if listed.getD 2 false = true then Value.int IntKind.i64 ((l : Int)) else u26), (if listed.getD 3 false = true then Value.agg #[.int .i64 (k : Int), .int .i64 (lv : Int), .int .i64 ww] else u27), (if listed.getD 4 false = true then Value.int IntKind.i64 (y) else u28), (if listed.getD 5 false = true then Value.int IntKind.i64 ((l : Int)) else u29), (if listed.getD 6 false = true then Value.int IntKind.i64 (dg) else u30), (if listed.getD 7 false = true then Value.int IntKind.i64 (wd2) else u31), u32, u33, u34, u35, u36, u37, u38, u39, u40, u41, u42, undef, undef, undef, undef, undef, undef, undef, undef, undef, undef, undef, undef, undef, undef, undef, undef, undef, undef, undef, undef, undef], []⟩) (hup_check (by kernel_rfl)) ?h0 ?step ?fin
      case h0 => exact ⟨(Below.refl _ _).drew, (fun h => by simp at h), rfl⟩
      case step => as_aux_lemma =>
        intro listed a' w' i hs hbi hdep hi ⟨IB, J8, ha⟩
        obtain ⟨ls⟩ := listed
        match ls, hs with
        | [x0, x1, x2, x3, x4, x5, x6, x7, x8], _ =>
        subst ha
        have hi' : i = 0 ∨ i = 1 ∨ i = 2 ∨ i = 3 ∨ i = 4 ∨ i = 5 ∨ i = 6 ∨ i = 7 ∨ i = 8 := by simp at hi; omega
        rcases hi' with rfl | rfl | rfl | rfl | rfl | rfl | rfl | rfl | rfl
        · obtain rfl : x0 = false := by simpa using hbi
          refine wpOpIn_load_row rfl rfl 142 _ rfl Bs rfl 142 _ _ _ (heapB IB.out HC1.out.m0) Tryz.underlying142 rfl info109 ?_
          exact ⟨IB, J8, rfl⟩
        · obtain rfl : x1 = false := by simpa using hbi
          obtain rfl : x8 = false := Bool.eq_false_iff.2 fun h => by have := J8.out h; cases this
          refine wpOpIn_plain rfl rfl rfl ?_
          exact ⟨IB, (fun _ => rfl), rfl⟩
        · obtain rfl : x2 = false := by simpa using hbi
          refine wpOpIn_plain rfl rfl rfl ?_
          exact ⟨IB, J8, rfl⟩
        · obtain rfl : x3 = false := by simpa using hbi
          refine wpOpIn_load_row rfl rfl 142 _ rfl Bs rfl 142 _ _ _ (heapB IB.out HC1.out.m0) Tryz.underlying142 rfl info109 ?_
          exact ⟨IB, J8, rfl⟩
        · obtain rfl : x4 = false := by simpa using hbi
          have c9 := kcell IB.out (cellR 0 HC1.out.m2 rfl)
          refine wpOpIn_plain (v := Value.int IntKind.i64 (y)) (w' := w') rfl rfl (by simp [Oper.semAt, execOp, go_sem, c9]) ?_
          exact ⟨IB, J8, rfl⟩
        · obtain rfl : x5 = false := by simpa using hbi
          refine wpOpIn_plain rfl rfl rfl ?_
          exact ⟨IB, J8, rfl⟩
        · obtain rfl : x6 = false := by simpa using hbi
          obtain rfl : x3 = true := hdep _ rfl ⟨3, .data⟩ (by simp) rfl
          obtain rfl : x4 = true := hdep _ rfl ⟨4, .data⟩ (by simp) rfl
          obtain rfl : x5 = true := hdep _ rfl ⟨5, .data⟩ (by simp) rfl
          refine wpOpIn_call (args := #[Value.agg #[.int .i64 (k : Int), .int .i64 (lv : Int), .int .i64 ww], Value.int IntKind.i64 (y), Value.int IntKind.i64 ((l : Int))]) rfl rfl (sem_call3 rfl rfl rfl rfl (enters_of Tryz.func191 (by kernel_rfl) rfl)) (HD1.out w') ?_
          rintro e V ⟨rfl, hb⟩
          exact ⟨_, rfl, (IB.out.trans (hb.mono IB.out.size)), J8, rfl⟩
        · obtain rfl : x7 = false := by simpa using hbi
          obtain rfl : x0 = true := hdep _ rfl ⟨0, .data⟩ (by simp) rfl
          obtain rfl : x1 = true := hdep _ rfl ⟨1, .data⟩ (by simp) rfl
          obtain rfl : x2 = true := hdep _ rfl ⟨2, .data⟩ (by simp) rfl
          obtain rfl : x6 = true := hdep _ rfl ⟨6, .data⟩ (by simp) rfl
          refine wpOpIn_call (args := #[Value.agg #[.int .i64 (k : Int), .int .i64 (lv : Int), .int .i64 ww], Value.int IntKind.i64 (wd), Value.int IntKind.i64 ((l : Int)), Value.int IntKind.i64 (dg)]) rfl rfl (sem_call4 rfl rfl rfl rfl rfl (enters_of Tryz.func188 (by kernel_rfl) rfl)) (HT1.out w') ?_
          rintro e V ⟨rfl, hb⟩
          exact ⟨_, rfl, (IB.out.trans (hb.mono IB.out.size)), J8, rfl⟩
        · obtain rfl : x8 = false := by simpa using hbi
          obtain rfl : x7 = true := hdep _ rfl ⟨7, .data⟩ (by simp) rfl
          obtain rfl : x1 = true := hdep _ rfl ⟨1, .phase⟩ (by simp) rfl
          refine wpOpIn_plain rfl rfl rfl ?_
          exact ⟨IB, (fun _ => rfl), rfl⟩
      case fin =>
      intro listed a' Z hs hall ⟨IB, J8, ha⟩
      obtain ⟨ls⟩ := listed
      match ls, hs with
      | [x0, x1, x2, x3, x4, x5, x6, x7, x8], _ =>
      obtain rfl : x0 = true := hall 0 (by simp)
      obtain rfl : x1 = true := hall 1 (by simp)
      obtain rfl : x2 = true := hall 2 (by simp)
      obtain rfl : x3 = true := hall 3 (by simp)
      obtain rfl : x4 = true := hall 4 (by simp)
      obtain rfl : x5 = true := hall 5 (by simp)
      obtain rfl : x6 = true := hall 6 (by simp)
      obtain rfl : x7 = true := hall 7 (by simp)
      obtain rfl : x8 = true := hall 8 (by simp)
      subst ha
      have HZ : Hid (Below wz.heap.size wz Z) := IB
      replace HC1 := Lib.hid (HC1.out.below (HP.out pre) hJ HZ.out)
      replace hJ := (HP.out pre).jgrow _ _ hJ HZ.out
      clear IB hall hs HZ J8
      dsimp only [Exit.then, Exit.inBlock]
      clear HD1 HT1
      have hlt := HU2.out
      clear hlt
      obtain ⟨fn, tm, as_, bd, hy, hR⟩ := HY.out pre (((l : Int) + 1) * ww + wd2, 0) _ hJ (by rw [← HU2.out]; simp)
      have c2 := cellR 2 HC1.out.m0 rfl
      have hw1 := HW1.out
      have hw2 := HW2.out
      have hw3 := HW3'.out
      gi_wp2
      clear hw1 hw2 hw3
      refine ⟨fun h => (by cases h), ?_⟩
      refine hR.mono ?_
      rintro e W2 ⟨rfl, h1, hkq⟩
      replace HC1 := Lib.hid (HC1.out.kq hkq)
      clear hy hR hkq hJ c2
      gi_wp2
      go_roundw
      case rel =>
        exact ⟨l + 1, wd2, _, hlo, HCAST.out, rfl, w0, w1, HU3, h1, HC1⟩
      case measure => exact hms
    case pos =>
      have hqb : (q1 != q2) = false := by simp [hq]
      have HU2 : Hid (pre ++ downL k ww y l wd = DL) := by
        show _ = _; rw [← HU.out, HUS.out, if_neg (by simp [hq])]
      clear HU HUS HEQ HQ1 HQ2 HWB HD1 HT1 hq
      obtain ⟨wz, rfl⟩ : ∃ wz, wz = Z := ⟨_, rfl⟩
      gi_wp2
      clear hqb
      have HL2 := Lib.hid hl
      clear hlx3
      gi_loopw [5, 6] (fun a b wr => ∃ (m : Nat) (wv : Int) (pre : List (Int × Int)), m < lv ∧ a = .int .i64 (m : Int) ∧ b = .int .i64 wv ∧ 0 ≤ wv ∧ wv < ww ∧ Hid (pre ++ downL k ww y m wv = DL) ∧ J pre wr ∧ Hid (Cap n0 o [(Bs, .cells #[.int .i64 (k : Int), .int .i64 (lv : Int), .int .i64 ww] 142 (0, 0)), (Bx, .cells #[.int .i64 x] 3 (0, 0)), (By, .cells #[.int .i64 y] 3 (0, 0))] wr)) (fun a _ _ => (intOf a).toNat)
      case atStart => exact ⟨l, wd, pre, hl, rfl, rfl, hwd0, hwd1, HU2, hJ, HC1⟩
      case round =>
        clear HU2 hJ HC1 pre
        obtain ⟨m1, wv, pre, hm, rfl, rfl, hwv0, hwv1, HU, hJ, HC1⟩ := hrel
        cases m1 with
        | zero =>
          have HU2 : Hid (pre = DL) := by show _ = _; rw [← HU.out]; simp [downL]
          clear HU
          gi_wp2
          go_end0
          exact ⟨⟨_, rfl⟩, by rw [← HU2.out]; exact hJ⟩
        | succ m =>
          have hk4 := HKK.out
          have hdb := HDB.out m
          have HD1 := Lib.hid (fun W => HDG.out m (by omega) W)
          have HT1 := Lib.hid (fun W => HWT.out m (by omega) wv (digI k m y) hwv0 (by omega) hdb.1 (by omega) W)
          obtain ⟨w0, w1⟩ := HWI.out m wv (digI k m y) (by omega) hwv0 hwv1 hdb.1 hdb.2
          have HU2 : Hid (pre ++ (((m : Int) * ww + wthI k m wv (digI k m y), 0) :: downL k ww y m (wthI k m wv (digI k m y))) = DL) := HU.out
          have HU3 : Hid ((pre ++ [((m : Int) * ww + wthI k m wv (digI k m y), 0)]) ++ downL k ww y m (wthI k m wv (digI k m y)) = DL) := by show _ = _; rw [List.append_assoc]; exact HU2.out
          generalize wthI k m wv (digI k m y) = wd2 at *
          generalize digI k m y = dg at *
          have hmm := Int.mul_le_mul (show (m : Int) ≤ 5 by omega) hwb (by omega) (by decide)
          have hmn := Int.mul_nonneg (show (0 : Int) ≤ (m : Int) by omega) (show 0 ≤ ww by omega)
          have hlo : m < lv := by omega
          have hms : (intOf (.int .i64 (m : Int))).toNat < (intOf (.int .i64 ((m + 1 : Nat) : Int))).toNat := by simp [intOf]
          have hpos : decide (0 < ((m + 1 : Nat) : Int)) = true := decide_eq_true (by omega)
          have hcm : ((m + 1 : Nat) : Int) - 1 = (m : Int) := by omega
          have HW0 := Lib.hid (wrap_small (m : Int) (by omega) (by omega))
          have HW2 := Lib.hid (wrap_small ((m : Int) * ww) (by omega) (by omega))
          have HW3' := Lib.hid (wrap_small ((m : Int) * ww + wd2) (by omega) (by omega))
          clear HU hmm hmn hk4 hdb
          gi_wp2
          rw [HW0.out]
          clear HW0 hcm hpos
          refine region_det (by kernel_rfl) (I := fun listed a' w' => Hid (Below wr.heap.size wr w') ∧ Hid (listed.getD 8 false = true → listed.getD 1 false = true) ∧ a' = ⟨#[Value.func (Fn.yield ll) #[] #[], Value.pointer (some ⟨Bx, 0, none⟩), Value.pointer (some ⟨Bs, 0, none⟩), Value.pointer (some ⟨By, 0, none⟩), undef, Value.int IntKind.i64 ((m : Int)), (if listed.getD 8 false = true then Value.int IntKind.i64 (wd2) else Value.int IntKind.i64 (wv)), Value.int IntKind.i64 (x), Value.pointer (some ⟨Bs, 2, none⟩), Value.int IntKind.i64 (ww), Value.int IntKind.i64 (wrap64 (x.tdiv ww)), Value.int IntKind.i64 (x), Value.pointer (some ⟨Bs, 2, none⟩), Value.int IntKind.i64 (ww), Value.int IntKind.i64 (wx), Value.agg #[.int .i64 (k : Int), .int .i64 (lv : Int), .int .i64 ww], Value.int IntKind.i64 (wd), Value.int IntKind.i64 ((l : Int)), Value.int IntKind.i64 (q1), Value.agg #[.int .i64 (k : Int), .int .i64 (lv : Int), .int .i64 ww], Value.int IntKind.i64 (y), Value.int IntKind.i64 ((l : Int)), Value.int IntKind.i64 (q2), Value.bool false, u24, u25, u26, u27, u28, u29, u30, u31, u32, u33, u34, u35, u36, u37, u38, u39, u40, u41, u42, Value.int IntKind.i64 (((m + 1 : Nat) : Int)), Value.bool true, Value.int IntKind.i64 (((m + 1 : Nat) : Int)), Value.int IntKind.i64 ((m : Int)), (if listed.getD 0 false = true then Value.agg #[.int .i64 (k : Int), .int .i64 (lv : Int), .int .i64 ww] else u47), (if listed.getD 1 false = true then Value.int IntKind.i64 (wv) else u48), (if listed.getD 2 false = true then Value.int IntKind.i64 ((m : Int)) else u49), (if listed.getD 3 false = true then Value.agg #[.int .i64 (k : Int), .int .i64 (lv : Int), .int .i64 ww] else u50), (if listed.getD 4 false = true then Value.int IntKind.i64 (y) else u51), (if listed.getD 5 false = true then Value.int IntKind.i64 ((m : Int)) else u52), (if listed.getD 6 false = true then Value.int IntKind.i64 (dg) else u53), (if listed.getD 7 false = true then Value.int IntKind.i64 (wd2) else u54), u55, u56, u57, u58, u59, u60, u61, u62, u63], []⟩) (hup_check (by kernel_rfl)) ?h0 ?step ?fin
          case h0 => exact ⟨(Below.refl _ _).drew, (fun h => by simp at h), rfl⟩
          case step => as_aux_lemma =>
            intro listed a' w' i hs hbi hdep hi ⟨IB, J8, ha⟩
            obtain ⟨ls⟩ := listed
            match ls, hs with
            | [x0, x1, x2, x3, x4, x5, x6, x7, x8], _ =>
            subst ha
            have hi' : i = 0 ∨ i = 1 ∨ i = 2 ∨ i = 3 ∨ i = 4 ∨ i = 5 ∨ i = 6 ∨ i = 7 ∨ i = 8 := by simp at hi; omega
            rcases hi' with rfl | rfl | rfl | rfl | rfl | rfl | rfl | rfl | rfl
            · obtain rfl : x0 = false := by simpa using hbi
              refine wpOpIn_load_row rfl rfl 142 _ rfl Bs rfl 142 _ _ _ (heapB IB.out HC1.out.m0) Tryz.underlying142 rfl info109 ?_
              exact ⟨IB, J8, rfl⟩
            · obtain rfl : x1 = false := by simpa using hbi
              obtain rfl : x8 = false := Bool.eq_false_iff.2 fun h => by have := J8.out h; cases this
              refine wpOpIn_plain rfl rfl rfl ?_
              exact ⟨IB, (fun _ => rfl), rfl⟩
            · obtain rfl : x2 = false := by simpa using hbi
              refine wpOpIn_plain rfl rfl rfl ?_
              exact ⟨IB, J8, rfl⟩
            · obtain rfl : x3 = false := by simpa using hbi
              refine wpOpIn_load_row rfl rfl 142 _ rfl Bs rfl 142 _ _ _ (heapB IB.out HC1.out.m0) Tryz.underlying142 rfl info109 ?_
              exact ⟨IB, J8, rfl⟩
            · obtain rfl : x4 = false := by simpa using hbi
              have c9 := kcell IB.out (cellR 0 HC1.out.m2 rfl)
              refine wpOpIn_plain (v := Value.int IntKind.i64 (y)) (w' := w') rfl rfl (by simp [Oper.semAt, execOp, go_sem, c9]) ?_
              exact ⟨IB, J8, rfl⟩
            · obtain rfl : x5 = false := by simpa using hbi
              refine wpOpIn_plain rfl rfl rfl ?_
              exact ⟨IB, J8, rfl⟩
            · obtain rfl : x6 = false := by simpa using hbi
              obtain rfl : x3 = true := hdep _ rfl ⟨3, .data⟩ (by simp) rfl
              obtain rfl : x4 = true := hdep _ rfl ⟨4, .data⟩ (by simp) rfl
              obtain rfl : x5 = true := hdep _ rfl ⟨5, .data⟩ (by simp) rfl
              refine wpOpIn_call (args := #[Value.agg #[.int .i64 (k : Int), .int .i64 (lv : Int), .int .i64 ww], Value.int IntKind.i64 (y), Value.int IntKind.i64 ((m : Int))]) rfl rfl (sem_call3 rfl rfl rfl rfl (enters_of Tryz.func191 (by kernel_rfl) rfl)) (HD1.out w') ?_
              rintro e V ⟨rfl, hb⟩
              exact ⟨_, rfl, (IB.out.trans (hb.mono IB.out.size)), J8, rfl⟩
            · obtain rfl : x7 = false := by simpa using hbi
              obtain rfl : x0 = true := hdep _ rfl ⟨0, .data⟩ (by simp) rfl
              obtain rfl : x1 = true := hdep _ rfl ⟨1, .data⟩ (by simp) rfl
              obtain rfl : x2 = true := hdep _ rfl ⟨2, .data⟩ (by simp) rfl
              obtain rfl : x6 = true := hdep _ rfl ⟨6, .data⟩ (by simp) rfl
              refine wpOpIn_call (args := #[Value.agg #[.int .i64 (k : Int), .int .i64 (lv : Int), .int .i64 ww], Value.int IntKind.i64 (wv), Value.int IntKind.i64 ((m : Int)), Value.int IntKind.i64 (dg)]) rfl rfl (sem_call4 rfl rfl rfl rfl rfl (enters_of Tryz.func188 (by kernel_rfl) rfl)) (HT1.out w') ?_
              rintro e V ⟨rfl, hb⟩
              exact ⟨_, rfl, (IB.out.trans (hb.mono IB.out.size)), J8, rfl⟩
            · obtain rfl : x8 = false := by simpa using hbi
              obtain rfl : x7 = true := hdep _ rfl ⟨7, .data⟩ (by simp) rfl
              obtain rfl : x1 = true := hdep _ rfl ⟨1, .phase⟩ (by simp) rfl
              refine wpOpIn_plain rfl rfl rfl ?_
              exact ⟨IB, (fun _ => rfl), rfl⟩
          case fin =>
          intro listed a' Z hs hall ⟨IB, J8, ha⟩
          obtain ⟨ls⟩ := listed
          match ls, hs with
          | [x0, x1, x2, x3, x4, x5, x6, x7, x8], _ =>
          obtain rfl : x0 = true := hall 0 (by simp)
          obtain rfl : x1 = true := hall 1 (by simp)
          obtain rfl : x2 = true := hall 2 (by simp)
          obtain rfl : x3 = true := hall 3 (by simp)
          obtain rfl : x4 = true := hall 4 (by simp)
          obtain rfl : x5 = true := hall 5 (by simp)
          obtain rfl : x6 = true := hall 6 (by simp)
          obtain rfl : x7 = true := hall 7 (by simp)
          obtain rfl : x8 = true := hall 8 (by simp)
          subst ha
          have HZ : Hid (Below wr.heap.size wr Z) := IB
          replace HC1 := Lib.hid (HC1.out.below (HP.out pre) hJ HZ.out)
          replace hJ := (HP.out pre).jgrow _ _ hJ HZ.out
          clear IB hall hs HZ J8
          dsimp only [Exit.then, Exit.inBlock]
          clear HD1 HT1
          obtain ⟨fn, tm, as_, bd, hy, hR⟩ := HY.out pre ((m : Int) * ww + wd2, 0) _ hJ (by rw [← HU2.out]; simp)
          have c2 := cellR 2 HC1.out.m0 rfl
          have hw2 := HW2.out
          have hw3 := HW3'.out
          gi_wp2
          clear hw2 hw3
          refine ⟨fun h => (by cases h), ?_⟩
          refine hR.mono ?_
          rintro e W2 ⟨rfl, h1, hkq⟩
          replace HC1 := Lib.hid (HC1.out.kq hkq)
          clear hy hR hkq hJ c2
          gi_wp2
          go_roundw
          case rel =>
            exact ⟨m, wd2, _, hlo, rfl, rfl, w0, w1, HU3, h1, HC1⟩
          case measure => exact hms
end Go.Proofs.YtbhkenphcahifaaGreat
namespace Go.Proofs.YtbhkenphcahifaaGreat
open Go.RowKit Go.Shelf
attribute [local go_sem] Oper.semAt_some
set_option maxRecDepth 100000
set_option maxHeartbeats 4000000
theorem downL_len (k : Nat) (ww y : Int) : ∀ (l : Nat) (wd : Int), (downL k ww y l wd).length = l
  | 0, _ => rfl
  | l + 1, wd => by rw [downL, List.length_cons, downL_len k ww y l]
theorem upL_len (k : Nat) (ww y : Int) : ∀ (f l : Nat) (wd : Int), (upL k ww y f l wd).length ≤ 2 * f + l
  | 0, l, wd => by rw [upL, downL_len]; omega
  | f + 1, l, wd => by
    rw [upL]
    split
    · rw [List.length_cons]; have := upL_len k ww y f (l + 1) (wthI k l wd (digI k l y)); omega
    · rw [downL_len]; omega
theorem treeMake (lo : Nat) (k lv : Nat) (x y : Int) (hk : 1 ≤ k) (hk2 : k ≤ 16) (hlv : 1 ≤ lv) (hlv2 : lv ≤ 5) (hww2 : k ^ (lv - 1) ≤ 1000) (hx : 0 ≤ x) (hx2 : x < (lv : Int) * ((k ^ (lv - 1) : Nat) : Int)) (hy : 0 ≤ y) (hy2 : y < ((k ^ (lv - 1) : Nat) : Int)) (w : World) :
    RMake lo 183 (.agg #[.int .i64 (k : Int), .int .i64 (lv : Int), .int .i64 ((k ^ (lv - 1) : Nat) : Int)]) x y (treeL k lv x y) w := by
  obtain ⟨hb, q0, q1, q2⟩ := three_new w (.cells #[.int .i64 (k : Int), .int .i64 (lv : Int), .int .i64 ((k ^ (lv - 1) : Nat) : Int)] 142) (.cells #[.int .i64 x] 3) (.cells #[.int .i64 y] 3)
  have HB := Lib.hid hb
  have HI : Hid (RIter lo 189 #[.pointer (some ⟨w.heap.size + 1, 0, none⟩), .pointer (some ⟨w.heap.size, 0, none⟩), .pointer (some ⟨w.heap.size + 2, 0, none⟩)] (treeL k lv x y) w.heap.size (((w.alloc (.cells #[.int .i64 (k : Int), .int .i64 (lv : Int), .int .i64 ((k ^ (lv - 1) : Nat) : Int)] 142)).alloc (.cells #[.int .i64 x] 3)).alloc (.cells #[.int .i64 y] 3))) := by
    refine ⟨enters_of Tryz.func189 (by kernel_rfl) rfl, _, ?_, fun n n0 o _ => treeIter n0 o w.heap.size (w.heap.size + 1) (w.heap.size + 2) k lv x y hk hk2 hlv hlv2 hww2 hx hx2 hy hy2 q0 q1 q2 n⟩
    rintro b (rfl | rfl | rfl)
    · exact ⟨Nat.le_refl _, _, q0, rfl⟩
    · exact ⟨by omega, _, q1, rfl⟩
    · exact ⟨by omega, _, q2, rfl⟩
  clear hb q0 q1 q2 hww2 hx2 hy2
  generalize ((k ^ (lv - 1) : Nat) : Int) = ww at *
  unfold RMake
  go_enter Tryz.func183, Tryz.ntmps183
  go_wp2_with fail
  go_ret
  exact ⟨189, _, rfl, HI.out, HB.out⟩
/-- the steps of a route in a tree -/
def treeSteps (l : List Int) (x y : Int) : List (Int × Int) := treeL (l.getD 0 0).toNat (l.getD 1 0).toNat x y
theorem treeSteps_len {l : List Int} {hosts x y : Int} (hv : vOk 2 l hosts) (hin : inB (swI 2 l) [x, y] = true) : (treeSteps l x y).length ≤ 100000 := by
  obtain ⟨⟨hx0, hx1⟩, _⟩ := inB_two hin
  have hb := v_bound hv
  have hr : rOk l hosts := by
    rcases hv with ⟨h0, h1⟩ | ⟨h0, h1⟩ | ⟨h0, h1⟩
    · cases h0
    · exact h1
    · cases h0
  obtain ⟨_, h1, h2, _⟩ := hr
  refine Nat.le_trans (upL_len _ _ _ _ _ _) ?_
  have hd := Int.ediv_le_self (((l.getD 0 0).toNat ^ ((l.getD 1 0).toNat - 1) : Nat) : Int) hx0
  omega
theorem treeSteps_make {l : List Int} {hosts x y : Int} (hv : vOk 2 l hosts) (hin : inB (swI 2 l) [x, y] = true) (hy : y < hoI 2 l) (lo : Nat) (W : World) :
    RMake lo 183 (.agg #[.int .i64 (l.getD 0 0), .int .i64 (l.getD 1 0), .int .i64 (wordsI l)]) x y (treeSteps l x y) W := by
  obtain ⟨⟨hx0, hx1⟩, hy0, _⟩ := inB_two hin
  have hr : rOk l hosts := by
    rcases hv with ⟨h0, h1⟩ | ⟨h0, h1⟩ | ⟨h0, h1⟩
    · cases h0
    · exact h1
    · cases h0
  have hwb := words_bound hr
  obtain ⟨_, h1, h2, _⟩ := hr
  have hs : swI 2 l = l.getD 1 0 * wordsI l := rfl
  have ho : hoI 2 l = wordsI l := rfl
  rw [hs] at hx1
  rw [ho] at hy
  have hw : wordsI l = (((l.getD 0 0).toNat ^ ((l.getD 1 0).toNat - 1) : Nat) : Int) := rfl
  unfold treeSteps
  rw [hw] at hx1 hy hwb ⊢
  clear hv hin hs ho hw
  generalize l.getD 0 0 = A at *
  generalize l.getD 1 0 = C at *
  obtain ⟨k, rfl⟩ := Int.eq_ofNat_of_zero_le (show 0 ≤ A by omega)
  obtain ⟨lv, rfl⟩ := Int.eq_ofNat_of_zero_le (show 0 ≤ C by omega)
  simp only [Int.toNat_natCast] at hx1 hy hwb ⊢
  exact treeMake lo k lv x y (by omega) (by omega) (by omega) (by omega) (by omega) hx0 (by omega) hy0 hy W
theorem Route_tree {w : World} {sa : Option Addr} {l : List Int} (h : Ints w sa l) (sc : Nat) (hosts x y : Int) (hv : vOk 2 l hosts) (hin : inB (swI 2 l) [x, y] = true) (hy : y < hoI 2 l) :
    Calls Tryz.prog 87 #[.agg #[.int .i64 2, .slice sa l.length sc, .int .i64 hosts], .int .i64 x, .int .i64 y] w fun e w' => ∃ v, e = .returned (.tuple #[v, .int .i64 0]) ∧ NewInts w.heap.size w' v (x :: (treeSteps l x y).map (·.1)) ∧ Below w.heap.size w w' :=
  Route2_any h sc hosts x y hv hin hy _ (treeSteps_len hv hin) (fun W _ => treeSteps_make hv hin hy _ W)
theorem Classes_tree {w : World} {sa : Option Addr} {l : List Int} (h : Ints w sa l) (sc : Nat) (hosts x y : Int) (hv : vOk 2 l hosts) (hin : inB (swI 2 l) [x, y] = true) (hy : y < hoI 2 l) :
    Calls Tryz.prog 88 #[.agg #[.int .i64 2, .slice sa l.length sc, .int .i64 hosts], .int .i64 x, .int .i64 y] w fun e w' => ∃ v, e = .returned (.tuple #[v, .int .i64 0]) ∧ NewInts w.heap.size w' v ((treeSteps l x y).map (·.2)) ∧ Below w.heap.size w w' :=
  Classes2_any h sc hosts x y hv hin hy _ (treeSteps_len hv hin) (fun W _ => treeSteps_make hv hin hy _ W)
end Go.Proofs.YtbhkenphcahifaaGreat
namespace Go.Proofs.YtbhkenphcahifaaGreat
open Go.RowKit Go.Shelf
set_option maxRecDepth 100000
set_option maxHeartbeats 4000000
/-- a step in a ring, its class -/
def nxI (s v : Int) : Int := if 0 ≤ v ∧ v ≤ s - 1 then v else v % s
def clI (s v cl : Int) : Int := if 0 ≤ v ∧ v ≤ s - 1 then cl else 1
/-- around a ring, then on -/
def mvK (l : List Int) (i : Nat) (s b t : Int) (K : List Int → List (Int × Int)) : Nat → List Int → Int → List (Int × Int)
  | 0, c, _ => K c
  | f + 1, c, cl => if c.getD i 0 ≠ t then (numI l (c.set i (nxI s (c.getD i 0 + b))), clI s (c.getD i 0 + b) cl) :: mvK l i s b t K f (c.set i (nxI s (c.getD i 0 + b))) (clI s (c.getD i 0 + b) cl) else K c
def byI (s c t : Int) : Int := if s / 2 < (t - c) % s then -1 else 1
/-- through the dimensions that remain -/
def dimK (l e : List Int) : Nat → List Int → List (Int × Int)
  | 0, _ => []
  | r + 1, c => mvK l (l.length - (r + 1)) (l.getD (l.length - (r + 1)) 0) (byI (l.getD (l.length - (r + 1)) 0) (c.getD (l.length - (r + 1)) 0) (e.getD (l.length - (r + 1)) 0)) (e.getD (l.length - (r + 1)) 0) (dimK l e r) (l.getD (l.length - (r + 1)) 0).toNat c 0
/-- a route in a torus -/
def torusL (l : List Int) (x y : Int) : List (Int × Int) := dimK l (coordsL l y) l.length (coordsL l x)
def dstI (s b c t : Int) : Int := if b = 1 then (if c ≤ t then t - c else t - c + s) else (if t ≤ c then c - t else c - t + s)
theorem by_or (s c t : Int) : byI s c t = 1 ∨ byI s c t = -1 := by unfold byI; split <;> simp
theorem nx_cases {s c b : Int} (hb : b = 1 ∨ b = -1) (h0 : 0 ≤ c) (h1 : c < s) : nxI s (c + b) = if b = 1 then (if c + 1 = s then 0 else c + 1) else (if c = 0 then s - 1 else c - 1) := by
  unfold nxI
  rcases hb with rfl | rfl
  · rw [if_pos rfl]
    by_cases h : c + 1 = s
    · rw [if_neg (by omega), if_pos h, h, Int.emod_self]
    · rw [if_pos (by omega), if_neg h]
  · simp only [show ((-1 : Int) = 1) = False by decide, if_false]
    by_cases h : c = 0
    · subst h
      rw [if_neg (by omega), if_pos rfl]
      rw [show (0 : Int) + -1 = -1 by decide, ← Int.add_emod_right, Int.emod_eq_of_lt (by omega) (by omega)]; omega
    · rw [if_pos (by omega), if_neg h]; omega
theorem nx_in {s c b : Int} (hb : b = 1 ∨ b = -1) (h0 : 0 ≤ c) (h1 : c < s) : 0 ≤ nxI s (c + b) ∧ nxI s (c + b) < s := by
  rw [nx_cases hb h0 h1]
  split <;> split <;> omega
theorem dst_in {s b c t : Int} (h0 : 0 ≤ c) (h1 : c < s) (t0 : 0 ≤ t) (t1 : t < s) : 0 ≤ dstI s b c t ∧ dstI s b c t < s ∧ (c ≠ t → 1 ≤ dstI s b c t) := by
  unfold dstI
  split <;> split <;> omega
theorem dst_step {s b c t : Int} (hb : b = 1 ∨ b = -1) (h0 : 0 ≤ c) (h1 : c < s) (t0 : 0 ≤ t) (t1 : t < s) (hne : c ≠ t) : dstI s b (nxI s (c + b)) t = dstI s b c t - 1 := by
  rw [nx_cases hb h0 h1]
  unfold dstI
  rcases hb with rfl | rfl
  · simp only [if_pos rfl]
    repeat' split
    all_goals omega
  · simp only [show ((-1 : Int) = 1) = False by decide, if_false]
    repeat' split
    all_goals omega
/-- coordinates that lie in a torus -/
def InT (l c : List Int) : Prop := c.length = l.length ∧ ∀ i, i < l.length → 0 ≤ c.getD i 0 ∧ c.getD i 0 < l.getD i 0
theorem InT.set {l c : List Int} (h : InT l c) {i : Nat} {v : Int} (hi : i < l.length) (h0 : 0 ≤ v) (h1 : v < l.getD i 0) : InT l (c.set i v) := by
  refine ⟨by rw [List.length_set]; exact h.1, fun j hj => ?_⟩
  by_cases hij : i = j
  · subst hij
    have : (c.set i v).getD i 0 = v := by simp [List.getD, h.1, hi]
    rw [this]; exact ⟨h0, h1⟩
  · have : (c.set i v).getD j 0 = c.getD j 0 := by simp [List.getD, List.getElem?_set, hij]
    rw [this]; exact h.2 j hj
theorem cfold_in {l : List Int} (hb : ∀ i, i < l.length → 2 ≤ l.getD i 0 ∧ l.getD i 0 ≤ 16) : ∀ (L : List Nat) (r : Int) (c : List Int), (∀ i ∈ L, i < l.length) → InT l c → InT l (L.foldl (cstep l) (r, c)).2
  | [], _, _, _, h => h
  | i :: L, r, c, hL, h => by
    rw [List.foldl_cons]
    have hi := hL i (by simp)
    obtain ⟨b1, b2⟩ := hb i hi
    exact cfold_in hb L _ _ (fun j hj => hL j (by simp [hj])) (h.set hi (Int.emod_nonneg _ (by omega)) (Int.emod_lt_of_pos _ (by omega)))
theorem coords_in {l : List Int} (hb : ∀ i, i < l.length → 2 ≤ l.getD i 0 ∧ l.getD i 0 ≤ 16) (x : Int) : InT l (coordsL l x) := by
  unfold coordsL cfold
  refine cfold_in hb _ _ _ (fun i hi => by simpa using hi) ⟨by simp, fun i hi => ?_⟩
  obtain ⟨b1, b2⟩ := hb i hi
  have : (List.replicate l.length (0 : Int)).getD i 0 = 0 := by simp [List.getD, hi]
  rw [this]; omega
theorem mvK_len (l : List Int) (i : Nat) (s b t : Int) (K : List Int → List (Int × Int)) (n : Nat) (hK : ∀ c, (K c).length ≤ n) : ∀ (f : Nat) (c : List Int) (cl : Int), (mvK l i s b t K f c cl).length ≤ f + n
  | 0, c, _ => by rw [mvK]; have := hK c; omega
  | f + 1, c, cl => by
    rw [mvK]
    split
    · rw [List.length_cons]; have := mvK_len l i s b t K n hK f (c.set i (nxI s (c.getD i 0 + b))) (clI s (c.getD i 0 + b) cl); omega
    · have := hK c; omega
theorem dimK_len {l : List Int} (e : List Int) (hb : ∀ i, i < l.length → 2 ≤ l.getD i 0 ∧ l.getD i 0 ≤ 16) : ∀ (r : Nat), r ≤ l.length → ∀ c, (dimK l e r c).length ≤ 16 * r
  | 0, _, _ => by rw [dimK]; simp
  | r + 1, hr, c => by
    rw [dimK]
    obtain ⟨b1, b2⟩ := hb (l.length - (r + 1)) (by omega)
    have := mvK_len l (l.length - (r + 1)) (l.getD (l.length - (r + 1)) 0) (byI (l.getD (l.length - (r + 1)) 0) (c.getD (l.length - (r + 1)) 0) (e.getD (l.length - (r + 1)) 0)) (e.getD (l.length - (r + 1)) 0) (dimK l e r) (16 * r) (dimK_len e hb r (by omega)) (l.getD (l.length - (r + 1)) 0).toNat c 0
    omega
/-- a store into a block of the iterator's own -/
theorem Cap.store {J : World → Prop} {n0 o : Nat} {cs : List (Nat × Obj)} {W : World} (h : Cap n0 o cs W) (P : Priv J (Fq n0 o)) (hJ : J W) {c i : Nat} {v : Value} (hc : Fq n0 o c W) (hne : ∀ p ∈ cs, p.1 ≠ c) : Cap n0 o cs (W.setCell ⟨c, i, none⟩ v) :=
  fun p hp => ⟨P.store _ _ _ _ _ hJ (h p hp).1 hc, (heap_setCell_other _ _ _ _ (hne p hp)).trans (h p hp).2⟩
end Go.Proofs.YtbhkenphcahifaaGreat
