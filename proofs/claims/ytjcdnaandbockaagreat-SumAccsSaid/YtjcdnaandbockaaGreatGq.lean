import Derived.Test.YtjcdnaandbockaaGreatGp
import Derived.Test.YtjcdnaandbockaaGreatGm
namespace Go.Proofs.YtjcdnaandbockaaGreat
open Go.RowKit Go.Shelf
attribute [local go_sem] Oper.semAt_some
set_option maxRecDepth 100000
set_option maxHeartbeats 2000000

/-- what a sum of the reference knows -/
structure RepF (f : Facts) (m : Bool) (X : Nat) (nan plus below : Bool) (z : Nat) : Prop where
  val : iv f.V = if m = true then -(X : Int) else (X : Int)
  neg : m = true → X ≠ 0
  saw : f.saw = (if nan = true then 1 else 0) + (if plus = true then 2 else 0) + (if below = true then 4 else 0)
  zero : f.zero = z
def qA (m : Bool) (a : Option Addr) (n cap : Nat) (nan plus below : Bool) (z : Nat) : Array Value := #[.bool m, .slice a n cap, .bool nan, .bool plus, .bool below, .int .i64 (z : Int)]
theorem info48 (m : Bool) (a : Option Addr) (n cap : Nat) (nan plus below : Bool) (z : Nat) : (Tryz.prog.info? 48).map (·.size) = some (qA m a n cap nan plus below z).size := by
  show _ = some 6
  kernel_rfl
theorem qA_one (m : Bool) (a : Option Addr) (n cap : Nat) (nan plus below : Bool) (z : Nat) : (qA m a n cap nan plus below z).all (·.oneCell') = true := by
  unfold qA
  simp [Value.oneCell']
theorem qA_size (m : Bool) (a : Option Addr) (n cap : Nat) (nan plus below : Bool) (z : Nat) : (qA m a n cap nan plus below z).size = 6 := rfl
def QAt (w : World) (b : Nat) (m : Bool) (a : Option Addr) (n cap : Nat) (nan plus below : Bool) (z : Nat) : Prop := w.heap[b]? = some (.cells (qA m a n cap nan plus below z) 48 (0, 0))
theorem risNaN_any (x : Nat) (hx : x < 18446744073709551616) (w : World) : Calls Tryz.prog 40 #[.int .u64 x] w fun e w' => e = .returned (.bool (nanB x)) ∧ w = w' := by
  have hb := b_andNot x hx
  have HN : Hid (decide ((9218868437227405312 : Int) < (x % 9223372036854775808 : Nat)) = nanB x) := by
    show _ = _; unfold nanB; rw [decide_eq_decide]; omega
  go_enter Tryz.func40, Tryz.ntmps40
  go_wp2_with fail
  go_ret
  exact ⟨by rw [← HN.out]; simp, rfl⟩
theorem b_exp (x : Nat) (hx : x < 18446744073709551616) : bits .and .u64 ((x : Int) / 4503599627370496) 2047 = ((expN x : Nat) : Int) := by
  have h := (bits_nat .u64 64 (by decide) (fun n h0 h1 => by rw [IntKind.wrap_u64]; omega) (x / 4503599627370496) 2047 (by omega) (by decide)).1
  have e : x / 4503599627370496 &&& 2047 = x / 4503599627370496 % 2048 := Nat.and_two_pow_sub_one_eq_mod _ 11
  rw [e] at h
  have e2 : x / 4503599627370496 % 2048 = expN x := by unfold expN; omega
  rw [e2] at h
  exact h
theorem facts_nan' {x : Nat} (h : nanB x = true) : factsN x = ⟨0, 1, 2⟩ := by
  unfold factsN
  rw [if_pos h]
theorem len_zero (X : Nat) : (bytesN X).length = 0 ↔ X = 0 := by
  rw [bytesN_len]
  constructor
  · intro h
    have : blen X ≤ 0 := by omega
    have := blen_le.1 this
    simpa using this
  · intro h; subst h; rfl
def magN' (x : Nat) : Nat := digN x * 2 ^ shN x
theorem mag_parts (x : Nat) : magN' x = if expN x = 0 then x % 4503599627370496 else (x % 4503599627370496 + 4503599627370496) * 2 ^ (expN x - 1) := by
  unfold magN' digN shN
  by_cases h : expN x = 0
  · rw [if_pos h, if_neg (by omega), if_neg (by omega)]; simp
  · rw [if_neg h, if_pos (by omega), if_pos (by omega)]
theorem rep_num {x : Nat} (hx : x < 18446744073709551616) (hn : nanB x = false) (h1 : ¬ x = 9218868437227405312) (h2 : ¬ x = 18442240474082181120) (h3 : ¬ x = 9223372036854775808) (hf : expN x < 2047)
    (mm : Bool) (hmm : mm = true ↔ (9223372036854775808 ≤ x ∧ magN' x ≠ 0)) : RepF (factsN x) mm (magN' x) false false false 2 := by
  have e : factsN x = ⟨exactN x, 0, 2⟩ := by
    unfold factsN
    rw [hn, if_neg (by decide), if_neg h1, if_neg h2, if_neg h3]
  rw [e]
  refine ⟨?_, fun h => (hmm.1 h).2, rfl, rfl⟩
  show iv (exactN x) = _
  rw [exact_iv x hf]
  unfold exI
  show (if 9223372036854775808 ≤ x then -((magN' x : Nat) : Int) else ((magN' x : Nat) : Int)) = _
  cases mm with
  | true => rw [if_pos (hmm.1 rfl).1, if_pos rfl]
  | false =>
    have : ¬ (9223372036854775808 ≤ x ∧ magN' x ≠ 0) := fun h => by have := hmm.2 h; cases this
    rw [if_neg Bool.false_ne_true]
    split <;> omega
theorem num_other2 {w w' : World} {a : Option Addr} {n cap X b b0 : Nat} {m m' : Bool} {a1 a1' : Option Addr} {n1 n1' c1 c1' : Nat} {p1 p2 p3 q1 q2 q3 : Bool} {z z' : Nat} (h : NumAt w a n cap X) (hq : QAt w b m a1 n1 c1 p1 p2 p3 z) (hq0 : QAt w b0 m' a1' n1' c1' q1 q2 q3 z')
    (hw : ∀ k, k ≠ b0 → k ≠ b → w'.heap[k]? = w.heap[k]?) : NumAt w' a n cap X := by
  refine ⟨h.len, h.cap, ⟨h.bs.len, h.bs.small, fun hl => ?_⟩, fun h0 => ?_⟩
  case refine_2 =>
    obtain ⟨g, o, e, cs, fr, ht⟩ := h.ty h0
    have n1 : g ≠ b := by intro e9; subst e9; rw [show w.heap[g]? = _ from hq] at ht; simp at ht
    have n2 : g ≠ b0 := by intro e9; subst e9; rw [show w.heap[g]? = _ from hq0] at ht; simp at ht
    exact ⟨g, o, e, cs, fr, (hw g n2 n1).trans ht⟩
  obtain ⟨g, o, e, hc⟩ := h.bs.at_ hl
  refine ⟨g, o, e, fun j hj => ?_⟩
  have h1 := hc j hj
  have hne : ∀ {d : Nat} {m : Bool} {a1 : Option Addr} {n1 c1 : Nat} {p1 p2 p3 : Bool} {z : Nat}, QAt w d m a1 n1 c1 p1 p2 p3 z → g ≠ d := by
    intro d m a1 n1 c1 p1 p2 p3 z hqd e9
    subst e9
    rw [cell_of_row w g (o + j) _ _ _ hqd] at h1
    have hlt : o + j < 6 := by
      have := (Array.getElem?_eq_some_iff.1 h1).1
      simpa [qA_size] using this
    have h6 : o + j = 0 ∨ o + j = 1 ∨ o + j = 2 ∨ o + j = 3 ∨ o + j = 4 ∨ o + j = 5 := by omega
    unfold qA at h1
    rcases h6 with h6 | h6 | h6 | h6 | h6 | h6 <;> rw [h6] at h1 <;> simp at h1
  have h2 := hw g (hne hq0) (hne hq)
  rw [← h1]
  unfold World.cell?
  rw [h2]
theorem one_any (x : Nat) (hx : x < 18446744073709551616) (w : World) :
    Calls Tryz.prog 50 #[.int .u64 x] w fun e w' => Below w.heap.size w w' ∧ ∃ m a n cap X nan plus below z, e = .returned (.agg (qA m a n cap nan plus below z)) ∧ NumAt w' a n cap X ∧ RepF (factsN x) m X nan plus below z := by
  have HNN := Lib.hid (risNaN_any x hx)
  have hexp := b_exp x hx
  have hfr := b_frac x hx
  have hsg := b_sign x hx
  have HB0 : Hid (Below w.heap.size w ((w.alloc (.cells (qA false none 0 0 false false false 0) 48)).alloc (.cells (qA false none 0 0 false false false 2) 48))) := ((Below.refl _ _).alloc (Nat.le_refl _) _).alloc (by simp) _
  have HQ0 : Hid (QAt ((w.alloc (.cells (qA false none 0 0 false false false 0) 48)).alloc (.cells (qA false none 0 0 false false false 2) 48)) w.heap.size false none 0 0 false false false 0) := (Below.heap_alloc _ _ _ (by simp)).trans (heap_alloc_new w _)
  have HQ1 : Hid (QAt ((w.alloc (.cells (qA false none 0 0 false false false 0) 48)).alloc (.cells (qA false none 0 0 false false false 2) 48)) (w.heap.size + 1) false none 0 0 false false false 2) := by
    have := heap_alloc_new (w.alloc (.cells (qA false none 0 0 false false false 0) 48)) (.cells (qA false none 0 0 false false false 2) 48)
    rwa [show (w.alloc (.cells (qA false none 0 0 false false false 0) 48)).heap.size = w.heap.size + 1 by simp] at this
  have hE : expN x < 2048 := by unfold expN; omega
  obtain ⟨E, hEd⟩ : ∃ E, E = expN x := ⟨_, rfl⟩
  rw [← hEd] at hexp hE
  obtain ⟨Fr, hFd⟩ : ∃ Fr, Fr = x % 4503599627370496 := ⟨_, rfl⟩
  rw [← hFd] at hfr
  have hFr : Fr < 4503599627370496 := by omega
  have HED := Lib.hid hEd
  have HFD := Lib.hid hFd
  clear hEd hFd
  go_enter Tryz.func50, Tryz.ntmps50
  go_wp2_with fail
  change Calls Tryz.prog 40 _ ((w.alloc (.cells (qA false none 0 0 false false false 0) 48)).alloc (.cells (qA false none 0 0 false false false 2) 48)) _
  generalize (w.alloc (.cells (qA false none 0 0 false false false 0) 48)).alloc (.cells (qA false none 0 0 false false false 2) 48) = W at *
  refine (HNN.out W).mono ?_
  rintro e w' ⟨rfl, rfl⟩
  cases hn : nanB x with
  | true =>
    have c0 : W.cell? ⟨w.heap.size + 1, 0, none⟩ = some (.bool false) := (cell_of_row W (w.heap.size + 1) 0 _ _ _ HQ1.out).trans rfl
    have f0 := frozen_of_row W (w.heap.size + 1) 0 _ _ HQ1.out
    have c1 : W.cell? ⟨w.heap.size + 1, 1, none⟩ = some (.slice none 0 0) := (cell_of_row W (w.heap.size + 1) 1 _ _ _ HQ1.out).trans rfl
    have f1 := frozen_of_row W (w.heap.size + 1) 1 _ _ HQ1.out
    have c2 : W.cell? ⟨w.heap.size + 1, 2, none⟩ = some (.bool false) := (cell_of_row W (w.heap.size + 1) 2 _ _ _ HQ1.out).trans rfl
    have f2 := frozen_of_row W (w.heap.size + 1) 2 _ _ HQ1.out
    have c3 : W.cell? ⟨w.heap.size + 1, 3, none⟩ = some (.bool false) := (cell_of_row W (w.heap.size + 1) 3 _ _ _ HQ1.out).trans rfl
    have f3 := frozen_of_row W (w.heap.size + 1) 3 _ _ HQ1.out
    have c4 : W.cell? ⟨w.heap.size + 1, 4, none⟩ = some (.bool false) := (cell_of_row W (w.heap.size + 1) 4 _ _ _ HQ1.out).trans rfl
    have f4 := frozen_of_row W (w.heap.size + 1) 4 _ _ HQ1.out
    have c5 : W.cell? ⟨w.heap.size + 1, 5, none⟩ = some (.int .i64 2) := (cell_of_row W (w.heap.size + 1) 5 _ _ _ HQ1.out).trans rfl
    have f5 := frozen_of_row W (w.heap.size + 1) 5 _ _ HQ1.out
    have l1 := (Array.getElem?_eq_some_iff.1 HQ1.out).1
    have HREP : Hid (RepF (factsN x) false 0 true false false 2) := by
      show RepF _ _ _ _ _ _ _
      rw [facts_nan' hn]
      exact ⟨by rw [iv_zero]; rfl, (fun h => by cases h), rfl, rfl⟩
    by_cases hs : 9223372036854775808 ≤ x
    · rw [if_pos hs] at hsg
      have HR1 : Hid (QAt ((W.setCell ⟨(w.heap.size + 1), 2, none⟩ (.bool true)).setCell ⟨(w.heap.size + 1), 0, none⟩ (.bool false)) (w.heap.size + 1) false none 0 0 true false false 2) := (heap_setCell_same _ (w.heap.size + 1) 0 _ 48 (.bool false) (heap_setCell_same _ (w.heap.size + 1) 2 _ 48 (.bool true) HQ1.out)).trans rfl
      have HR0 : Hid (QAt ((W.setCell ⟨(w.heap.size + 1), 2, none⟩ (.bool true)).setCell ⟨(w.heap.size + 1), 0, none⟩ (.bool false)) w.heap.size false none 0 0 false false false 0) := ((heap_setCell_other _ _ _ _ (show w.heap.size ≠ w.heap.size + 1 by omega)).trans ((heap_setCell_other _ _ _ _ (show w.heap.size ≠ w.heap.size + 1 by omega)).trans HQ0.out))
      have HBE : Hid (Below w.heap.size w ((W.setCell ⟨(w.heap.size + 1), 2, none⟩ (.bool true)).setCell ⟨(w.heap.size + 1), 0, none⟩ (.bool false))) := ((HB0.out.setCell (p := ⟨(w.heap.size + 1), 2, none⟩) (Nat.le_succ _) (.bool true)).setCell (p := ⟨(w.heap.size + 1), 0, none⟩) (Nat.le_succ _) (.bool false))
      go_wp2_with (first
        | (refine wpList_load_row rfl 48 _ rfl (w.heap.size + 1) rfl 48 _ _ _ HR1.out Tryz.underlying48 rfl (info48 ..) ?_)
        | (refine wpList_store_row rfl 48 _ _ rfl w.heap.size (qA false none 0 0 true false false 2) rfl rfl 48 _ HR0.out (info48 ..) rfl (qA_one ..) ?_))
      have hr := setRow_heap _ w.heap.size _ (qA false none 0 0 true false false 2) 48 _ HR0.out
      have hb9 := HBE.out.trans (below_setRow (Nat.le_refl w.heap.size) (qA false none 0 0 true false false 2))
      have hn9 : NumAt (((W.setCell ⟨(w.heap.size + 1), 2, none⟩ (.bool true)).setCell ⟨(w.heap.size + 1), 0, none⟩ (.bool false)).setRow w.heap.size (qA false none 0 0 true false false 2)) none 0 0 0 := num_nil _
      refine bodyPost_ret (v := .agg (qA false none 0 0 true false false 2)) ?_ rfl ⟨hb9, false, none, 0, 0, 0, true, false, false, 2, rfl, hn9, HREP.out⟩
      simp [results, Act.put, run_loadVar_row _ _ 48 48 _ _ _ hr Tryz.underlying48 rfl (info48 ..), Tryz.results50, asAddr]
    · rw [if_neg hs] at hsg
      have HR1 : Hid (QAt ((W.setCell ⟨(w.heap.size + 1), 2, none⟩ (.bool true)).setCell ⟨(w.heap.size + 1), 0, none⟩ (.bool false)) (w.heap.size + 1) false none 0 0 true false false 2) := (heap_setCell_same _ (w.heap.size + 1) 0 _ 48 (.bool false) (heap_setCell_same _ (w.heap.size + 1) 2 _ 48 (.bool true) HQ1.out)).trans rfl
      have HR0 : Hid (QAt ((W.setCell ⟨(w.heap.size + 1), 2, none⟩ (.bool true)).setCell ⟨(w.heap.size + 1), 0, none⟩ (.bool false)) w.heap.size false none 0 0 false false false 0) := ((heap_setCell_other _ _ _ _ (show w.heap.size ≠ w.heap.size + 1 by omega)).trans ((heap_setCell_other _ _ _ _ (show w.heap.size ≠ w.heap.size + 1 by omega)).trans HQ0.out))
      have HBE : Hid (Below w.heap.size w ((W.setCell ⟨(w.heap.size + 1), 2, none⟩ (.bool true)).setCell ⟨(w.heap.size + 1), 0, none⟩ (.bool false))) := ((HB0.out.setCell (p := ⟨(w.heap.size + 1), 2, none⟩) (Nat.le_succ _) (.bool true)).setCell (p := ⟨(w.heap.size + 1), 0, none⟩) (Nat.le_succ _) (.bool false))
      go_wp2_with (first
        | (refine wpList_load_row rfl 48 _ rfl (w.heap.size + 1) rfl 48 _ _ _ HR1.out Tryz.underlying48 rfl (info48 ..) ?_)
        | (refine wpList_store_row rfl 48 _ _ rfl w.heap.size (qA false none 0 0 true false false 2) rfl rfl 48 _ HR0.out (info48 ..) rfl (qA_one ..) ?_))
      have hr := setRow_heap _ w.heap.size _ (qA false none 0 0 true false false 2) 48 _ HR0.out
      have hb9 := HBE.out.trans (below_setRow (Nat.le_refl w.heap.size) (qA false none 0 0 true false false 2))
      have hn9 : NumAt (((W.setCell ⟨(w.heap.size + 1), 2, none⟩ (.bool true)).setCell ⟨(w.heap.size + 1), 0, none⟩ (.bool false)).setRow w.heap.size (qA false none 0 0 true false false 2)) none 0 0 0 := num_nil _
      refine bodyPost_ret (v := .agg (qA false none 0 0 true false false 2)) ?_ rfl ⟨hb9, false, none, 0, 0, 0, true, false, false, 2, rfl, hn9, HREP.out⟩
      simp [results, Act.put, run_loadVar_row _ _ 48 48 _ _ _ hr Tryz.underlying48 rfl (info48 ..), Tryz.results50, asAddr]
  | false =>
    by_cases h1 : x = 9218868437227405312
    · subst h1
      have HREP : Hid (RepF (factsN 9218868437227405312) false 0 false true false 2) := ⟨by show iv 0 = _; rw [iv_zero]; rfl, (fun h => by cases h), rfl, rfl⟩
      rw [if_neg (by decide)] at hsg
      clear HED HFD hexp hfr
      have c0 : W.cell? ⟨w.heap.size + 1, 0, none⟩ = some (.bool false) := (cell_of_row W (w.heap.size + 1) 0 _ _ _ HQ1.out).trans rfl
      have f0 := frozen_of_row W (w.heap.size + 1) 0 _ _ HQ1.out
      have c1 : W.cell? ⟨w.heap.size + 1, 1, none⟩ = some (.slice none 0 0) := (cell_of_row W (w.heap.size + 1) 1 _ _ _ HQ1.out).trans rfl
      have f1 := frozen_of_row W (w.heap.size + 1) 1 _ _ HQ1.out
      have c2 : W.cell? ⟨w.heap.size + 1, 2, none⟩ = some (.bool false) := (cell_of_row W (w.heap.size + 1) 2 _ _ _ HQ1.out).trans rfl
      have f2 := frozen_of_row W (w.heap.size + 1) 2 _ _ HQ1.out
      have c3 : W.cell? ⟨w.heap.size + 1, 3, none⟩ = some (.bool false) := (cell_of_row W (w.heap.size + 1) 3 _ _ _ HQ1.out).trans rfl
      have f3 := frozen_of_row W (w.heap.size + 1) 3 _ _ HQ1.out
      have c4 : W.cell? ⟨w.heap.size + 1, 4, none⟩ = some (.bool false) := (cell_of_row W (w.heap.size + 1) 4 _ _ _ HQ1.out).trans rfl
      have f4 := frozen_of_row W (w.heap.size + 1) 4 _ _ HQ1.out
      have c5 : W.cell? ⟨w.heap.size + 1, 5, none⟩ = some (.int .i64 2) := (cell_of_row W (w.heap.size + 1) 5 _ _ _ HQ1.out).trans rfl
      have f5 := frozen_of_row W (w.heap.size + 1) 5 _ _ HQ1.out
      have l1 := (Array.getElem?_eq_some_iff.1 HQ1.out).1
      have HR1 : Hid (QAt ((W.setCell ⟨(w.heap.size + 1), 3, none⟩ (.bool true)).setCell ⟨(w.heap.size + 1), 0, none⟩ (.bool false)) (w.heap.size + 1) false none 0 0 false true false 2) := (heap_setCell_same _ (w.heap.size + 1) 0 _ 48 (.bool false) (heap_setCell_same _ (w.heap.size + 1) 3 _ 48 (.bool true) HQ1.out)).trans rfl
      have HR0 : Hid (QAt ((W.setCell ⟨(w.heap.size + 1), 3, none⟩ (.bool true)).setCell ⟨(w.heap.size + 1), 0, none⟩ (.bool false)) w.heap.size false none 0 0 false false false 0) := ((heap_setCell_other _ _ _ _ (show w.heap.size ≠ w.heap.size + 1 by omega)).trans ((heap_setCell_other _ _ _ _ (show w.heap.size ≠ w.heap.size + 1 by omega)).trans HQ0.out))
      have HBE : Hid (Below w.heap.size w ((W.setCell ⟨(w.heap.size + 1), 3, none⟩ (.bool true)).setCell ⟨(w.heap.size + 1), 0, none⟩ (.bool false))) := ((HB0.out.setCell (p := ⟨(w.heap.size + 1), 3, none⟩) (Nat.le_succ _) (.bool true)).setCell (p := ⟨(w.heap.size + 1), 0, none⟩) (Nat.le_succ _) (.bool false))
      go_wp2_with (first
        | (refine wpList_load_row rfl 48 _ rfl (w.heap.size + 1) rfl 48 _ _ _ HR1.out Tryz.underlying48 rfl (info48 ..) ?_)
        | (refine wpList_store_row rfl 48 _ _ rfl w.heap.size (qA false none 0 0 false true false 2) rfl rfl 48 _ HR0.out (info48 ..) rfl (qA_one ..) ?_))
      have hr := setRow_heap _ w.heap.size _ (qA false none 0 0 false true false 2) 48 _ HR0.out
      have hb9 := HBE.out.trans (below_setRow (Nat.le_refl w.heap.size) (qA false none 0 0 false true false 2))
      have hn9 : NumAt (((W.setCell ⟨(w.heap.size + 1), 3, none⟩ (.bool true)).setCell ⟨(w.heap.size + 1), 0, none⟩ (.bool false)).setRow w.heap.size (qA false none 0 0 false true false 2)) none 0 0 0 := num_nil _
      refine bodyPost_ret (v := .agg (qA false none 0 0 false true false 2)) ?_ rfl ⟨hb9, false, none, 0, 0, 0, false, true, false, 2, rfl, hn9, HREP.out⟩
      simp [results, Act.put, run_loadVar_row _ _ 48 48 _ _ _ hr Tryz.underlying48 rfl (info48 ..), Tryz.results50, asAddr]
    · have e1 : ((x : Int) == 9218868437227405312) = false := by rw [beq_eq_false_iff_ne]; omega
      by_cases h2 : x = 18442240474082181120
      · subst h2
        have HREP : Hid (RepF (factsN 18442240474082181120) false 0 false false true 2) := ⟨by show iv 0 = _; rw [iv_zero]; rfl, (fun h => by cases h), rfl, rfl⟩
        rw [if_pos (by decide)] at hsg
        clear HED HFD hexp hfr
        have c0 : W.cell? ⟨w.heap.size + 1, 0, none⟩ = some (.bool false) := (cell_of_row W (w.heap.size + 1) 0 _ _ _ HQ1.out).trans rfl
        have f0 := frozen_of_row W (w.heap.size + 1) 0 _ _ HQ1.out
        have c1 : W.cell? ⟨w.heap.size + 1, 1, none⟩ = some (.slice none 0 0) := (cell_of_row W (w.heap.size + 1) 1 _ _ _ HQ1.out).trans rfl
        have f1 := frozen_of_row W (w.heap.size + 1) 1 _ _ HQ1.out
        have c2 : W.cell? ⟨w.heap.size + 1, 2, none⟩ = some (.bool false) := (cell_of_row W (w.heap.size + 1) 2 _ _ _ HQ1.out).trans rfl
        have f2 := frozen_of_row W (w.heap.size + 1) 2 _ _ HQ1.out
        have c3 : W.cell? ⟨w.heap.size + 1, 3, none⟩ = some (.bool false) := (cell_of_row W (w.heap.size + 1) 3 _ _ _ HQ1.out).trans rfl
        have f3 := frozen_of_row W (w.heap.size + 1) 3 _ _ HQ1.out
        have c4 : W.cell? ⟨w.heap.size + 1, 4, none⟩ = some (.bool false) := (cell_of_row W (w.heap.size + 1) 4 _ _ _ HQ1.out).trans rfl
        have f4 := frozen_of_row W (w.heap.size + 1) 4 _ _ HQ1.out
        have c5 : W.cell? ⟨w.heap.size + 1, 5, none⟩ = some (.int .i64 2) := (cell_of_row W (w.heap.size + 1) 5 _ _ _ HQ1.out).trans rfl
        have f5 := frozen_of_row W (w.heap.size + 1) 5 _ _ HQ1.out
        have l1 := (Array.getElem?_eq_some_iff.1 HQ1.out).1
        have HR1 : Hid (QAt ((W.setCell ⟨(w.heap.size + 1), 4, none⟩ (.bool true)).setCell ⟨(w.heap.size + 1), 0, none⟩ (.bool false)) (w.heap.size + 1) false none 0 0 false false true 2) := (heap_setCell_same _ (w.heap.size + 1) 0 _ 48 (.bool false) (heap_setCell_same _ (w.heap.size + 1) 4 _ 48 (.bool true) HQ1.out)).trans rfl
        have HR0 : Hid (QAt ((W.setCell ⟨(w.heap.size + 1), 4, none⟩ (.bool true)).setCell ⟨(w.heap.size + 1), 0, none⟩ (.bool false)) w.heap.size false none 0 0 false false false 0) := ((heap_setCell_other _ _ _ _ (show w.heap.size ≠ w.heap.size + 1 by omega)).trans ((heap_setCell_other _ _ _ _ (show w.heap.size ≠ w.heap.size + 1 by omega)).trans HQ0.out))
        have HBE : Hid (Below w.heap.size w ((W.setCell ⟨(w.heap.size + 1), 4, none⟩ (.bool true)).setCell ⟨(w.heap.size + 1), 0, none⟩ (.bool false))) := ((HB0.out.setCell (p := ⟨(w.heap.size + 1), 4, none⟩) (Nat.le_succ _) (.bool true)).setCell (p := ⟨(w.heap.size + 1), 0, none⟩) (Nat.le_succ _) (.bool false))
        go_wp2_with (first
          | (refine wpList_load_row rfl 48 _ rfl (w.heap.size + 1) rfl 48 _ _ _ HR1.out Tryz.underlying48 rfl (info48 ..) ?_)
          | (refine wpList_store_row rfl 48 _ _ rfl w.heap.size (qA false none 0 0 false false true 2) rfl rfl 48 _ HR0.out (info48 ..) rfl (qA_one ..) ?_))
        have hr := setRow_heap _ w.heap.size _ (qA false none 0 0 false false true 2) 48 _ HR0.out
        have hb9 := HBE.out.trans (below_setRow (Nat.le_refl w.heap.size) (qA false none 0 0 false false true 2))
        have hn9 : NumAt (((W.setCell ⟨(w.heap.size + 1), 4, none⟩ (.bool true)).setCell ⟨(w.heap.size + 1), 0, none⟩ (.bool false)).setRow w.heap.size (qA false none 0 0 false false true 2)) none 0 0 0 := num_nil _
        refine bodyPost_ret (v := .agg (qA false none 0 0 false false true 2)) ?_ rfl ⟨hb9, false, none, 0, 0, 0, false, false, true, 2, rfl, hn9, HREP.out⟩
        simp [results, Act.put, run_loadVar_row _ _ 48 48 _ _ _ hr Tryz.underlying48 rfl (info48 ..), Tryz.results50, asAddr]
      · have e2 : ((x : Int) == 18442240474082181120) = false := by rw [beq_eq_false_iff_ne]; omega
        by_cases h3 : x = 9223372036854775808
        · subst h3
          have HREP : Hid (RepF (factsN 9223372036854775808) false 0 false false false 1) := ⟨by show iv 0 = _; rw [iv_zero]; rfl, (fun h => by cases h), rfl, rfl⟩
          rw [if_pos (by decide)] at hsg
          clear HED HFD hexp hfr
          have c0 : W.cell? ⟨w.heap.size + 1, 0, none⟩ = some (.bool false) := (cell_of_row W (w.heap.size + 1) 0 _ _ _ HQ1.out).trans rfl
          have f0 := frozen_of_row W (w.heap.size + 1) 0 _ _ HQ1.out
          have c1 : W.cell? ⟨w.heap.size + 1, 1, none⟩ = some (.slice none 0 0) := (cell_of_row W (w.heap.size + 1) 1 _ _ _ HQ1.out).trans rfl
          have f1 := frozen_of_row W (w.heap.size + 1) 1 _ _ HQ1.out
          have c2 : W.cell? ⟨w.heap.size + 1, 2, none⟩ = some (.bool false) := (cell_of_row W (w.heap.size + 1) 2 _ _ _ HQ1.out).trans rfl
          have f2 := frozen_of_row W (w.heap.size + 1) 2 _ _ HQ1.out
          have c3 : W.cell? ⟨w.heap.size + 1, 3, none⟩ = some (.bool false) := (cell_of_row W (w.heap.size + 1) 3 _ _ _ HQ1.out).trans rfl
          have f3 := frozen_of_row W (w.heap.size + 1) 3 _ _ HQ1.out
          have c4 : W.cell? ⟨w.heap.size + 1, 4, none⟩ = some (.bool false) := (cell_of_row W (w.heap.size + 1) 4 _ _ _ HQ1.out).trans rfl
          have f4 := frozen_of_row W (w.heap.size + 1) 4 _ _ HQ1.out
          have c5 : W.cell? ⟨w.heap.size + 1, 5, none⟩ = some (.int .i64 2) := (cell_of_row W (w.heap.size + 1) 5 _ _ _ HQ1.out).trans rfl
          have f5 := frozen_of_row W (w.heap.size + 1) 5 _ _ HQ1.out
          have l1 := (Array.getElem?_eq_some_iff.1 HQ1.out).1
          have HR1 : Hid (QAt ((W.setCell ⟨(w.heap.size + 1), 5, none⟩ (.int .i64 1)).setCell ⟨(w.heap.size + 1), 0, none⟩ (.bool false)) (w.heap.size + 1) false none 0 0 false false false 1) := (heap_setCell_same _ (w.heap.size + 1) 0 _ 48 (.bool false) (heap_setCell_same _ (w.heap.size + 1) 5 _ 48 (.int .i64 1) HQ1.out)).trans rfl
          have HR0 : Hid (QAt ((W.setCell ⟨(w.heap.size + 1), 5, none⟩ (.int .i64 1)).setCell ⟨(w.heap.size + 1), 0, none⟩ (.bool false)) w.heap.size false none 0 0 false false false 0) := ((heap_setCell_other _ _ _ _ (show w.heap.size ≠ w.heap.size + 1 by omega)).trans ((heap_setCell_other _ _ _ _ (show w.heap.size ≠ w.heap.size + 1 by omega)).trans HQ0.out))
          have HBE : Hid (Below w.heap.size w ((W.setCell ⟨(w.heap.size + 1), 5, none⟩ (.int .i64 1)).setCell ⟨(w.heap.size + 1), 0, none⟩ (.bool false))) := ((HB0.out.setCell (p := ⟨(w.heap.size + 1), 5, none⟩) (Nat.le_succ _) (.int .i64 1)).setCell (p := ⟨(w.heap.size + 1), 0, none⟩) (Nat.le_succ _) (.bool false))
          go_wp2_with (first
            | (refine wpList_load_row rfl 48 _ rfl (w.heap.size + 1) rfl 48 _ _ _ HR1.out Tryz.underlying48 rfl (info48 ..) ?_)
            | (refine wpList_store_row rfl 48 _ _ rfl w.heap.size (qA false none 0 0 false false false 1) rfl rfl 48 _ HR0.out (info48 ..) rfl (qA_one ..) ?_))
          have hr := setRow_heap _ w.heap.size _ (qA false none 0 0 false false false 1) 48 _ HR0.out
          have hb9 := HBE.out.trans (below_setRow (Nat.le_refl w.heap.size) (qA false none 0 0 false false false 1))
          have hn9 : NumAt (((W.setCell ⟨(w.heap.size + 1), 5, none⟩ (.int .i64 1)).setCell ⟨(w.heap.size + 1), 0, none⟩ (.bool false)).setRow w.heap.size (qA false none 0 0 false false false 1)) none 0 0 0 := num_nil _
          refine bodyPost_ret (v := .agg (qA false none 0 0 false false false 1)) ?_ rfl ⟨hb9, false, none, 0, 0, 0, false, false, false, 1, rfl, hn9, HREP.out⟩
          simp [results, Act.put, run_loadVar_row _ _ 48 48 _ _ _ hr Tryz.underlying48 rfl (info48 ..), Tryz.results50, asAddr]
        · have e3 : ((x : Int) == 9223372036854775808) = false := by rw [beq_eq_false_iff_ne]; omega
          have hfin : expN x < 2047 := by
            unfold nanB at hn
            have := of_decide_eq_false hn
            unfold expN
            omega
          have HREP : Hid (∀ mm, (mm = true ↔ (9223372036854775808 ≤ x ∧ magN' x ≠ 0)) → RepF (factsN x) mm (magN' x) false false false 2) := fun mm hmm => rep_num hx hn h1 h2 h3 hfin mm hmm
          have HMG := Lib.hid (mag_parts x)
          rw [← HED.out, ← HFD.out] at HMG
          rw [← HED.out] at hfin
          clear HED HFD hn h1 h2 h3
          by_cases hE0 : E = 0
          · have e4 : ((E : Int) == 0) = true := by rw [beq_iff_eq]; omega
            have hsh := shifted_any Fr 0 (by omega) (by omega) W
            rw [show Fr * 2 ^ 0 = magN' x by rw [HMG.out, if_pos hE0]; simp] at hsh
            have HSH := Lib.hid hsh
            clear hsh HMG
            go_wp2_with fail
            refine HSH.out.mono ?_
            rintro e w2 ⟨hb2, a', n', cap', rfl, hN⟩
            have HN := Lib.hid hN
            have HQ1w : Hid (QAt w2 (w.heap.size + 1) false none 0 0 false false false 2) := (hb2.block _ (Array.getElem?_eq_some_iff.1 HQ1.out).1).trans HQ1.out
            have HQ0w : Hid (QAt w2 w.heap.size false none 0 0 false false false 0) := (hb2.block _ (Array.getElem?_eq_some_iff.1 HQ0.out).1).trans HQ0.out
            have HBw := Lib.hid (HB0.out.trans (hb2.mono HB0.out.size))
            have hlz := len_zero (magN' x)
            rw [← hN.len] at hlz
            clear hN hb2 HSH HQ0 HQ1 HB0
            have c0 : w2.cell? ⟨w.heap.size + 1, 0, none⟩ = some (.bool false) := (cell_of_row w2 (w.heap.size + 1) 0 _ _ _ HQ1w.out).trans rfl
            have f0 := frozen_of_row w2 (w.heap.size + 1) 0 _ _ HQ1w.out
            have c1 : w2.cell? ⟨w.heap.size + 1, 1, none⟩ = some (.slice none 0 0) := (cell_of_row w2 (w.heap.size + 1) 1 _ _ _ HQ1w.out).trans rfl
            have f1 := frozen_of_row w2 (w.heap.size + 1) 1 _ _ HQ1w.out
            have c2 : w2.cell? ⟨w.heap.size + 1, 2, none⟩ = some (.bool false) := (cell_of_row w2 (w.heap.size + 1) 2 _ _ _ HQ1w.out).trans rfl
            have f2 := frozen_of_row w2 (w.heap.size + 1) 2 _ _ HQ1w.out
            have c3 : w2.cell? ⟨w.heap.size + 1, 3, none⟩ = some (.bool false) := (cell_of_row w2 (w.heap.size + 1) 3 _ _ _ HQ1w.out).trans rfl
            have f3 := frozen_of_row w2 (w.heap.size + 1) 3 _ _ HQ1w.out
            have c4 : w2.cell? ⟨w.heap.size + 1, 4, none⟩ = some (.bool false) := (cell_of_row w2 (w.heap.size + 1) 4 _ _ _ HQ1w.out).trans rfl
            have f4 := frozen_of_row w2 (w.heap.size + 1) 4 _ _ HQ1w.out
            have c5 : w2.cell? ⟨w.heap.size + 1, 5, none⟩ = some (.int .i64 2) := (cell_of_row w2 (w.heap.size + 1) 5 _ _ _ HQ1w.out).trans rfl
            have f5 := frozen_of_row w2 (w.heap.size + 1) 5 _ _ HQ1w.out
            have l1 := (Array.getElem?_eq_some_iff.1 HQ1w.out).1
            by_cases hs : 9223372036854775808 ≤ x
            · rw [if_pos hs] at hsg
              by_cases hX : magN' x = 0
              · have hn0 : n' = 0 := hlz.2 hX
                have hd1 : decide (0 < n') = false := by simp; omega
                have hd2 : decide ((0 : Int) < (n' : Int)) = false := by simp; omega
                clear hlz hn0
                have HR1 : Hid (QAt ((w2.setCell ⟨(w.heap.size + 1), 1, none⟩ (.slice a' n' cap')).setCell ⟨(w.heap.size + 1), 0, none⟩ (.bool false)) (w.heap.size + 1) false a' n' cap' false false false 2) := (heap_setCell_same _ (w.heap.size + 1) 0 _ 48 (.bool false) (heap_setCell_same _ (w.heap.size + 1) 1 _ 48 (.slice a' n' cap') HQ1w.out)).trans rfl
                have HR0 : Hid (QAt ((w2.setCell ⟨(w.heap.size + 1), 1, none⟩ (.slice a' n' cap')).setCell ⟨(w.heap.size + 1), 0, none⟩ (.bool false)) w.heap.size false none 0 0 false false false 0) := ((heap_setCell_other _ _ _ _ (show w.heap.size ≠ w.heap.size + 1 by omega)).trans ((heap_setCell_other _ _ _ _ (show w.heap.size ≠ w.heap.size + 1 by omega)).trans HQ0w.out))
                have HBE : Hid (Below w.heap.size w ((w2.setCell ⟨(w.heap.size + 1), 1, none⟩ (.slice a' n' cap')).setCell ⟨(w.heap.size + 1), 0, none⟩ (.bool false))) := ((HBw.out.setCell (p := ⟨(w.heap.size + 1), 1, none⟩) (Nat.le_succ _) (.slice a' n' cap')).setCell (p := ⟨(w.heap.size + 1), 0, none⟩) (Nat.le_succ _) (.bool false))
                go_wp2_with (first
                  | (refine wpList_load_row rfl 48 _ rfl (w.heap.size + 1) rfl 48 _ _ _ HR1.out Tryz.underlying48 rfl (info48 ..) ?_)
                  | (refine wpList_store_row rfl 48 _ _ rfl w.heap.size (qA false a' n' cap' false false false 2) rfl rfl 48 _ HR0.out (info48 ..) rfl (qA_one ..) ?_))
                have hr := setRow_heap _ w.heap.size _ (qA false a' n' cap' false false false 2) 48 _ HR0.out
                have hb9 := HBE.out.trans (below_setRow (Nat.le_refl w.heap.size) (qA false a' n' cap' false false false 2))
                have hn9 : NumAt (((w2.setCell ⟨(w.heap.size + 1), 1, none⟩ (.slice a' n' cap')).setCell ⟨(w.heap.size + 1), 0, none⟩ (.bool false)).setRow w.heap.size (qA false a' n' cap' false false false 2)) a' n' cap' (magN' x) := num_other2 HN.out HQ1w.out HQ0w.out (fun k h1 h2 => by rw [Go.setRow_other _ _ _ _ h1, heap_setCell_other _ _ _ _ h2, heap_setCell_other _ _ _ _ h2])
                refine bodyPost_ret (v := .agg (qA false a' n' cap' false false false 2)) ?_ rfl ⟨hb9, false, a', n', cap', (magN' x), false, false, false, 2, rfl, hn9, HREP.out false ⟨(fun h => by cases h), (fun h => absurd hX h.2)⟩⟩
                simp [results, Act.put, run_loadVar_row _ _ 48 48 _ _ _ hr Tryz.underlying48 rfl (info48 ..), Tryz.results50, asAddr]
              · have hn0 : n' ≠ 0 := fun h => hX (hlz.1 h)
                have hd1 : decide (0 < n') = true := by simp; omega
                have hd2 : decide ((0 : Int) < (n' : Int)) = true := by simp; omega
                clear hlz hn0
                have HR1 : Hid (QAt ((w2.setCell ⟨(w.heap.size + 1), 1, none⟩ (.slice a' n' cap')).setCell ⟨(w.heap.size + 1), 0, none⟩ (.bool true)) (w.heap.size + 1) true a' n' cap' false false false 2) := (heap_setCell_same _ (w.heap.size + 1) 0 _ 48 (.bool true) (heap_setCell_same _ (w.heap.size + 1) 1 _ 48 (.slice a' n' cap') HQ1w.out)).trans rfl
                have HR0 : Hid (QAt ((w2.setCell ⟨(w.heap.size + 1), 1, none⟩ (.slice a' n' cap')).setCell ⟨(w.heap.size + 1), 0, none⟩ (.bool true)) w.heap.size false none 0 0 false false false 0) := ((heap_setCell_other _ _ _ _ (show w.heap.size ≠ w.heap.size + 1 by omega)).trans ((heap_setCell_other _ _ _ _ (show w.heap.size ≠ w.heap.size + 1 by omega)).trans HQ0w.out))
                have HBE : Hid (Below w.heap.size w ((w2.setCell ⟨(w.heap.size + 1), 1, none⟩ (.slice a' n' cap')).setCell ⟨(w.heap.size + 1), 0, none⟩ (.bool true))) := ((HBw.out.setCell (p := ⟨(w.heap.size + 1), 1, none⟩) (Nat.le_succ _) (.slice a' n' cap')).setCell (p := ⟨(w.heap.size + 1), 0, none⟩) (Nat.le_succ _) (.bool true))
                go_wp2_with (first
                  | (refine wpList_load_row rfl 48 _ rfl (w.heap.size + 1) rfl 48 _ _ _ HR1.out Tryz.underlying48 rfl (info48 ..) ?_)
                  | (refine wpList_store_row rfl 48 _ _ rfl w.heap.size (qA true a' n' cap' false false false 2) rfl rfl 48 _ HR0.out (info48 ..) rfl (qA_one ..) ?_))
                have hr := setRow_heap _ w.heap.size _ (qA true a' n' cap' false false false 2) 48 _ HR0.out
                have hb9 := HBE.out.trans (below_setRow (Nat.le_refl w.heap.size) (qA true a' n' cap' false false false 2))
                have hn9 : NumAt (((w2.setCell ⟨(w.heap.size + 1), 1, none⟩ (.slice a' n' cap')).setCell ⟨(w.heap.size + 1), 0, none⟩ (.bool true)).setRow w.heap.size (qA true a' n' cap' false false false 2)) a' n' cap' (magN' x) := num_other2 HN.out HQ1w.out HQ0w.out (fun k h1 h2 => by rw [Go.setRow_other _ _ _ _ h1, heap_setCell_other _ _ _ _ h2, heap_setCell_other _ _ _ _ h2])
                refine bodyPost_ret (v := .agg (qA true a' n' cap' false false false 2)) ?_ rfl ⟨hb9, true, a', n', cap', (magN' x), false, false, false, 2, rfl, hn9, HREP.out true ⟨(fun _ => ⟨hs, hX⟩), (fun _ => rfl)⟩⟩
                simp [results, Act.put, run_loadVar_row _ _ 48 48 _ _ _ hr Tryz.underlying48 rfl (info48 ..), Tryz.results50, asAddr]
            · rw [if_neg hs] at hsg
              have HR1 : Hid (QAt ((w2.setCell ⟨(w.heap.size + 1), 1, none⟩ (.slice a' n' cap')).setCell ⟨(w.heap.size + 1), 0, none⟩ (.bool false)) (w.heap.size + 1) false a' n' cap' false false false 2) := (heap_setCell_same _ (w.heap.size + 1) 0 _ 48 (.bool false) (heap_setCell_same _ (w.heap.size + 1) 1 _ 48 (.slice a' n' cap') HQ1w.out)).trans rfl
              have HR0 : Hid (QAt ((w2.setCell ⟨(w.heap.size + 1), 1, none⟩ (.slice a' n' cap')).setCell ⟨(w.heap.size + 1), 0, none⟩ (.bool false)) w.heap.size false none 0 0 false false false 0) := ((heap_setCell_other _ _ _ _ (show w.heap.size ≠ w.heap.size + 1 by omega)).trans ((heap_setCell_other _ _ _ _ (show w.heap.size ≠ w.heap.size + 1 by omega)).trans HQ0w.out))
              have HBE : Hid (Below w.heap.size w ((w2.setCell ⟨(w.heap.size + 1), 1, none⟩ (.slice a' n' cap')).setCell ⟨(w.heap.size + 1), 0, none⟩ (.bool false))) := ((HBw.out.setCell (p := ⟨(w.heap.size + 1), 1, none⟩) (Nat.le_succ _) (.slice a' n' cap')).setCell (p := ⟨(w.heap.size + 1), 0, none⟩) (Nat.le_succ _) (.bool false))
              go_wp2_with (first
                | (refine wpList_load_row rfl 48 _ rfl (w.heap.size + 1) rfl 48 _ _ _ HR1.out Tryz.underlying48 rfl (info48 ..) ?_)
                | (refine wpList_store_row rfl 48 _ _ rfl w.heap.size (qA false a' n' cap' false false false 2) rfl rfl 48 _ HR0.out (info48 ..) rfl (qA_one ..) ?_))
              have hr := setRow_heap _ w.heap.size _ (qA false a' n' cap' false false false 2) 48 _ HR0.out
              have hb9 := HBE.out.trans (below_setRow (Nat.le_refl w.heap.size) (qA false a' n' cap' false false false 2))
              have hn9 : NumAt (((w2.setCell ⟨(w.heap.size + 1), 1, none⟩ (.slice a' n' cap')).setCell ⟨(w.heap.size + 1), 0, none⟩ (.bool false)).setRow w.heap.size (qA false a' n' cap' false false false 2)) a' n' cap' (magN' x) := num_other2 HN.out HQ1w.out HQ0w.out (fun k h1 h2 => by rw [Go.setRow_other _ _ _ _ h1, heap_setCell_other _ _ _ _ h2, heap_setCell_other _ _ _ _ h2])
              refine bodyPost_ret (v := .agg (qA false a' n' cap' false false false 2)) ?_ rfl ⟨hb9, false, a', n', cap', (magN' x), false, false, false, 2, rfl, hn9, HREP.out false ⟨(fun h => by cases h), (fun h => absurd h.1 hs)⟩⟩
              simp [results, Act.put, run_loadVar_row _ _ 48 48 _ _ _ hr Tryz.underlying48 rfl (info48 ..), Tryz.results50, asAddr]
          · have e4 : ((E : Int) == 0) = false := by rw [beq_eq_false_iff_ne]; omega
            obtain ⟨D, rfl⟩ : ∃ D, E = D + 1 := ⟨E - 1, by omega⟩
            have hsh := shifted_any (Fr + 4503599627370496) D (by omega) (by omega) W
            rw [show (Fr + 4503599627370496) * 2 ^ D = magN' x by rw [HMG.out, if_neg hE0, Nat.add_sub_cancel]] at hsh
            have HSH := Lib.hid hsh
            have ed : (D : Int) + 1 - 1 = D := by omega
            clear hsh HMG
            go_wp2_with fail
            refine HSH.out.mono ?_
            rintro e w2 ⟨hb2, a', n', cap', rfl, hN⟩
            have HN := Lib.hid hN
            have HQ1w : Hid (QAt w2 (w.heap.size + 1) false none 0 0 false false false 2) := (hb2.block _ (Array.getElem?_eq_some_iff.1 HQ1.out).1).trans HQ1.out
            have HQ0w : Hid (QAt w2 w.heap.size false none 0 0 false false false 0) := (hb2.block _ (Array.getElem?_eq_some_iff.1 HQ0.out).1).trans HQ0.out
            have HBw := Lib.hid (HB0.out.trans (hb2.mono HB0.out.size))
            have hlz := len_zero (magN' x)
            rw [← hN.len] at hlz
            clear hN hb2 HSH HQ0 HQ1 HB0
            have c0 : w2.cell? ⟨w.heap.size + 1, 0, none⟩ = some (.bool false) := (cell_of_row w2 (w.heap.size + 1) 0 _ _ _ HQ1w.out).trans rfl
            have f0 := frozen_of_row w2 (w.heap.size + 1) 0 _ _ HQ1w.out
            have c1 : w2.cell? ⟨w.heap.size + 1, 1, none⟩ = some (.slice none 0 0) := (cell_of_row w2 (w.heap.size + 1) 1 _ _ _ HQ1w.out).trans rfl
            have f1 := frozen_of_row w2 (w.heap.size + 1) 1 _ _ HQ1w.out
            have c2 : w2.cell? ⟨w.heap.size + 1, 2, none⟩ = some (.bool false) := (cell_of_row w2 (w.heap.size + 1) 2 _ _ _ HQ1w.out).trans rfl
            have f2 := frozen_of_row w2 (w.heap.size + 1) 2 _ _ HQ1w.out
            have c3 : w2.cell? ⟨w.heap.size + 1, 3, none⟩ = some (.bool false) := (cell_of_row w2 (w.heap.size + 1) 3 _ _ _ HQ1w.out).trans rfl
            have f3 := frozen_of_row w2 (w.heap.size + 1) 3 _ _ HQ1w.out
            have c4 : w2.cell? ⟨w.heap.size + 1, 4, none⟩ = some (.bool false) := (cell_of_row w2 (w.heap.size + 1) 4 _ _ _ HQ1w.out).trans rfl
            have f4 := frozen_of_row w2 (w.heap.size + 1) 4 _ _ HQ1w.out
            have c5 : w2.cell? ⟨w.heap.size + 1, 5, none⟩ = some (.int .i64 2) := (cell_of_row w2 (w.heap.size + 1) 5 _ _ _ HQ1w.out).trans rfl
            have f5 := frozen_of_row w2 (w.heap.size + 1) 5 _ _ HQ1w.out
            have l1 := (Array.getElem?_eq_some_iff.1 HQ1w.out).1
            by_cases hs : 9223372036854775808 ≤ x
            · rw [if_pos hs] at hsg
              by_cases hX : magN' x = 0
              · have hn0 : n' = 0 := hlz.2 hX
                have hd1 : decide (0 < n') = false := by simp; omega
                have hd2 : decide ((0 : Int) < (n' : Int)) = false := by simp; omega
                clear hlz hn0
                have HR1 : Hid (QAt ((w2.setCell ⟨(w.heap.size + 1), 1, none⟩ (.slice a' n' cap')).setCell ⟨(w.heap.size + 1), 0, none⟩ (.bool false)) (w.heap.size + 1) false a' n' cap' false false false 2) := (heap_setCell_same _ (w.heap.size + 1) 0 _ 48 (.bool false) (heap_setCell_same _ (w.heap.size + 1) 1 _ 48 (.slice a' n' cap') HQ1w.out)).trans rfl
                have HR0 : Hid (QAt ((w2.setCell ⟨(w.heap.size + 1), 1, none⟩ (.slice a' n' cap')).setCell ⟨(w.heap.size + 1), 0, none⟩ (.bool false)) w.heap.size false none 0 0 false false false 0) := ((heap_setCell_other _ _ _ _ (show w.heap.size ≠ w.heap.size + 1 by omega)).trans ((heap_setCell_other _ _ _ _ (show w.heap.size ≠ w.heap.size + 1 by omega)).trans HQ0w.out))
                have HBE : Hid (Below w.heap.size w ((w2.setCell ⟨(w.heap.size + 1), 1, none⟩ (.slice a' n' cap')).setCell ⟨(w.heap.size + 1), 0, none⟩ (.bool false))) := ((HBw.out.setCell (p := ⟨(w.heap.size + 1), 1, none⟩) (Nat.le_succ _) (.slice a' n' cap')).setCell (p := ⟨(w.heap.size + 1), 0, none⟩) (Nat.le_succ _) (.bool false))
                go_wp2_with (first
                  | (refine wpList_load_row rfl 48 _ rfl (w.heap.size + 1) rfl 48 _ _ _ HR1.out Tryz.underlying48 rfl (info48 ..) ?_)
                  | (refine wpList_store_row rfl 48 _ _ rfl w.heap.size (qA false a' n' cap' false false false 2) rfl rfl 48 _ HR0.out (info48 ..) rfl (qA_one ..) ?_))
                have hr := setRow_heap _ w.heap.size _ (qA false a' n' cap' false false false 2) 48 _ HR0.out
                have hb9 := HBE.out.trans (below_setRow (Nat.le_refl w.heap.size) (qA false a' n' cap' false false false 2))
                have hn9 : NumAt (((w2.setCell ⟨(w.heap.size + 1), 1, none⟩ (.slice a' n' cap')).setCell ⟨(w.heap.size + 1), 0, none⟩ (.bool false)).setRow w.heap.size (qA false a' n' cap' false false false 2)) a' n' cap' (magN' x) := num_other2 HN.out HQ1w.out HQ0w.out (fun k h1 h2 => by rw [Go.setRow_other _ _ _ _ h1, heap_setCell_other _ _ _ _ h2, heap_setCell_other _ _ _ _ h2])
                refine bodyPost_ret (v := .agg (qA false a' n' cap' false false false 2)) ?_ rfl ⟨hb9, false, a', n', cap', (magN' x), false, false, false, 2, rfl, hn9, HREP.out false ⟨(fun h => by cases h), (fun h => absurd hX h.2)⟩⟩
                simp [results, Act.put, run_loadVar_row _ _ 48 48 _ _ _ hr Tryz.underlying48 rfl (info48 ..), Tryz.results50, asAddr]
              · have hn0 : n' ≠ 0 := fun h => hX (hlz.1 h)
                have hd1 : decide (0 < n') = true := by simp; omega
                have hd2 : decide ((0 : Int) < (n' : Int)) = true := by simp; omega
                clear hlz hn0
                have HR1 : Hid (QAt ((w2.setCell ⟨(w.heap.size + 1), 1, none⟩ (.slice a' n' cap')).setCell ⟨(w.heap.size + 1), 0, none⟩ (.bool true)) (w.heap.size + 1) true a' n' cap' false false false 2) := (heap_setCell_same _ (w.heap.size + 1) 0 _ 48 (.bool true) (heap_setCell_same _ (w.heap.size + 1) 1 _ 48 (.slice a' n' cap') HQ1w.out)).trans rfl
                have HR0 : Hid (QAt ((w2.setCell ⟨(w.heap.size + 1), 1, none⟩ (.slice a' n' cap')).setCell ⟨(w.heap.size + 1), 0, none⟩ (.bool true)) w.heap.size false none 0 0 false false false 0) := ((heap_setCell_other _ _ _ _ (show w.heap.size ≠ w.heap.size + 1 by omega)).trans ((heap_setCell_other _ _ _ _ (show w.heap.size ≠ w.heap.size + 1 by omega)).trans HQ0w.out))
                have HBE : Hid (Below w.heap.size w ((w2.setCell ⟨(w.heap.size + 1), 1, none⟩ (.slice a' n' cap')).setCell ⟨(w.heap.size + 1), 0, none⟩ (.bool true))) := ((HBw.out.setCell (p := ⟨(w.heap.size + 1), 1, none⟩) (Nat.le_succ _) (.slice a' n' cap')).setCell (p := ⟨(w.heap.size + 1), 0, none⟩) (Nat.le_succ _) (.bool true))
                go_wp2_with (first
                  | (refine wpList_load_row rfl 48 _ rfl (w.heap.size + 1) rfl 48 _ _ _ HR1.out Tryz.underlying48 rfl (info48 ..) ?_)
                  | (refine wpList_store_row rfl 48 _ _ rfl w.heap.size (qA true a' n' cap' false false false 2) rfl rfl 48 _ HR0.out (info48 ..) rfl (qA_one ..) ?_))
                have hr := setRow_heap _ w.heap.size _ (qA true a' n' cap' false false false 2) 48 _ HR0.out
                have hb9 := HBE.out.trans (below_setRow (Nat.le_refl w.heap.size) (qA true a' n' cap' false false false 2))
                have hn9 : NumAt (((w2.setCell ⟨(w.heap.size + 1), 1, none⟩ (.slice a' n' cap')).setCell ⟨(w.heap.size + 1), 0, none⟩ (.bool true)).setRow w.heap.size (qA true a' n' cap' false false false 2)) a' n' cap' (magN' x) := num_other2 HN.out HQ1w.out HQ0w.out (fun k h1 h2 => by rw [Go.setRow_other _ _ _ _ h1, heap_setCell_other _ _ _ _ h2, heap_setCell_other _ _ _ _ h2])
                refine bodyPost_ret (v := .agg (qA true a' n' cap' false false false 2)) ?_ rfl ⟨hb9, true, a', n', cap', (magN' x), false, false, false, 2, rfl, hn9, HREP.out true ⟨(fun _ => ⟨hs, hX⟩), (fun _ => rfl)⟩⟩
                simp [results, Act.put, run_loadVar_row _ _ 48 48 _ _ _ hr Tryz.underlying48 rfl (info48 ..), Tryz.results50, asAddr]
            · rw [if_neg hs] at hsg
              have HR1 : Hid (QAt ((w2.setCell ⟨(w.heap.size + 1), 1, none⟩ (.slice a' n' cap')).setCell ⟨(w.heap.size + 1), 0, none⟩ (.bool false)) (w.heap.size + 1) false a' n' cap' false false false 2) := (heap_setCell_same _ (w.heap.size + 1) 0 _ 48 (.bool false) (heap_setCell_same _ (w.heap.size + 1) 1 _ 48 (.slice a' n' cap') HQ1w.out)).trans rfl
              have HR0 : Hid (QAt ((w2.setCell ⟨(w.heap.size + 1), 1, none⟩ (.slice a' n' cap')).setCell ⟨(w.heap.size + 1), 0, none⟩ (.bool false)) w.heap.size false none 0 0 false false false 0) := ((heap_setCell_other _ _ _ _ (show w.heap.size ≠ w.heap.size + 1 by omega)).trans ((heap_setCell_other _ _ _ _ (show w.heap.size ≠ w.heap.size + 1 by omega)).trans HQ0w.out))
              have HBE : Hid (Below w.heap.size w ((w2.setCell ⟨(w.heap.size + 1), 1, none⟩ (.slice a' n' cap')).setCell ⟨(w.heap.size + 1), 0, none⟩ (.bool false))) := ((HBw.out.setCell (p := ⟨(w.heap.size + 1), 1, none⟩) (Nat.le_succ _) (.slice a' n' cap')).setCell (p := ⟨(w.heap.size + 1), 0, none⟩) (Nat.le_succ _) (.bool false))
              go_wp2_with (first
                | (refine wpList_load_row rfl 48 _ rfl (w.heap.size + 1) rfl 48 _ _ _ HR1.out Tryz.underlying48 rfl (info48 ..) ?_)
                | (refine wpList_store_row rfl 48 _ _ rfl w.heap.size (qA false a' n' cap' false false false 2) rfl rfl 48 _ HR0.out (info48 ..) rfl (qA_one ..) ?_))
              have hr := setRow_heap _ w.heap.size _ (qA false a' n' cap' false false false 2) 48 _ HR0.out
              have hb9 := HBE.out.trans (below_setRow (Nat.le_refl w.heap.size) (qA false a' n' cap' false false false 2))
              have hn9 : NumAt (((w2.setCell ⟨(w.heap.size + 1), 1, none⟩ (.slice a' n' cap')).setCell ⟨(w.heap.size + 1), 0, none⟩ (.bool false)).setRow w.heap.size (qA false a' n' cap' false false false 2)) a' n' cap' (magN' x) := num_other2 HN.out HQ1w.out HQ0w.out (fun k h1 h2 => by rw [Go.setRow_other _ _ _ _ h1, heap_setCell_other _ _ _ _ h2, heap_setCell_other _ _ _ _ h2])
              refine bodyPost_ret (v := .agg (qA false a' n' cap' false false false 2)) ?_ rfl ⟨hb9, false, a', n', cap', (magN' x), false, false, false, 2, rfl, hn9, HREP.out false ⟨(fun h => by cases h), (fun h => absurd h.1 hs)⟩⟩
              simp [results, Act.put, run_loadVar_row _ _ 48 48 _ _ _ hr Tryz.underlying48 rfl (info48 ..), Tryz.results50, asAddr]
end Go.Proofs.YtjcdnaandbockaaGreat
