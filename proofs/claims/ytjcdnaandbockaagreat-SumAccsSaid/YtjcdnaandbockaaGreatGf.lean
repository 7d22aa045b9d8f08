import Derived.Test.YtjcdnaandbockaaGreatGe
import Derived.Maps.Own
namespace Go.Proofs.YtjcdnaandbockaaGreat
open Go.RowKit Go.Shelf
attribute [local go_sem] Oper.semAt_some
set_option maxRecDepth 100000
set_option maxHeartbeats 1000000

/-- the entries of a map of operations: numbers and values, as they were laid -/
def mE (l : List (Int × Value)) : Array MapEntry := (l.zipIdx.map fun p => ({ key := .int .i64 p.1.1, val := p.1.2, born := p.2 } : MapEntry)).toArray
def MapIs (w : World) (b : Nat) (l : List (Int × Value)) : Prop := w.heap[b]? = some (.map (mE l) l.length)
theorem MapIs.lt {w : World} {b : Nat} {l : List (Int × Value)} (h : MapIs w b l) : b < w.heap.size := (Array.getElem?_eq_some_iff.1 h).1
theorem MapIs.keep {w w' : World} {b : Nat} {l : List (Int × Value)} (h : MapIs w b l) (hb : Below w.heap.size w w') : MapIs w' b l := (hb.block b h.lt).trans h
theorem mE_push (l : List (Int × Value)) (k : Int) (v : Value) : (mE l).push { key := .int .i64 k, val := v, born := l.length } = mE (l ++ [(k, v)]) := by
  simp [mE, List.zipIdx_append]
theorem findNow_no : ∀ (l : List MapEntry) (k : Int) (i : Nat), (∀ e ∈ l, ∃ m : Int, e.key = .int .i64 m ∧ m ≠ k) → Instr.findNow (.int .i64) (.int .i64 k) l i = some none
  | [], _, _, _ => rfl
  | e :: l, k, i, h => by
    obtain ⟨m, hm, hne⟩ := h e (by simp)
    have ih := findNow_no l k (i + 1) fun e he => h e (by simp [he])
    have hb : (k == m) = false := by simpa using Ne.symm hne
    unfold Instr.findNow
    simp [Instr.sameNow, hm, hb, ih]
theorem findNow_mE (l : List (Int × Value)) (k : Int) (hk : ∀ p ∈ l, p.1 ≠ k) (i : Nat) : Instr.findNow (.int .i64) (.int .i64 k) (mE l).toList i = some none := by
  refine findNow_no _ _ _ fun e he => ?_
  simp only [mE, List.mem_map] at he
  obtain ⟨p, hp, rfl⟩ := he
  exact ⟨_, rfl, hk p.1 (by have := List.mem_zipIdx' hp; rw [this.2]; exact List.getElem_mem _)⟩
theorem run_insertM {w : World} {b : Nat} {l : List (Int × Value)} (h : MapIs w b l) (k : Int) (v : Value) (hk : ∀ p ∈ l, p.1 ≠ k) :
    ∃ w', (Instr.mapUpdate 99 (.map (some b)) (.int .i64 k) v).run Tryz.prog w = .ok () w' ∧ MapIs w' b (l ++ [(k, v)]) ∧ Below b w w' ∧ w'.heap.size = w.heap.size ∧ ∀ k, k ≠ b → w'.heap[k]? = w.heap[k]? := by
  have hlt := h.lt
  have h3 : Tryz.prog.underlying 3 = some (.int .i64) := Tryz.underlying3
  have hK : MapKept.IsKey (.int .i64) (.int .i64 k) := rfl
  have hc := MapKept.run_checkKey (w := w) h3 hK false 9999
  have hf := MapKept.run_findKey (w := w) h3 (findNow_mE l k hk 0)
  have hs := MapKept.run_setObj_map (P := Tryz.prog) (.map (mE (l ++ [(k, v)])) (l.length + 1)) h
  have hg := MapKept.run_getObj_map (P := Tryz.prog) h
  refine ⟨w.putObj b (.map (mE (l ++ [(k, v)])) (l.length + 1)), ?_, ?_, ⟨rfl, rfl, rfl, by simp [World.putObj], fun k hk => World.putObj_heap_other (by omega)⟩, by simp [World.putObj], fun k hk => World.putObj_heap_other (by omega)⟩
  · rw [← mE_push] at hs ⊢
    unfold Instr.mapUpdate
    simp only [Sem.run_bind, run_underlying Tryz.underlying99, hg, hc, hf, Result.andThen]
    exact hs
  · have := World.putObj_heap_same (o := .map (mE (l ++ [(k, v)])) (l.length + 1)) hlt
    show _ = _
    rw [this]
    simp
theorem upon_run {α : Type} {P : Program} {o : Oper} {a : Act} {next : Act → World → Prop} {Q : Exit → Act → World → Prop} {x y : Result α} {f : α → World → Result Next} (h : x = y) (hk : o.upon P a next Q (y.andThen f)) : o.upon P a next Q (x.andThen f) := h ▸ hk
theorem mapNew (w : World) : MapIs (w.alloc (.map #[] 0)) w.heap.size [] := by
  show (w.heap.push _)[_]? = _
  simp [mE]

def cl1 (n b : Nat) : Value := .func (.func n) #[] #[.pointer (some ⟨b, 0, none⟩)]
theorem best_any (g : Fn) (ts : Array Value) (cs : Array Value) (w : World) : Calls Tryz.prog 115 #[.func g ts cs] w fun e w' => e = .returned (cl1 116 w.heap.size) ∧ w'.heap[w.heap.size]? = some (.cells #[.func g ts cs] 133 (0, 0)) ∧ Below w.heap.size w w' := by
  have hb := (Below.refl w.heap.size w).alloc (Nat.le_refl _) (.cells #[.func g ts cs] 133)
  have hn := heap_alloc_new w (.cells #[.func g ts cs] 133)
  go_enter Tryz.func115, Tryz.ntmps115
  go_wp2_with fail
  go_ret
  exact ⟨rfl, hn, hb⟩
theorem onBits_any (g : Fn) (ts : Array Value) (cs : Array Value) (w : World) : Calls Tryz.prog 99 #[.func g ts cs] w fun e w' => e = .returned (cl1 125 w.heap.size) ∧ w'.heap[w.heap.size]? = some (.cells #[.func g ts cs] 130 (0, 0)) ∧ Below w.heap.size w w' := by
  have hb := (Below.refl w.heap.size w).alloc (Nat.le_refl _) (.cells #[.func g ts cs] 130)
  have hn := heap_alloc_new w (.cells #[.func g ts cs] 130)
  go_enter Tryz.func99, Tryz.ntmps99
  go_wp2_with fail

  go_ret
  exact ⟨rfl, hn, hb⟩
theorem unless_any (g : Fn) (ts : Array Value) (cs : Array Value) (w : World) : Calls Tryz.prog 110 #[.func g ts cs] w fun e w' => e = .returned (cl1 125 (w.heap.size + 1)) ∧ w'.heap[w.heap.size]? = some (.cells #[.func g ts cs] 127 (0, 0)) ∧ w'.heap[w.heap.size + 1]? = some (.cells #[cl1 111 w.heap.size] 130 (0, 0)) ∧ Below w.heap.size w w' := by
  have hb := (Below.refl w.heap.size w).alloc (Nat.le_refl _) (.cells #[.func g ts cs] 127)
  have hn := heap_alloc_new w (.cells #[.func g ts cs] 127)
  have hz : (w.alloc (.cells #[.func g ts cs] 127)).heap.size = w.heap.size + 1 := by simp
  go_enter Tryz.func110, Tryz.ntmps110
  go_wp2_with fail
  refine (onBits_any _ _ _ _).mono ?_
  rintro e w1 ⟨rfl, h1, hb1⟩
  rw [hz] at h1 ⊢
  have h0 := (hb1.block _ (by rw [hz]; omega)).trans hn
  have hb2 := hb.trans (hb1.mono (by rw [hz]; omega))
  clear hb1 hn hz hb
  go_wp2_with fail
  go_ret
  exact ⟨rfl, h0, h1, hb2⟩
end Go.Proofs.YtjcdnaandbockaaGreat

namespace Go.Proofs.YtjcdnaandbockaaGreat
open Go.RowKit Go.Shelf
attribute [local go_sem] Oper.semAt_some
set_option maxRecDepth 100000
set_option maxHeartbeats 1000000

/-- a closure whose cell holds a function -/
def Holds (w : World) (b : Nat) (t : TypeId) (f : Value) : Prop := w.heap[b]? = some (.cells #[f] t (0, 0))
theorem Holds.lt {w : World} {b : Nat} {t : TypeId} {f : Value} (h : Holds w b t f) : b < w.heap.size := (Array.getElem?_eq_some_iff.1 h).1
theorem Holds.keep {w w' : World} {b : Nat} {t : TypeId} {f : Value} (h : Holds w b t f) (hb : Below w.heap.size w w') : Holds w' b t f := (hb.block b h.lt).trans h
theorem Holds.keepB {w w' : World} {b B : Nat} {t : TypeId} {f : Value} (h : Holds w b t f) (hb : Below B w w') (hB : b < B) : Holds w' b t f := (hb.block b hB).trans h

def HL (lo : Nat) (w : World) (b : Nat) (t : TypeId) (f : Value) : Prop := lo ≤ b ∧ Holds w b t f
theorem ofPairs_any (w : World) : Calls Tryz.prog 85 #[] w fun e w' => ∃ b p q, e = .returned (.map (some b)) ∧ w.heap.size ≤ b ∧ MapIs w' b [(10, cl1 116 p), (11, cl1 116 q)] ∧ HL w.heap.size w' p 133 (.func (.func 118) #[] #[]) ∧ HL w.heap.size w' q 133 (.func (.func 119) #[] #[]) ∧ Below w.heap.size w w' := by
  have hmm := @run_makeMap Tryz.prog
  have hM := mapNew w
  have hB : Below w.heap.size w (w.alloc (.map #[] 0)) := (Below.refl _ _).alloc (Nat.le_refl _) _
  have hz : (w.alloc (.map #[] 0)).heap.size = w.heap.size + 1 := by simp
  go_enter Tryz.func85, Tryz.ntmps85
  go_wp2_with fail
  generalize w.alloc (.map #[] 0) = w0 at *
  refine (best_any _ _ _ _).mono ?_
  rintro e w1 ⟨rfl, h1, hb1⟩
  have h1 : Holds w1 w0.heap.size 133 _ := h1
  have hM1 := hM.keep hb1
  have hB1 := hB.trans (hb1.mono (by omega))
  have hl1 := h1.lt
  clear hb1 hM hB
  go_wp2_with fail
  obtain ⟨w2, hr, hM2, hb2, hz2, hk2⟩ := run_insertM hM1 10 (cl1 116 (w.heap.size + 1)) (by simp)
  rw [hr]
  simp only [Result.andThen_ok]
  rw [Oper.upon_skip]
  have h2 : Holds w2 (w.heap.size + 1) 133 (.func (.func 118) #[] #[]) := by rw [hz] at h1; exact (hk2 _ (by omega)).trans h1
  have hB2 := hB1.trans hb2
  clear hr hk2 hb2 h1 hM1 hB1
  go_wp2_with fail
  refine (best_any _ _ _ _).mono ?_
  rintro e w3 ⟨rfl, h3, hb3⟩
  have h3 : Holds w3 w2.heap.size 133 _ := h3
  have hM3 := hM2.keep hb3
  have h4 := h2.keep hb3
  have hB3 := hB2.trans (hb3.mono (by omega))
  clear hb3 hM2 hB2 h2
  go_wp2_with fail
  obtain ⟨w4, hr, hM4, hb4, hz4, hk4⟩ := run_insertM hM3 11 (cl1 116 w1.heap.size) (by simp)
  rw [hr]
  simp only [Result.andThen_ok]
  rw [Oper.upon_skip]
  have h5 : Holds w4 w1.heap.size 133 (.func (.func 119) #[] #[]) := (by rw [hz2] at h3; exact (hk4 _ (by omega)).trans h3)
  have h6 : Holds w4 (w.heap.size + 1) 133 (.func (.func 118) #[] #[]) := (hk4 _ (by omega)).trans h4
  have hB4 := hB3.trans hb4
  clear hr hk4 hb4 h3 h4 hM3 hB3
  go_wp2_with fail
  go_ret
  exact ⟨_, _, _, rfl, Nat.le_refl _, hM4, ⟨by omega, h6⟩, ⟨by omega, h5⟩, hB4⟩
end Go.Proofs.YtjcdnaandbockaaGreat

namespace Go.Proofs.YtjcdnaandbockaaGreat
open Go.RowKit Go.Shelf
attribute [local go_sem] Oper.semAt_some
set_option maxRecDepth 100000
set_option maxHeartbeats 1000000

theorem ofReals_any (w : World) : Calls Tryz.prog 84 #[] w fun e w' => ∃ b p q r q' r', e = .returned (.map (some b)) ∧ w.heap.size ≤ b ∧ MapIs w' b [(1, cl1 125 p), (3, cl1 125 q), (4, cl1 125 r)] ∧ HL w.heap.size w' p 130 (.func (.func 112) #[] #[]) ∧
    HL w.heap.size w' q 130 (cl1 111 q') ∧ HL w.heap.size w' q' 127 (.func (.func 113) #[] #[]) ∧ HL w.heap.size w' r 130 (cl1 111 r') ∧ HL w.heap.size w' r' 127 (.func (.func 114) #[] #[]) ∧ Below w.heap.size w w' := by
  have hmm := @run_makeMap Tryz.prog
  have hM := mapNew w
  have hB : Below w.heap.size w (w.alloc (.map #[] 0)) := (Below.refl _ _).alloc (Nat.le_refl _) _
  have hz : (w.alloc (.map #[] 0)).heap.size = w.heap.size + 1 := by simp
  go_enter Tryz.func84, Tryz.ntmps84
  go_wp2_with fail
  generalize w.alloc (.map #[] 0) = w0 at *
  refine (onBits_any _ _ _ _).mono ?_
  rintro e w1 ⟨rfl, h1, hb1⟩
  have h1 : Holds w1 w0.heap.size 130 _ := h1
  have hM1 := hM.keep hb1
  have hB1 := hB.trans (hb1.mono (by omega))
  have hl1 := h1.lt
  clear hb1 hM hB
  go_wp2_with fail
  obtain ⟨w2, hr, hM2, hb2, hz2, hk2⟩ := run_insertM hM1 1 (cl1 125 (w.heap.size + 1)) (by simp)
  rw [hr]
  simp only [Result.andThen_ok]
  rw [Oper.upon_skip]
  have h2 : Holds w2 (w.heap.size + 1) 130 (.func (.func 112) #[] #[]) := by rw [hz] at h1; exact (hk2 _ (by omega)).trans h1
  have hB2 := hB1.trans hb2
  have hl2 : w.heap.size + 1 < w2.heap.size := h2.lt
  clear hr hk2 hb2 h1 hM1 hB1 hz2
  go_wp2_with fail
  refine (unless_any _ _ _ _).mono ?_
  rintro e w3 ⟨rfl, h3, h3', hb3⟩
  have h3 : Holds w3 w2.heap.size 127 _ := h3
  have h3' : Holds w3 (w2.heap.size + 1) 130 _ := h3'
  have hM3 := hM2.keep hb3
  have h4 := h2.keep hb3
  have hB3 := hB2.trans (hb3.mono (by omega))
  have hl3 := h3'.lt
  clear hb3 hM2 hB2 h2
  go_wp2_with fail
  obtain ⟨w4, hr, hM4, hb4, hz4, hk4⟩ := run_insertM hM3 3 (cl1 125 (w2.heap.size + 1)) (by simp)
  rw [hr]
  simp only [Result.andThen_ok]
  rw [Oper.upon_skip]
  have h5 : Holds w4 w2.heap.size 127 (.func (.func 113) #[] #[]) := (hk4 _ (by omega)).trans h3
  have h5' : Holds w4 (w2.heap.size + 1) 130 (cl1 111 w2.heap.size) := (hk4 _ (by omega)).trans h3'
  have h6 : Holds w4 (w.heap.size + 1) 130 (.func (.func 112) #[] #[]) := (hk4 _ (by omega)).trans h4
  have hB4 := hB3.trans hb4
  have hl4 := h5'.lt
  clear hr hk4 hb4 h3 h3' h4 hM3 hB3 hz4
  go_wp2_with fail
  refine (unless_any _ _ _ _).mono ?_
  rintro e w5 ⟨rfl, h7, h7', hb5⟩
  have h7 : Holds w5 w4.heap.size 127 _ := h7
  have h7' : Holds w5 (w4.heap.size + 1) 130 _ := h7'
  have hM5 := hM4.keep hb5
  have h8 := h5.keep hb5
  have h8' := h5'.keep hb5
  have h9 := h6.keep hb5
  have hB5 := hB4.trans (hb5.mono (by omega))
  clear hb5 hM4 hB4 h5 h5' h6
  go_wp2_with fail
  obtain ⟨w6, hr, hM6, hb6, hz6, hk6⟩ := run_insertM hM5 4 (cl1 125 (w4.heap.size + 1)) (by simp)
  rw [hr]
  simp only [Result.andThen_ok]
  rw [Oper.upon_skip]
  have k7 : Holds w6 w4.heap.size 127 (.func (.func 114) #[] #[]) := (hk6 _ (by omega)).trans h7
  have k7' : Holds w6 (w4.heap.size + 1) 130 (cl1 111 w4.heap.size) := (hk6 _ (by omega)).trans h7'
  have k8 : Holds w6 w2.heap.size 127 (.func (.func 113) #[] #[]) := (hk6 _ (by omega)).trans h8
  have k8' : Holds w6 (w2.heap.size + 1) 130 (cl1 111 w2.heap.size) := (hk6 _ (by omega)).trans h8'
  have k9 : Holds w6 (w.heap.size + 1) 130 (.func (.func 112) #[] #[]) := (hk6 _ (by omega)).trans h9
  have hB6 := hB5.trans hb6
  clear hr hk6 hb6 h7 h7' h8 h8' h9 hM5 hB5
  go_wp2_with fail
  go_ret
  exact ⟨_, _, _, _, _, _, rfl, Nat.le_refl _, hM6, ⟨by omega, k9⟩, ⟨by omega, k8'⟩, ⟨by omega, k8⟩, ⟨by omega, k7'⟩, ⟨by omega, k7⟩, hB6⟩
end Go.Proofs.YtjcdnaandbockaaGreat

namespace Go.Proofs.YtjcdnaandbockaaGreat
open Go.RowKit Go.Shelf
attribute [local go_sem] Oper.semAt_some
set_option maxRecDepth 100000
set_option maxHeartbeats 2000000

theorem truth_any (g : Fn) (ts : Array Value) (cs : Array Value) (w : World) : Calls Tryz.prog 98 #[.func g ts cs] w fun e w' => e = .returned (cl1 125 (w.heap.size + 1)) ∧ w'.heap[w.heap.size]? = some (.cells #[.func g ts cs] 128 (0, 0)) ∧ w'.heap[w.heap.size + 1]? = some (.cells #[cl1 100 w.heap.size] 130 (0, 0)) ∧ Below w.heap.size w w' := by
  have hb := (Below.refl w.heap.size w).alloc (Nat.le_refl _) (.cells #[.func g ts cs] 128)
  have hn := heap_alloc_new w (.cells #[.func g ts cs] 128)
  have hz : (w.alloc (.cells #[.func g ts cs] 128)).heap.size = w.heap.size + 1 := by simp
  go_enter Tryz.func98, Tryz.ntmps98
  go_wp2_with fail
  refine (onBits_any _ _ _ _).mono ?_
  rintro e w1 ⟨rfl, h1, hb1⟩
  rw [hz] at h1 ⊢
  have h0 := (hb1.block _ (by rw [hz]; omega)).trans hn
  have hb2 := hb.trans (hb1.mono (by rw [hz]; omega))
  clear hb1 hn hz hb
  go_wp2_with fail
  go_ret
  exact ⟨rfl, h0, h1, hb2⟩

def fn0 (n : Nat) : Value := .func (.func n) #[] #[]
theorem ofIntegers_any (w : World) : Calls Tryz.prog 83 #[] w fun e w' => ∃ b p1 p2 p3 p4 p5 p6 p7 p8 p9 q8 q9, e = .returned (.map (some b)) ∧ w.heap.size ≤ b ∧ MapIs w' b [(1, cl1 125 p1), (2, cl1 125 p2), (3, cl1 125 p3), (4, cl1 125 p4), (5, cl1 125 p5), (6, cl1 125 p6), (7, cl1 125 p7), (8, cl1 125 p8), (9, cl1 125 p9)] ∧ HL w.heap.size w' p1 130 (fn0 101) ∧ HL w.heap.size w' p2 130 (fn0 102) ∧ HL w.heap.size w' p3 130 (fn0 103) ∧ HL w.heap.size w' p4 130 (fn0 104) ∧ HL w.heap.size w' p5 130 (fn0 105) ∧ HL w.heap.size w' p6 130 (fn0 106) ∧ HL w.heap.size w' p7 130 (fn0 107) ∧ HL w.heap.size w' p8 130 (cl1 100 q8) ∧ HL w.heap.size w' q8 128 (fn0 108) ∧ HL w.heap.size w' p9 130 (cl1 100 q9) ∧ HL w.heap.size w' q9 128 (fn0 109) ∧ Below w.heap.size w w' := by
  have hmm := @run_makeMap Tryz.prog
  have hM0 := mapNew w
  have hB0 : Below w.heap.size w (w.alloc (.map #[] 0)) := (Below.refl _ _).alloc (Nat.le_refl _) _
  have hl0 : w.heap.size < (w.alloc (.map #[] 0)).heap.size := by simp
  have hz : (w.alloc (.map #[] 0)).heap.size = w.heap.size + 1 := by simp
  go_enter Tryz.func83, Tryz.ntmps83
  go_wp2_with fail
  generalize w.alloc (.map #[] 0) = w0 at *
  refine (onBits_any _ _ _ _).mono ?_
  rintro e w1 ⟨rfl, hn, hb⟩
  have g1 : Holds w1 w0.heap.size 130 (fn0 101) := hn
  rw [hz] at g1
  have hM1 := hM0.keep hb
  have hB1 := hB0.trans (hb.mono (by omega))
  have hl1 : (w.heap.size + 1) < w1.heap.size := g1.lt
  have hs1 : w0.heap.size ≤ w1.heap.size := hb.size
  clear hb hn hM0 hB0
  go_wp2_with fail
  obtain ⟨w2, hr, hM2, hb, hzz, hk⟩ := run_insertM hM1 1 (cl1 125 (w.heap.size + 1)) (by simp)
  rw [hr]
  simp only [Result.andThen_ok]
  rw [Oper.upon_skip]
  have g1 : Holds w2 (w.heap.size + 1) 130 (fn0 101) := (hk _ (by omega)).trans g1
  have hB2 := hB1.trans hb
  have hl2 : w1.heap.size ≤ w2.heap.size := by omega
  clear hr hk hb hzz hM1 hB1
  go_wp2_with fail
  refine (onBits_any _ _ _ _).mono ?_
  rintro e w3 ⟨rfl, hn, hb⟩
  have g2 : Holds w3 w2.heap.size 130 (fn0 102) := hn
  have hM3 := hM2.keep hb
  have hB3 := hB2.trans (hb.mono (by omega))
  have hl3 : w2.heap.size < w3.heap.size := g2.lt
  have hs3 : w2.heap.size ≤ w3.heap.size := hb.size
  have g1 := g1.keep hb
  clear hb hn hM2 hB2
  go_wp2_with fail
  obtain ⟨w4, hr, hM4, hb, hzz, hk⟩ := run_insertM hM3 2 (cl1 125 w2.heap.size) (by simp)
  rw [hr]
  simp only [Result.andThen_ok]
  rw [Oper.upon_skip]
  have g1 : Holds w4 (w.heap.size + 1) 130 (fn0 101) := (hk _ (by omega)).trans g1
  have g2 : Holds w4 w2.heap.size 130 (fn0 102) := (hk _ (by omega)).trans g2
  have hB4 := hB3.trans hb
  have hl4 : w3.heap.size ≤ w4.heap.size := by omega
  clear hr hk hb hzz hM3 hB3
  go_wp2_with fail
  refine (onBits_any _ _ _ _).mono ?_
  rintro e w5 ⟨rfl, hn, hb⟩
  have g3 : Holds w5 w4.heap.size 130 (fn0 103) := hn
  have hM5 := hM4.keep hb
  have hB5 := hB4.trans (hb.mono (by omega))
  have hl5 : w4.heap.size < w5.heap.size := g3.lt
  have hs5 : w4.heap.size ≤ w5.heap.size := hb.size
  have g1 := g1.keep hb
  have g2 := g2.keep hb
  clear hb hn hM4 hB4
  go_wp2_with fail
  obtain ⟨w6, hr, hM6, hb, hzz, hk⟩ := run_insertM hM5 3 (cl1 125 w4.heap.size) (by simp)
  rw [hr]
  simp only [Result.andThen_ok]
  rw [Oper.upon_skip]
  have g1 : Holds w6 (w.heap.size + 1) 130 (fn0 101) := (hk _ (by omega)).trans g1
  have g2 : Holds w6 w2.heap.size 130 (fn0 102) := (hk _ (by omega)).trans g2
  have g3 : Holds w6 w4.heap.size 130 (fn0 103) := (hk _ (by omega)).trans g3
  have hB6 := hB5.trans hb
  have hl6 : w5.heap.size ≤ w6.heap.size := by omega
  clear hr hk hb hzz hM5 hB5
  go_wp2_with fail
  refine (onBits_any _ _ _ _).mono ?_
  rintro e w7 ⟨rfl, hn, hb⟩
  have g4 : Holds w7 w6.heap.size 130 (fn0 104) := hn
  have hM7 := hM6.keep hb
  have hB7 := hB6.trans (hb.mono (by omega))
  have hl7 : w6.heap.size < w7.heap.size := g4.lt
  have hs7 : w6.heap.size ≤ w7.heap.size := hb.size
  have g1 := g1.keep hb
  have g2 := g2.keep hb
  have g3 := g3.keep hb
  clear hb hn hM6 hB6
  go_wp2_with fail
  obtain ⟨w8, hr, hM8, hb, hzz, hk⟩ := run_insertM hM7 4 (cl1 125 w6.heap.size) (by simp)
  rw [hr]
  simp only [Result.andThen_ok]
  rw [Oper.upon_skip]
  have g1 : Holds w8 (w.heap.size + 1) 130 (fn0 101) := (hk _ (by omega)).trans g1
  have g2 : Holds w8 w2.heap.size 130 (fn0 102) := (hk _ (by omega)).trans g2
  have g3 : Holds w8 w4.heap.size 130 (fn0 103) := (hk _ (by omega)).trans g3
  have g4 : Holds w8 w6.heap.size 130 (fn0 104) := (hk _ (by omega)).trans g4
  have hB8 := hB7.trans hb
  have hl8 : w7.heap.size ≤ w8.heap.size := by omega
  clear hr hk hb hzz hM7 hB7
  go_wp2_with fail
  refine (onBits_any _ _ _ _).mono ?_
  rintro e w9 ⟨rfl, hn, hb⟩
  have g5 : Holds w9 w8.heap.size 130 (fn0 105) := hn
  have hM9 := hM8.keep hb
  have hB9 := hB8.trans (hb.mono (by omega))
  have hl9 : w8.heap.size < w9.heap.size := g5.lt
  have hs9 : w8.heap.size ≤ w9.heap.size := hb.size
  have g1 := g1.keep hb
  have g2 := g2.keep hb
  have g3 := g3.keep hb
  have g4 := g4.keep hb
  clear hb hn hM8 hB8
  go_wp2_with fail
  obtain ⟨w10, hr, hM10, hb, hzz, hk⟩ := run_insertM hM9 5 (cl1 125 w8.heap.size) (by simp)
  rw [hr]
  simp only [Result.andThen_ok]
  rw [Oper.upon_skip]
  have g1 : Holds w10 (w.heap.size + 1) 130 (fn0 101) := (hk _ (by omega)).trans g1
  have g2 : Holds w10 w2.heap.size 130 (fn0 102) := (hk _ (by omega)).trans g2
  have g3 : Holds w10 w4.heap.size 130 (fn0 103) := (hk _ (by omega)).trans g3
  have g4 : Holds w10 w6.heap.size 130 (fn0 104) := (hk _ (by omega)).trans g4
  have g5 : Holds w10 w8.heap.size 130 (fn0 105) := (hk _ (by omega)).trans g5
  have hB10 := hB9.trans hb
  have hl10 : w9.heap.size ≤ w10.heap.size := by omega
  clear hr hk hb hzz hM9 hB9
  go_wp2_with fail
  refine (onBits_any _ _ _ _).mono ?_
  rintro e w11 ⟨rfl, hn, hb⟩
  have g6 : Holds w11 w10.heap.size 130 (fn0 106) := hn
  have hM11 := hM10.keep hb
  have hB11 := hB10.trans (hb.mono (by omega))
  have hl11 : w10.heap.size < w11.heap.size := g6.lt
  have hs11 : w10.heap.size ≤ w11.heap.size := hb.size
  have g1 := g1.keep hb
  have g2 := g2.keep hb
  have g3 := g3.keep hb
  have g4 := g4.keep hb
  have g5 := g5.keep hb
  clear hb hn hM10 hB10
  go_wp2_with fail
  obtain ⟨w12, hr, hM12, hb, hzz, hk⟩ := run_insertM hM11 6 (cl1 125 w10.heap.size) (by simp)
  rw [hr]
  simp only [Result.andThen_ok]
  rw [Oper.upon_skip]
  have g1 : Holds w12 (w.heap.size + 1) 130 (fn0 101) := (hk _ (by omega)).trans g1
  have g2 : Holds w12 w2.heap.size 130 (fn0 102) := (hk _ (by omega)).trans g2
  have g3 : Holds w12 w4.heap.size 130 (fn0 103) := (hk _ (by omega)).trans g3
  have g4 : Holds w12 w6.heap.size 130 (fn0 104) := (hk _ (by omega)).trans g4
  have g5 : Holds w12 w8.heap.size 130 (fn0 105) := (hk _ (by omega)).trans g5
  have g6 : Holds w12 w10.heap.size 130 (fn0 106) := (hk _ (by omega)).trans g6
  have hB12 := hB11.trans hb
  have hl12 : w11.heap.size ≤ w12.heap.size := by omega
  clear hr hk hb hzz hM11 hB11
  go_wp2_with fail
  refine (onBits_any _ _ _ _).mono ?_
  rintro e w13 ⟨rfl, hn, hb⟩
  have g7 : Holds w13 w12.heap.size 130 (fn0 107) := hn
  have hM13 := hM12.keep hb
  have hB13 := hB12.trans (hb.mono (by omega))
  have hl13 : w12.heap.size < w13.heap.size := g7.lt
  have hs13 : w12.heap.size ≤ w13.heap.size := hb.size
  have g1 := g1.keep hb
  have g2 := g2.keep hb
  have g3 := g3.keep hb
  have g4 := g4.keep hb
  have g5 := g5.keep hb
  have g6 := g6.keep hb
  clear hb hn hM12 hB12
  go_wp2_with fail
  obtain ⟨w14, hr, hM14, hb, hzz, hk⟩ := run_insertM hM13 7 (cl1 125 w12.heap.size) (by simp)
  rw [hr]
  simp only [Result.andThen_ok]
  rw [Oper.upon_skip]
  have g1 : Holds w14 (w.heap.size + 1) 130 (fn0 101) := (hk _ (by omega)).trans g1
  have g2 : Holds w14 w2.heap.size 130 (fn0 102) := (hk _ (by omega)).trans g2
  have g3 : Holds w14 w4.heap.size 130 (fn0 103) := (hk _ (by omega)).trans g3
  have g4 : Holds w14 w6.heap.size 130 (fn0 104) := (hk _ (by omega)).trans g4
  have g5 : Holds w14 w8.heap.size 130 (fn0 105) := (hk _ (by omega)).trans g5
  have g6 : Holds w14 w10.heap.size 130 (fn0 106) := (hk _ (by omega)).trans g6
  have g7 : Holds w14 w12.heap.size 130 (fn0 107) := (hk _ (by omega)).trans g7
  have hB14 := hB13.trans hb
  have hl14 : w13.heap.size ≤ w14.heap.size := by omega
  clear hr hk hb hzz hM13 hB13
  go_wp2_with fail
  refine (truth_any _ _ _ _).mono ?_
  rintro e w15 ⟨rfl, hn, hn', hb⟩
  have g8 : Holds w15 w14.heap.size 128 (fn0 108) := hn
  have g8' : Holds w15 (w14.heap.size + 1) 130 (cl1 100 w14.heap.size) := hn'
  have hM15 := hM14.keep hb
  have hB15 := hB14.trans (hb.mono (by omega))
  have hl15 : w14.heap.size < w15.heap.size := g8.lt
  have hs15 : w14.heap.size ≤ w15.heap.size := hb.size
  have g1 := g1.keep hb
  have g2 := g2.keep hb
  have g3 := g3.keep hb
  have g4 := g4.keep hb
  have g5 := g5.keep hb
  have g6 := g6.keep hb
  have g7 := g7.keep hb
  clear hb hn hn' hM14 hB14
  go_wp2_with fail
  obtain ⟨w16, hr, hM16, hb, hzz, hk⟩ := run_insertM hM15 8 (cl1 125 (w14.heap.size + 1)) (by simp)
  rw [hr]
  simp only [Result.andThen_ok]
  rw [Oper.upon_skip]
  have g1 : Holds w16 (w.heap.size + 1) 130 (fn0 101) := (hk _ (by omega)).trans g1
  have g2 : Holds w16 w2.heap.size 130 (fn0 102) := (hk _ (by omega)).trans g2
  have g3 : Holds w16 w4.heap.size 130 (fn0 103) := (hk _ (by omega)).trans g3
  have g4 : Holds w16 w6.heap.size 130 (fn0 104) := (hk _ (by omega)).trans g4
  have g5 : Holds w16 w8.heap.size 130 (fn0 105) := (hk _ (by omega)).trans g5
  have g6 : Holds w16 w10.heap.size 130 (fn0 106) := (hk _ (by omega)).trans g6
  have g7 : Holds w16 w12.heap.size 130 (fn0 107) := (hk _ (by omega)).trans g7
  have g8 : Holds w16 w14.heap.size 128 (fn0 108) := (hk _ (by omega)).trans g8
  have g8' : Holds w16 (w14.heap.size + 1) 130 (cl1 100 w14.heap.size) := (hk _ (by omega)).trans g8'
  have hB16 := hB15.trans hb
  have hl16 : w15.heap.size ≤ w16.heap.size := by omega
  clear hr hk hb hzz hM15 hB15
  go_wp2_with fail
  refine (truth_any _ _ _ _).mono ?_
  rintro e w17 ⟨rfl, hn, hn', hb⟩
  have g9 : Holds w17 w16.heap.size 128 (fn0 109) := hn
  have g9' : Holds w17 (w16.heap.size + 1) 130 (cl1 100 w16.heap.size) := hn'
  have hM17 := hM16.keep hb
  have hB17 := hB16.trans (hb.mono (by omega))
  have hl17 : w16.heap.size < w17.heap.size := g9.lt
  have hs17 : w16.heap.size ≤ w17.heap.size := hb.size
  have g1 := g1.keep hb
  have g2 := g2.keep hb
  have g3 := g3.keep hb
  have g4 := g4.keep hb
  have g5 := g5.keep hb
  have g6 := g6.keep hb
  have g7 := g7.keep hb
  have g8 := g8.keep hb
  have g8' := g8'.keep hb
  clear hb hn hn' hM16 hB16
  go_wp2_with fail
  obtain ⟨w18, hr, hM18, hb, hzz, hk⟩ := run_insertM hM17 9 (cl1 125 (w16.heap.size + 1)) (by simp)
  rw [hr]
  simp only [Result.andThen_ok]
  rw [Oper.upon_skip]
  have g1 : Holds w18 (w.heap.size + 1) 130 (fn0 101) := (hk _ (by omega)).trans g1
  have g2 : Holds w18 w2.heap.size 130 (fn0 102) := (hk _ (by omega)).trans g2
  have g3 : Holds w18 w4.heap.size 130 (fn0 103) := (hk _ (by omega)).trans g3
  have g4 : Holds w18 w6.heap.size 130 (fn0 104) := (hk _ (by omega)).trans g4
  have g5 : Holds w18 w8.heap.size 130 (fn0 105) := (hk _ (by omega)).trans g5
  have g6 : Holds w18 w10.heap.size 130 (fn0 106) := (hk _ (by omega)).trans g6
  have g7 : Holds w18 w12.heap.size 130 (fn0 107) := (hk _ (by omega)).trans g7
  have g8 : Holds w18 w14.heap.size 128 (fn0 108) := (hk _ (by omega)).trans g8
  have g8' : Holds w18 (w14.heap.size + 1) 130 (cl1 100 w14.heap.size) := (hk _ (by omega)).trans g8'
  have g9 : Holds w18 w16.heap.size 128 (fn0 109) := (hk _ (by omega)).trans g9
  have g9' : Holds w18 (w16.heap.size + 1) 130 (cl1 100 w16.heap.size) := (hk _ (by omega)).trans g9'
  have hB18 := hB17.trans hb
  have hl18 : w17.heap.size ≤ w18.heap.size := by omega
  clear hr hk hb hzz hM17 hB17
  go_wp2_with fail
  go_ret
  exact ⟨_, _, _, _, _, _, _, _, _, _, _, _, rfl, Nat.le_refl _, hM18, ⟨by omega, g1⟩, ⟨by omega, g2⟩, ⟨by omega, g3⟩, ⟨by omega, g4⟩, ⟨by omega, g5⟩, ⟨by omega, g6⟩, ⟨by omega, g7⟩, ⟨by omega, g8'⟩, ⟨by omega, g8⟩, ⟨by omega, g9'⟩, ⟨by omega, g9⟩, hB18⟩
end Go.Proofs.YtjcdnaandbockaaGreat

namespace Go.Proofs.YtjcdnaandbockaaGreat
open Go.RowKit Go.Shelf
attribute [local go_sem] Oper.semAt_some
set_option maxRecDepth 100000
set_option maxHeartbeats 1000000
theorem operations_no (kind : Int) (h : ¬ kind = 1) (h2 : ¬ kind = 2) (h3 : ¬ kind = 3) (w : World) : Calls Tryz.prog 59 #[.int .i64 kind] w fun e w' => e = .returned (.map none) ∧ w = w' := by
  go_enter Tryz.func59, Tryz.ntmps59
  go_wp2_with fail
  go_ret
  exact ⟨rfl, rfl⟩
theorem operations_1 {R : Ending → World → Prop} (w : World) (h : Calls Tryz.prog 83 #[] w fun e w' => (∃ v, e = .returned v) ∧ R e w') : Calls Tryz.prog 59 #[.int .i64 1] w R := by
  go_enter Tryz.func59, Tryz.ntmps59
  go_wp2_with fail
  refine h.mono ?_
  rintro e w1 ⟨⟨v, rfl⟩, hR⟩
  go_wp2_with fail
  exact hR
theorem operations_2 {R : Ending → World → Prop} (w : World) (h : Calls Tryz.prog 84 #[] w fun e w' => (∃ v, e = .returned v) ∧ R e w') : Calls Tryz.prog 59 #[.int .i64 2] w R := by
  go_enter Tryz.func59, Tryz.ntmps59
  go_wp2_with fail
  refine h.mono ?_
  rintro e w1 ⟨⟨v, rfl⟩, hR⟩
  go_wp2_with fail
  exact hR
theorem operations_3 {R : Ending → World → Prop} (w : World) (h : Calls Tryz.prog 85 #[] w fun e w' => (∃ v, e = .returned v) ∧ R e w') : Calls Tryz.prog 59 #[.int .i64 3] w R := by
  go_enter Tryz.func59, Tryz.ntmps59
  go_wp2_with fail
  refine h.mono ?_
  rintro e w1 ⟨⟨v, rfl⟩, hR⟩
  go_wp2_with fail
  exact hR
theorem eqlmap (b : Nat) (w : World) : (binOp .eql 99 (.map (some b)) (.map none)).run Tryz.prog w = .ok (.bool false) w := by
  obtain ⟨d, hd⟩ : ∃ d, Op.maxDepth = d + 1 := ⟨9999, rfl⟩
  simp [go_sem, binOp, Op.equal]
  rw [hd]
  simp [Op.equalIn, run_underlying Tryz.underlying99, Result.andThen]
end Go.Proofs.YtjcdnaandbockaaGreat

namespace Go.Proofs.YtjcdnaandbockaaGreat
open Go.RowKit Go.Shelf
attribute [local go_sem] Oper.semAt_some
set_option maxRecDepth 100000
set_option maxHeartbeats 1000000

theorem findNow_yes : ∀ (l : List (Int × Value)) (k : Int) (j i : Nat) (s : Nat), (h : j < l.length) → l[j].1 = k → (∀ m (hm : m < j), (l[m]'(by omega)).1 ≠ k) →
    Instr.findNow (.int .i64) (.int .i64 k) (((l.zipIdx s).map fun p => ({ key := .int .i64 p.1.1, val := p.1.2, born := p.2 } : MapEntry))) i = some (some (i + j, l[j].2))
  | [], _, _, _, _, h, _, _ => by simp at h
  | p :: l, k, 0, i, s, h, hk, _ => by
    have hb : (k == p.1) = true := by simpa using hk.symm
    simp only [List.zipIdx_cons, List.map_cons]
    unfold Instr.findNow
    simp [Instr.sameNow, hb]
  | p :: l, k, j + 1, i, s, h, hk, hn => by
    have h0 : (k == p.1) = false := by have := hn 0 (by omega); simpa using Ne.symm this
    have ih := findNow_yes l k j (i + 1) (s + 1) (by simpa using h) (by simpa using hk) (fun m hm => by have := hn (m + 1) (by omega); simpa using this)
    simp only [List.zipIdx_cons, List.map_cons]
    unfold Instr.findNow
    simp [Instr.sameNow, h0, ih]
    omega

theorem run_store3 {w : World} {g : Nat} (a b c x y z : Value) (hg : w.heap[g]? = some (.cells #[a, b, c] 67 (0, 0))) (h1 : [x, y, z].all (·.oneCell') = true) :
    (storeVar 67 ⟨g, 0, none⟩ (.agg #[x, y, z])).run Tryz.prog w = .ok () (w.setRow g #[x, y, z]) := by
  have hi : (Tryz.prog.info? 67).map (·.size) = some (#[x, y, z] : Array Value).size := by show _ = some 3; kernel_rfl
  have := run_store_part (P := Tryz.prog) (w := w) (g := g) (o := 0) (t := 67) 67 #[] #[a, b, c] #[] #[x, y, z] (by simpa using hg) rfl hi rfl (by simpa using h1)
  simpa using this
end Go.Proofs.YtjcdnaandbockaaGreat

namespace Go.Proofs.YtjcdnaandbockaaGreat
open Go.RowKit Go.Shelf
attribute [local go_sem] Oper.semAt_some
set_option maxRecDepth 100000
set_option maxHeartbeats 1000000
theorem lookup_yes {w : World} {b : Nat} {l : List (Int × Value)} (h : MapIs w b l) (k : Int) (j : Nat) (hj : j < l.length) (hk : l[j].1 = k) (hn : ∀ m (hm : m < j), (l[m]'(by omega)).1 ≠ k) :
    (Instr.lookup 99 (.map (some b)) (.int .i64 k) true).run Tryz.prog w = .ok (.tuple #[l[j].2, .bool true]) w := by
  have h3 : Tryz.prog.underlying 3 = some (.int .i64) := Tryz.underlying3
  have hK : MapKept.IsKey (.int .i64) (.int .i64 k) := rfl
  have hf := MapKept.run_findKey (w := w) h3 (show Instr.findNow (.int .i64) (.int .i64 k) (mE l).toList 0 = _ from findNow_yes l k j 0 0 hj hk hn)
  have hg := MapKept.run_getObj_map (P := Tryz.prog) h
  unfold Instr.lookup
  simp only [Sem.run_bind, run_underlying Tryz.underlying99, hg, hf, Result.andThen, Sem.run_pure, MapKept.run_checkKey (w := w) h3 hK _ 9999]
  simp [Sem.run_pure]
theorem lookup_no {w : World} {b : Nat} {l : List (Int × Value)} (h : MapIs w b l) (k : Int) (hn : ∀ p ∈ l, p.1 ≠ k) :
    (Instr.lookup 99 (.map (some b)) (.int .i64 k) true).run Tryz.prog w = .ok (.tuple #[.nilFunc, .bool false]) w := by
  have h3 : Tryz.prog.underlying 3 = some (.int .i64) := Tryz.underlying3
  have hK : MapKept.IsKey (.int .i64) (.int .i64 k) := rfl
  have hf := MapKept.run_findKey (w := w) h3 (findNow_mE l k hn 0)
  have hg := MapKept.run_getObj_map (P := Tryz.prog) h
  have hz : (zeroValue 65).run Tryz.prog w = .ok .nilFunc w := by simp [go_sem]
  unfold Instr.lookup
  simp only [Sem.run_bind, run_underlying Tryz.underlying99, hg, hf, Result.andThen, Sem.run_pure, MapKept.run_checkKey (w := w) h3 hK _ 9999, hz]
  simp [Sem.run_pure]
end Go.Proofs.YtjcdnaandbockaaGreat
