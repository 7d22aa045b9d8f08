import Derived.Test.YtoloiingodigpaaQG
namespace Go.Proofs.Ytoloiingodigpaa
open Go.RowKit Go.Shelf
attribute [local go_sem] Oper.semAt_some litE
set_option maxRecDepth 100000
set_option maxHeartbeats 2000000

theorem own_keepE {w w' : World} {B e : Nat} {v : Value} {n : Nat} {xs : List Value} (h : w.ownsRow B e 1 v n xs) (hb : Below w.heap.size w w') : w'.ownsRow B e 1 v n xs := by
  refine ⟨h.1, ?_⟩
  rcases h.2 with h2 | ⟨g, cap, cur, h1, h3, h4, h5⟩
  · exact .inl h2
  · exact .inr ⟨g, cap, cur, h1, h3, (hb.block g (Array.getElem?_eq_some_iff.1 h4).1).trans h4, h5⟩
theorem own_base {w : World} {B B' e : Nat} {v : Value} {n : Nat} {xs : List Value} (h : w.ownsRow B e 1 v n xs) (hb : B' ≤ B) : w.ownsRow B' e 1 v n xs := by
  refine ⟨h.1, ?_⟩
  rcases h.2 with h2 | ⟨g, cap, cur, h1, h3, h4⟩
  · exact .inl h2
  · exact .inr ⟨g, cap, cur, h1, Nat.le_trans hb h3, h4⟩
theorem own_setE {w : World} {B e : Nat} {v : Value} {n : Nat} {xs : List Value} (h : w.ownsRow B e 1 v n xs) (b o : Nat) (u : Value) (hb : b < B) : (w.setCell ⟨b, o, none⟩ u).ownsRow B e 1 v n xs := by
  refine ⟨h.1, ?_⟩
  rcases h.2 with h2 | ⟨g, cap, cur, h1, h3, h4, h5⟩
  · exact .inl h2
  · refine .inr ⟨g, cap, cur, h1, h3, ?_, h5⟩
    rw [heap_setCell_other _ _ _ _ (show g ≠ b by omega)]
    exact h4
theorem own_setRowE {w : World} {B e b t : Nat} {v : Value} {n : Nat} {xs : List Value} {cs : Array Value} {fr : Nat × Nat} (h : w.ownsRow B e 1 v n xs) (hr : w.heap[b]? = some (.cells cs t fr)) (ht : t ≠ e) (c : Array Value) : (w.setRow b c).ownsRow B e 1 v n xs := by
  refine ⟨h.1, ?_⟩
  rcases h.2 with h2 | ⟨g, cap, cur, h1, h3, h4, h5⟩
  · exact .inl h2
  · refine .inr ⟨g, cap, cur, h1, h3, ?_, h5⟩
    rw [Go.setRow_other w b g c (fun e0 => by subst e0; rw [hr] at h4; simp at h4; exact ht h4.2.1)]
    exact h4
theorem NewInts.setRow {B b t : Nat} {w : World} {v : Value} {l : List Int} {cs : Array Value} {fr : Nat × Nat} (h : NewInts B w v l) (hr : w.heap[b]? = some (.cells cs t fr)) (ht : t ≠ 3) (c : Array Value) : NewInts B (w.setRow b c) v l := ⟨own_setRowE h.own hr ht c, h.len⟩
theorem NewInts.keep {B : Nat} {w w' : World} {v : Value} {l : List Int} (h : NewInts B w v l) (hb : Below w.heap.size w w') : NewInts B w' v l := ⟨own_keepE h.own hb, h.len⟩
theorem NewInts.base {B B' : Nat} {w : World} {v : Value} {l : List Int} (h : NewInts B w v l) (hb : B' ≤ B) : NewInts B' w v l := ⟨own_base h.own hb, h.len⟩
theorem NewInts.set {B : Nat} {w : World} {v : Value} {l : List Int} (h : NewInts B w v l) (b o : Nat) (u : Value) (hb : b < B) : NewInts B (w.setCell ⟨b, o, none⟩ u) v l := ⟨own_setE h.own b o u hb, h.len⟩
theorem NewBools.keep {B : Nat} {w w' : World} {v : Value} {l : List Bool} (h : NewBools B w v l) (hb : Below w.heap.size w w') : NewBools B w' v l := ⟨own_keepE h.own hb, h.len⟩
theorem NewBools.setRow {B b t : Nat} {w : World} {v : Value} {l : List Bool} {cs : Array Value} {fr : Nat × Nat} (h : NewBools B w v l) (hr : w.heap[b]? = some (.cells cs t fr)) (ht : t ≠ 4) (c : Array Value) : NewBools B (w.setRow b c) v l := ⟨own_setRowE h.own hr ht c, h.len⟩
theorem NewBools.base {B B' : Nat} {w : World} {v : Value} {l : List Bool} (h : NewBools B w v l) (hb : B' ≤ B) : NewBools B' w v l := ⟨own_base h.own hb, h.len⟩
theorem NewBools.set {B : Nat} {w : World} {v : Value} {l : List Bool} (h : NewBools B w v l) (b o : Nat) (u : Value) (hb : b < B) : NewBools B (w.setCell ⟨b, o, none⟩ u) v l := ⟨own_setE h.own b o u hb, h.len⟩
theorem below_heapAt {B : Nat} {w w' : World} (h : Below B w w') {b : Nat} {o : Obj} (hx : b < B ∧ w.heap[b]? = some o) : w'.heap[b]? = some o := (h.block b hx.1).trans hx.2

theorem below_heapAt_set (w : World) (b : Nat) {x y : Value} (u v : Value) {t : TypeId} (h : w.heap[b]? = some (.cells #[x, y] t (0, 0))) : ((w.setCell ⟨b, 0, none⟩ u).setCell ⟨b, 1, none⟩ v).heap[b]? = some (.cells #[u, v] t (0, 0)) := by
  have h1 := heap_setCell_same w b 0 _ t u h
  have h2 := heap_setCell_same _ b 1 _ t v h1
  rw [h2]; rfl

theorem Try.info42 : (Try.prog.info? 42).map (·.size) = some 2 := by kernel_rfl
theorem loadGrid {w : World} {b : Nat} {x y : Value} {fr : Nat × Nat} (h : w.heap[b]? = some (.cells #[x, y] 42 fr)) : (loadVar 42 ⟨b, 0, none⟩).run Try.prog w = .ok (.agg #[x, y]) w :=
  run_loadVar_row w b 42 42 _ _ _ h Try.underlying42 rfl Try.info42

theorem only_any {w : World} {sa wa : Option Addr} {sizes : List Int} {wrap : List Bool} (h : Ints w sa sizes) (hw : Bools w wa wrap) (hl : wrap.length = sizes.length) (sc wc : Nat) (p : Nat → Bool) (g : Nat) (lb : Array Value) (eg : ∀ args w, (callFunc g args).run Try.prog w = .ok (.enter g args) w)
    (hp : ∀ i, i < sizes.length → ∀ W, Below w.heap.size w W → Calls Try.prog g (#[.int .i64 i] ++ lb) W fun e w' => e = .returned (.bool (p i)) ∧ W = w') :
    Calls Try.prog 92 #[.agg #[.slice sa sizes.length sc, .slice wa wrap.length wc], .func (.func g) #[] lb] w fun e w' => ∃ v1 v2, e = .returned (.agg #[v1, v2]) ∧ NewInts w.heap.size w' v1 (pickF p 0 sizes) ∧ NewBools w.heap.size w' v2 (pickB p 0 wrap) ∧ Below w.heap.size w w' := by
  have hlen := h.len
  have hwlen := hw.len
  have hb0 : Below w.heap.size w ((w.alloc (.cells #[.slice sa sizes.length sc, .slice wa wrap.length wc] 42)).alloc (.cells #[.slice none 0 0, .slice none 0 0] 42)) := ((Below.refl _ _).alloc (Nat.le_refl _) _).alloc (by simp) _
  have hz0 : ((w.alloc (.cells #[.slice sa sizes.length sc, .slice wa wrap.length wc] 42)).alloc (.cells #[.slice none 0 0, .slice none 0 0] 42)).heap.size = w.heap.size + 2 := by simp
  have k0 : ((w.alloc (.cells #[.slice sa sizes.length sc, .slice wa wrap.length wc] 42)).alloc (.cells #[.slice none 0 0, .slice none 0 0] 42)).cell? ⟨w.heap.size, 0, none⟩ = some (.slice sa sizes.length sc) := by simp
  have k1 : ((w.alloc (.cells #[.slice sa sizes.length sc, .slice wa wrap.length wc] 42)).alloc (.cells #[.slice none 0 0, .slice none 0 0] 42)).cell? ⟨w.heap.size, 1, none⟩ = some (.slice wa wrap.length wc) := by simp
  have hrb : ((w.alloc (.cells #[.slice sa sizes.length sc, .slice wa wrap.length wc] 42)).alloc (.cells #[.slice none 0 0, .slice none 0 0] 42)).heap[w.heap.size + 1]? = some (.cells #[.slice none 0 0, .slice none 0 0] 42 (0, 0)) := by
    have := heap_alloc_new (w.alloc (.cells #[.slice sa sizes.length sc, .slice wa wrap.length wc] 42)) (.cells #[.slice none 0 0, .slice none 0 0] 42)
    rwa [show (w.alloc (.cells #[.slice sa sizes.length sc, .slice wa wrap.length wc] 42)).heap.size = w.heap.size + 1 by simp] at this
  have callA : ∀ X, Below (w.heap.size + 2) ((w.alloc (.cells #[.slice sa sizes.length sc, .slice wa wrap.length wc] 42)).alloc (.cells #[.slice none 0 0, .slice none 0 0] 42)) X → Calls Try.prog 60 #[.slice sa sizes.length sc, .func (.func g) #[] lb] X fun e w' => ∃ a c, e = .returned (.slice a (pickF p 0 sizes).length c) ∧ NewInts X.heap.size w' (.slice a (pickF p 0 sizes).length c) (pickF p 0 sizes) ∧ Below X.heap.size X w' := fun X hX => by
    have hXw : Below w.heap.size w X := hb0.trans (hX.mono (by omega))
    refine (choose_any (h.keep hXw) sc p g lb eg (fun i hi W hW => hp i hi W (hXw.trans (hW.mono hXw.size)))).mono ?_
    rintro e w' ⟨v, rfl, h1, h2⟩
    obtain ⟨a, c, rfl, _⟩ := h1.ints
    exact ⟨a, c, rfl, h1, h2⟩
  have callB : ∀ X, Below (w.heap.size + 2) ((w.alloc (.cells #[.slice sa sizes.length sc, .slice wa wrap.length wc] 42)).alloc (.cells #[.slice none 0 0, .slice none 0 0] 42)) X → Calls Try.prog 114 #[.slice wa wrap.length wc, .func (.func g) #[] lb] X fun e w' => ∃ a c, e = .returned (.slice a (pickB p 0 wrap).length c) ∧ NewBools X.heap.size w' (.slice a (pickB p 0 wrap).length c) (pickB p 0 wrap) ∧ Below X.heap.size X w' := fun X hX => by
    have hXw : Below w.heap.size w X := hb0.trans (hX.mono (by omega))
    refine (choose_bool (hw.keep hXw) wc p g lb eg (fun i hi W hW => hp i (by omega) W (hXw.trans (hW.mono hXw.size)))).mono ?_
    rintro e w' ⟨v, rfl, h1, h2⟩
    obtain ⟨a, c, rfl, _⟩ := h1.bools
    exact ⟨a, c, rfl, h1, h2⟩
  have hpl := pickF_len p sizes 0
  have hpl2 := pickB_len p wrap 0
  clear hp h hw hl
  generalize pickF p 0 sizes = F at *
  generalize pickB p 0 wrap = G at *
  go_enter Try.func92, Try.ntmps92
  go_wp2_with fail
  generalize (w.alloc (.cells #[.slice sa sizes.length sc, .slice wa wrap.length wc] 42)).alloc (.cells #[.slice none 0 0, .slice none 0 0] 42) = W0 at *
  have D0 : Below (w.heap.size + 2) W0 W0.drew := (Below.refl _ _).drew
  have D4 : W0.drew.cell? ⟨w.heap.size, 0, none⟩ = some (.slice sa sizes.length sc) := k0
  have D5 : W0.drew.cell? ⟨w.heap.size, 1, none⟩ = some (.slice wa wrap.length wc) := k1
  have HRB : Hid (w.heap.size + 1 < w.heap.size + 2 ∧ W0.heap[w.heap.size + 1]? = some (.cells #[.slice none 0 0, .slice none 0 0] 42 (0, 0))) := ⟨by omega, hrb⟩
  have HB0 := Lib.hid hb0
  clear hrb hb0 k0 k1
  go_region_held3 (fun w' => w'.cell? ⟨w.heap.size, 0, none⟩ = some (.slice sa sizes.length sc) ∧ w'.cell? ⟨w.heap.size, 1, none⟩ = some (.slice wa wrap.length wc))
    (first
      | exact ⟨D4, D5⟩
      | exact ⟨by assumption, by assumption⟩
      | (refine ⟨?_, ?_⟩ <;> first | (simp; done) | (simp; assumption) | (simp [hC4, hD4]; done))
      | go_keep)
    ((first
      | (go_at_call 60; refine (callA _ (by assumption)).mono ?_; (first | (have _hh := hOB; rintro e w4 ⟨aI, cI, rfl, hOI, hbel4⟩; have hB4 := Below.trans (show Below (w.heap.size + 2) W0 _ by assumption) (hbel4.mono (by have _q := Below.size (show Below (w.heap.size + 2) W0 _ by assumption); omega)); have hC4 := kcell hbel4 (show _ = some (.slice sa sizes.length sc) by assumption); have hD4 := kcell hbel4 (show _ = some (.slice wa wrap.length wc) by assumption); replace hOB := hOB.keep hbel4; have hE0 := cell_of_row w4 (w.heap.size + 1) 0 _ _ _ (below_heapAt hB4 HRB.out); have hE1 := cell_of_row w4 (w.heap.size + 1) 1 _ _ _ (below_heapAt hB4 HRB.out); have hZ0 := frozen_of_row w4 (w.heap.size + 1) 0 _ _ (below_heapAt hB4 HRB.out); have hZ1 := frozen_of_row w4 (w.heap.size + 1) 1 _ _ (below_heapAt hB4 HRB.out); have hL4 := (Array.getElem?_eq_some_iff.1 (below_heapAt hB4 HRB.out)).1; have HR4 := Lib.hid (below_heapAt hB4 HRB.out); have hNI := NewInts.base (B' := w.heap.size + 2) hOI (by have _q := hbel3.size; have _r : W0.drew.heap.size = W0.heap.size := rfl; omega); have hNB := NewBools.base (B' := w.heap.size + 2) hOB (by have _q := hbel3.size; have _r : W0.drew.heap.size = W0.heap.size := rfl; omega)) | (rintro e w3 ⟨aI, cI, rfl, hOI, hbel3⟩; have hB3 := Below.trans (show Below (w.heap.size + 2) W0 _ by assumption) (hbel3.mono (by have _q := Below.size (show Below (w.heap.size + 2) W0 _ by assumption); omega)); have hC3 := kcell hbel3 (show _ = some (.slice sa sizes.length sc) by assumption); have hD3 := kcell hbel3 (show _ = some (.slice wa wrap.length wc) by assumption))))
      | (go_at_call 114; refine (callB _ (by assumption)).mono ?_; (first | (have _hh := hOI; rintro e w4 ⟨aB, cB, rfl, hOB, hbel4⟩; have hB4 := Below.trans (show Below (w.heap.size + 2) W0 _ by assumption) (hbel4.mono (by have _q := Below.size (show Below (w.heap.size + 2) W0 _ by assumption); omega)); have hC4 := kcell hbel4 (show _ = some (.slice sa sizes.length sc) by assumption); have hD4 := kcell hbel4 (show _ = some (.slice wa wrap.length wc) by assumption); replace hOI := hOI.keep hbel4; have hE0 := cell_of_row w4 (w.heap.size + 1) 0 _ _ _ (below_heapAt hB4 HRB.out); have hE1 := cell_of_row w4 (w.heap.size + 1) 1 _ _ _ (below_heapAt hB4 HRB.out); have hZ0 := frozen_of_row w4 (w.heap.size + 1) 0 _ _ (below_heapAt hB4 HRB.out); have hZ1 := frozen_of_row w4 (w.heap.size + 1) 1 _ _ (below_heapAt hB4 HRB.out); have hL4 := (Array.getElem?_eq_some_iff.1 (below_heapAt hB4 HRB.out)).1; have HR4 := Lib.hid (below_heapAt hB4 HRB.out); have hNI := NewInts.base (B' := w.heap.size + 2) hOI (by have _q := hbel3.size; have _r : W0.drew.heap.size = W0.heap.size := rfl; omega); have hNB := NewBools.base (B' := w.heap.size + 2) hOB (by have _q := hbel3.size; have _r : W0.drew.heap.size = W0.heap.size := rfl; omega)) | (rintro e w3 ⟨aB, cB, rfl, hOB, hbel3⟩; have hB3 := Below.trans (show Below (w.heap.size + 2) W0 _ by assumption) (hbel3.mono (by have _q := Below.size (show Below (w.heap.size + 2) W0 _ by assumption); omega)); have hC3 := kcell hbel3 (show _ = some (.slice sa sizes.length sc) by assumption); have hD3 := kcell hbel3 (show _ = some (.slice wa wrap.length wc) by assumption))))))
  all_goals (
    have FI := Lib.hid (((hNI.set (w.heap.size + 1) 0 (.slice aI F.length cI) (by omega)).set (w.heap.size + 1) 1 (.slice aB G.length cB) (by omega)).base (B' := w.heap.size) (by omega))
    have FB := Lib.hid (((hNB.set (w.heap.size + 1) 0 (.slice aI F.length cI) (by omega)).set (w.heap.size + 1) 1 (.slice aB G.length cB) (by omega)).base (B' := w.heap.size) (by omega))
    have FW := Lib.hid (((HB0.out.trans (hB4.mono (by omega))).setCell (p := ⟨w.heap.size + 1, 0, none⟩) (by show w.heap.size ≤ w.heap.size + 1; omega) (.slice aI F.length cI)).setCell (p := ⟨w.heap.size + 1, 1, none⟩) (by show w.heap.size ≤ w.heap.size + 1; omega) (.slice aB G.length cB))
    clear hNI hNB hOI hOB hB4 hB3 hbel3 hbel4 _hh
    go_wp2_with fail
    have R0 := (below_heapAt_set w4 (w.heap.size + 1) (.slice aI F.length cI) (.slice aB G.length cB) HR4.out)
    generalize (w4.setCell ⟨w.heap.size + 1, 0, none⟩ (.slice aI F.length cI)).setCell ⟨w.heap.size + 1, 1, none⟩ (.slice aB G.length cB) = Z at *
    have r0 := (cell_of_row Z (w.heap.size + 1) 0 _ _ _ R0).trans rfl
    have r1 := (cell_of_row Z (w.heap.size + 1) 1 _ _ _ R0).trans rfl
    refine bodyPost_ret (v := .agg #[.slice aI F.length cI, .slice aB G.length cB]) ?_ rfl ⟨_, _, rfl, FI.out, FB.out, FW.out⟩
    simp [results, loadGrid R0, Try.results92, asAddr])
end Go.Proofs.Ytoloiingodigpaa
