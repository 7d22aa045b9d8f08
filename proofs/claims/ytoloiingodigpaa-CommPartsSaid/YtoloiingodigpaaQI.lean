import Derived.Test.YtoloiingodigpaaQH
import Derived.Deep.DeepCutAuto
import Derived.Deep.DeepMust
import Derived.Test.YtoloiingodigpaaQR
namespace Go.Proofs.Ytoloiingodigpaa
open Go.RowKit Go.Shelf
attribute [local go_sem] Oper.semAt_some litE
set_option maxRecDepth 100000
set_option maxHeartbeats 2000000

def keptP (keep : List Bool) (i : Nat) : Bool := keep.getD i false
def leftP (keep : List Bool) (i : Nat) : Bool := !keep.getD i false
/-- the rank of a rank in a part of a grid -/
def partR (p : Nat → Bool) (sizes : List Int) (wrap : List Bool) (r : Nat) : Int := rankL 0 (pickF p 0 sizes) (pickB p 0 wrap) (pickF p 0 (coordsL sizes r))
def subE (sizes : List Int) (wl : Nat) (keep : List Bool) : Int := if countL sizes wl = 0 then 2 else if keep.length ≠ sizes.length then 26 else 0
def subRow (p : Nat → Bool) (sizes : List Int) (wrap : List Bool) : List Int := (List.range (countL sizes wrap.length).toNat).map (partR p sizes wrap)
def subS (sizes : List Int) (keep : List Bool) : List Int := if pickF (keptP keep) 0 sizes = [] then [1] else pickF (keptP keep) 0 sizes
def subW (sizes : List Int) (wrap keep : List Bool) : List Bool := if pickF (keptP keep) 0 sizes = [] then [false] else pickB (keptP keep) 0 wrap
/-- the first k values of f, then zeros: n in all -/
def rowF (f : Nat → Int) (n k : Nat) : List Int := (List.range n).map fun i => if i < k then f i else 0
theorem rowF_len (f : Nat → Int) (n k : Nat) : (rowF f n k).length = n := by simp [rowF]
theorem rowF_zero (f : Nat → Int) (n : Nat) : rowF f n 0 = List.replicate n 0 := by
  apply List.ext_getElem <;> simp [rowF]
theorem rowF_end (f : Nat → Int) (n : Nat) : rowF f n n = (List.range n).map f := by
  apply List.ext_getElem
  · simp [rowF]
  · intro i h1 h2
    simp [rowF] at h1 ⊢
    intro h3; omega
theorem rowF_set (f : Nat → Int) (n k : Nat) : (rowF f n k).set k (f k) = rowF f n (k + 1) := by
  apply List.ext_getElem
  · simp [rowF]
  · intro i h1 h2
    simp [rowF, List.getElem_set] at h1 ⊢
    by_cases e : k = i
    · subst e; simp
    · rw [if_neg e]
      by_cases h3 : i < k
      · rw [if_pos h3, if_pos (by omega)]
      · rw [if_neg h3, if_neg (by omega)]

theorem alloc3 (w : World) (o1 o2 o3 : Obj) : (((w.alloc o1).alloc o2).alloc o3).heap[w.heap.size]? = some o1 ∧ (((w.alloc o1).alloc o2).alloc o3).heap[w.heap.size + 1]? = some o2 ∧ (((w.alloc o1).alloc o2).alloc o3).heap[w.heap.size + 2]? = some o3 := by
  have z1 : (w.alloc o1).heap.size = w.heap.size + 1 := by simp
  have z2 : ((w.alloc o1).alloc o2).heap.size = w.heap.size + 2 := by simp
  refine ⟨?_, ?_, ?_⟩
  · rw [Below.heap_alloc _ _ _ (by omega), Below.heap_alloc _ _ _ (by omega)]
    exact heap_alloc_new w o1
  · rw [Below.heap_alloc _ _ _ (by omega)]
    have := heap_alloc_new (w.alloc o1) o2
    rwa [z1] at this
  · have := heap_alloc_new ((w.alloc o1).alloc o2) o3
    rwa [z2] at this

theorem below_after {X Y W : World} {B : Nat} (h : Below B X Y) (hb : Below Y.heap.size Y W) (hB : B ≤ X.heap.size) : Below B X W := h.trans (hb.mono (Nat.le_trans hB h.size))
theorem Sub_any {w : World} {sa wa ka : Option Addr} {sizes : List Int} {wrap keep : List Bool} (h : Ints w sa sizes) (hw : Bools w wa wrap) (hk : Bools w ka keep) (sc vc kc : Nat) :
    Calls Try.prog 44 #[.agg #[.slice sa sizes.length sc, .slice wa wrap.length vc], .slice ka keep.length kc] w fun e w' => ∃ v1 v2 v3 v4, e = .returned (.tuple #[.agg #[v1, v2], v3, v4, .int .i64 (subE sizes wrap.length keep)]) ∧
      NewInts w.heap.size w' v1 (if subE sizes wrap.length keep = 0 then subS sizes keep else []) ∧ NewBools w.heap.size w' v2 (if subE sizes wrap.length keep = 0 then subW sizes wrap keep else []) ∧
      NewInts w.heap.size w' v3 (if subE sizes wrap.length keep = 0 then subRow (leftP keep) sizes wrap else []) ∧ NewInts w.heap.size w' v4 (if subE sizes wrap.length keep = 0 then subRow (keptP keep) sizes wrap else []) ∧ Below w.heap.size w w' := by
  have hlen := h.len
  have hwlen := hw.len
  have hklen := hk.len
  have hb0 : Below w.heap.size w (((w.alloc (.cells #[.slice sa sizes.length sc, .slice wa wrap.length vc] 42)).alloc (.cells #[.slice ka keep.length kc] 40)).alloc (.cells #[.slice none 0 0, .slice none 0 0] 42)) := (((Below.refl _ _).alloc (Nat.le_refl _) _).alloc (by simp) _).alloc (by simp; omega) _
  have hz0 : (((w.alloc (.cells #[.slice sa sizes.length sc, .slice wa wrap.length vc] 42)).alloc (.cells #[.slice ka keep.length kc] 40)).alloc (.cells #[.slice none 0 0, .slice none 0 0] 42)).heap.size = w.heap.size + 3 := by simp
  obtain ⟨q0, q1, hrb⟩ := alloc3 w (.cells #[.slice sa sizes.length sc, .slice wa wrap.length vc] 42) (.cells #[.slice ka keep.length kc] 40) (.cells #[.slice none 0 0, .slice none 0 0] 42)
  have k0 : (((w.alloc (.cells #[.slice sa sizes.length sc, .slice wa wrap.length vc] 42)).alloc (.cells #[.slice ka keep.length kc] 40)).alloc (.cells #[.slice none 0 0, .slice none 0 0] 42)).cell? ⟨w.heap.size, 0, none⟩ = some (.slice sa sizes.length sc) := (cell_of_row _ _ 0 _ _ _ q0).trans rfl
  have k1 : (((w.alloc (.cells #[.slice sa sizes.length sc, .slice wa wrap.length vc] 42)).alloc (.cells #[.slice ka keep.length kc] 40)).alloc (.cells #[.slice none 0 0, .slice none 0 0] 42)).cell? ⟨w.heap.size, 1, none⟩ = some (.slice wa wrap.length vc) := (cell_of_row _ _ 1 _ _ _ q0).trans rfl
  have k2 : (((w.alloc (.cells #[.slice sa sizes.length sc, .slice wa wrap.length vc] 42)).alloc (.cells #[.slice ka keep.length kc] 40)).alloc (.cells #[.slice none 0 0, .slice none 0 0] 42)).cell? ⟨w.heap.size + 1, 0, none⟩ = some (.slice ka keep.length kc) := (cell_of_row _ _ 0 _ _ _ q1).trans rfl
  have hg := count_any (wa := wa) (h.keep hb0) sc wrap.length vc hwlen
  have H0 := Lib.hid h
  have W0' := Lib.hid hw
  have K0' := Lib.hid hk
  have HH := Lib.hid (h.keep hb0)
  have HW := Lib.hid (hw.keep hb0)
  have HK := Lib.hid (hk.keep hb0)
  by_cases hc : countL sizes wrap.length = 0
  · have HN : Hid (subE sizes wrap.length keep = 2) := by show _ = _; unfold subE; rw [if_pos hc]
    rw [HN.out]
    simp only [show ¬ (2 : Int) = 0 by decide, if_false]
    rw [hc] at hg
    clear h hw hk hc k1 HH HW HK
    go_enter Try.func44, Try.ntmps44
    go_wp2_with fail
    generalize ((w.alloc (.cells #[.slice sa sizes.length sc, .slice wa wrap.length vc] 42)).alloc (.cells #[.slice ka keep.length kc] 40)).alloc (.cells #[.slice none 0 0, .slice none 0 0] 42) = w0 at *
    refine hg.mono ?_
    rintro e X ⟨rfl, hb⟩
    have k0' := kcell hb k0
    have k2' := kcell hb k2
    have hrb' := below_heapAt hb ⟨by omega, hrb⟩
    have hE0 := (cell_of_row X (w.heap.size + 2) 0 _ _ _ hrb').trans rfl
    have hE1 := (cell_of_row X (w.heap.size + 2) 1 _ _ _ hrb').trans rfl
    have hZ0 := frozen_of_row X (w.heap.size + 2) 0 _ _ hrb'
    have hZ1 := frozen_of_row X (w.heap.size + 2) 1 _ _ hrb'
    have hL := (Array.getElem?_eq_some_iff.1 hrb').1
    have HB := Lib.hid (hb0.trans (hb.mono hb0.size))
    have HR := Lib.hid hrb'
    clear hg k0 k2 hrb hrb' hb hb0
    go_wp2_with fail
    have R0 := (below_heapAt_set X (w.heap.size + 2) (.slice none 0 0) (.slice none 0 0) HR.out)
    have FW := Lib.hid ((HB.out.setCell (p := ⟨w.heap.size + 2, 0, none⟩) (by show w.heap.size ≤ w.heap.size + 2; omega) (.slice none 0 0)).setCell (p := ⟨w.heap.size + 2, 1, none⟩) (by show w.heap.size ≤ w.heap.size + 2; omega) (.slice none 0 0))
    generalize (X.setCell ⟨w.heap.size + 2, 0, none⟩ (.slice none 0 0)).setCell ⟨w.heap.size + 2, 1, none⟩ (.slice none 0 0) = Z at *
    refine bodyPost_ret (v := .tuple #[.agg #[.slice none 0 0, .slice none 0 0], .slice none 0 0, .slice none 0 0, .int .i64 2]) ?_ rfl ⟨_, _, _, _, rfl, ⟨World.ownsRow_nil _ _ _ _, by simp⟩, ⟨World.ownsRow_nil _ _ _ _, by simp⟩, ⟨World.ownsRow_nil _ _ _ _, by simp⟩, ⟨World.ownsRow_nil _ _ _ _, by simp⟩, FW.out⟩
    simp [results, loadGrid R0, Try.results44, asAddr]
  · by_cases hkl : keep.length = sizes.length
    · have HN : Hid (subE sizes wrap.length keep = 0) := by show _ = _; unfold subE; rw [if_neg hc, if_neg (by omega)]
      rw [HN.out]
      simp only [if_true]
      have ok := countL_ok hc
      obtain ⟨N, hN⟩ := Int.eq_ofNat_of_zero_le (show 0 ≤ countL sizes wrap.length by have := ok.pos; omega)
      have hN1 : 1 ≤ N := by have := ok.pos; omega
      have hN64 : N ≤ 64 := by have := ok.le; omega
      have HCN : Hid (∀ p, subRow p sizes wrap = (List.range N).map (partR p sizes wrap)) := fun p => by unfold subRow; rw [hN]; simp
      rw [hN] at hg
      have hnb : ((N : Int) == 0) = false := beq_eq_false_iff_ne.2 (by omega)
      have hke : ((keep.length : Int) == (sizes.length : Int)) = true := by rw [hkl]; simp
      have HOK := Lib.hid ok
      have HKL := Lib.hid hkl
      have hkn : ((keep.length : Int) != (sizes.length : Int)) = false := by rw [hkl]; simp
      clear h hw hk hc hkl ok hN
      generalize countL sizes wrap.length = cn at *
      go_enter Try.func44, Try.ntmps44
      go_wp2_with fail
      generalize ((w.alloc (.cells #[.slice sa sizes.length sc, .slice wa wrap.length vc] 42)).alloc (.cells #[.slice ka keep.length kc] 40)).alloc (.cells #[.slice none 0 0, .slice none 0 0] 42) = w0 at *
      refine hg.mono ?_
      rintro e X ⟨rfl, hb⟩
      have k0' := kcell hb k0
      have k1' := kcell hb k1
      have k2' := kcell hb k2
      have hrb' := below_heapAt hb ⟨by omega, hrb⟩
      have HB := Lib.hid (hb0.trans (hb.mono hb0.size))
      have HR := Lib.hid hrb'
      have HR0 := Lib.hid (below_heapAt hb ⟨by omega, q0⟩)
      have HR1 := Lib.hid (below_heapAt hb ⟨by omega, q1⟩)
      have HI := Lib.hid (HH.out.keep hb)
      have HJ := Lib.hid (HW.out.keep hb)
      have HL := Lib.hid (HK.out.keep hb)
      have hzX : w.heap.size + 3 ≤ X.heap.size := by have := hb.size; omega
      clear hg k0 k1 k2 hrb hrb' hb hb0 HH HW HK hz0 q0 q1
      go_wp2_with fail
      have hpl : ∀ p, (pickF p 0 sizes).length = (pickB p 0 wrap).length := fun p => pick_len_eq p sizes wrap 0 HOK.out.wrap.symm
      have callK : ∀ Y, Below (w.heap.size + 3) X Y → Calls Try.prog 92 #[.agg #[.slice sa sizes.length sc, .slice wa wrap.length vc], .func (.func 90) #[] #[.pointer (some ⟨w.heap.size + 1, 0, none⟩)]] Y fun e w' => ∃ a c d f, e = .returned (.agg #[.slice a (pickF (keptP keep) 0 sizes).length c, .slice d (pickB (keptP keep) 0 wrap).length f]) ∧ NewInts Y.heap.size w' (.slice a (pickF (keptP keep) 0 sizes).length c) (pickF (keptP keep) 0 sizes) ∧ NewBools Y.heap.size w' (.slice d (pickB (keptP keep) 0 wrap).length f) (pickB (keptP keep) 0 wrap) ∧ Below Y.heap.size Y w' := fun Y hY => by
        have hwY : Below w.heap.size w Y := HB.out.trans (hY.mono (by omega))
        have hcY := (hY.cell (p := ⟨w.heap.size + 1, 0, none⟩) (by show w.heap.size + 1 < w.heap.size + 3; omega)).trans k2'
        refine (only_any (H0.out.keep hwY) (W0'.out.keep hwY) HOK.out.wrap sc vc (keptP keep) 90 #[.pointer (some ⟨w.heap.size + 1, 0, none⟩)] (enters_of Try.func90 (by kernel_rfl) rfl) (fun i hi W hW => kept_any (K0'.out.keep hwY) kc (w.heap.size + 1) hcY i (by rw [HKL.out]; exact hi) W hW)).mono ?_
        rintro e w' ⟨v1, v2, rfl, h1, h2, h3⟩
        obtain ⟨a, c, rfl, _⟩ := h1.ints
        obtain ⟨d, f, rfl, _⟩ := h2.bools
        exact ⟨a, c, d, f, rfl, h1, h2, h3⟩
      have callL : ∀ Y, Below (w.heap.size + 3) X Y → Calls Try.prog 92 #[.agg #[.slice sa sizes.length sc, .slice wa wrap.length vc], .func (.func 91) #[] #[.pointer (some ⟨w.heap.size + 1, 0, none⟩)]] Y fun e w' => ∃ a c d f, e = .returned (.agg #[.slice a (pickF (leftP keep) 0 sizes).length c, .slice d (pickB (leftP keep) 0 wrap).length f]) ∧ NewInts Y.heap.size w' (.slice a (pickF (leftP keep) 0 sizes).length c) (pickF (leftP keep) 0 sizes) ∧ NewBools Y.heap.size w' (.slice d (pickB (leftP keep) 0 wrap).length f) (pickB (leftP keep) 0 wrap) ∧ Below Y.heap.size Y w' := fun Y hY => by
        have hwY : Below w.heap.size w Y := HB.out.trans (hY.mono (by omega))
        have hcY := (hY.cell (p := ⟨w.heap.size + 1, 0, none⟩) (by show w.heap.size + 1 < w.heap.size + 3; omega)).trans k2'
        refine (only_any (H0.out.keep hwY) (W0'.out.keep hwY) HOK.out.wrap sc vc (leftP keep) 91 #[.pointer (some ⟨w.heap.size + 1, 0, none⟩)] (enters_of Try.func91 (by kernel_rfl) rfl) (fun i hi W hW => left_any (K0'.out.keep hwY) kc (w.heap.size + 1) hcY i (by rw [HKL.out]; exact hi) W hW)).mono ?_
        rintro e w' ⟨v1, v2, rfl, h1, h2, h3⟩
        obtain ⟨a, c, rfl, _⟩ := h1.ints
        obtain ⟨d, f, rfl, _⟩ := h2.bools
        exact ⟨a, c, d, f, rfl, h1, h2, h3⟩
      obtain ⟨PF, hPF⟩ : ∃ l, l = pickF (keptP keep) 0 sizes := ⟨_, rfl⟩
      obtain ⟨PB, hPB⟩ : ∃ l, l = pickB (keptP keep) 0 wrap := ⟨_, rfl⟩
      obtain ⟨LF, hLF⟩ : ∃ l, l = pickF (leftP keep) 0 sizes := ⟨_, rfl⟩
      obtain ⟨LB, hLB⟩ : ∃ l, l = pickB (leftP keep) 0 wrap := ⟨_, rfl⟩
      rw [← hPF, ← hPB] at callK
      rw [← hLF, ← hLB] at callL
      have HPF := Lib.hid hPF
      have HPB := Lib.hid hPB
      have HLF := Lib.hid hLF
      have HLB := Lib.hid hLB
      clear hPF hPB hLF hLB hpl
      have D4 : X.drew.cell? ⟨w.heap.size, 0, none⟩ = some (.slice sa sizes.length sc) := k0'
      have D5 : X.drew.cell? ⟨w.heap.size, 1, none⟩ = some (.slice wa wrap.length vc) := k1'
      have D6 : Below (w.heap.size + 3) X X.drew := (Below.refl _ X).drew
      go_cut [11, 12] (fun s11 s12 wx => ∃ (b11 b12 : Nat) (aK dK aL dL : Option Addr) (cK fK cL fL : Nat), s11 = .pointer (some ⟨b11, 0, none⟩) ∧ s12 = .pointer (some ⟨b12, 0, none⟩) ∧ w.heap.size + 3 ≤ b11 ∧ w.heap.size + 3 ≤ b12 ∧ b11 ≠ b12 ∧ Hid (wx.heap[b11]? = some (.cells #[.slice aK PF.length cK, .slice dK PB.length fK] 42 (0, 0))) ∧ Hid (wx.heap[b12]? = some (.cells #[.slice aL LF.length cL, .slice dL LB.length fL] 42 (0, 0))) ∧
        Hid (NewInts (w.heap.size + 3) wx (.slice aK PF.length cK) PF) ∧ Hid (NewBools (w.heap.size + 3) wx (.slice dK PB.length fK) PB) ∧ Hid (NewInts (w.heap.size + 3) wx (.slice aL LF.length cL) LF) ∧ Hid (NewBools (w.heap.size + 3) wx (.slice dL LB.length fL) LB) ∧ Hid (Below (w.heap.size + 3) X wx))
      case first =>
        refine (wpIn_wide (n := 0)).1 ?_
        refine region_det (by kernel_rfl) (I := fun listed a' w' => ∃ (b11 b12 : Nat) (aK dK aL dL : Option Addr) (cK fK cL fL : Nat), Hid (Below (w.heap.size + 3) X w') ∧
          Hid (listed.getD 2 false = true → NewInts (w.heap.size + 3) w' (.slice aK PF.length cK) PF ∧ NewBools (w.heap.size + 3) w' (.slice dK PB.length fK) PB) ∧
          Hid (listed.getD 5 false = true → NewInts (w.heap.size + 3) w' (.slice aL LF.length cL) LF ∧ NewBools (w.heap.size + 3) w' (.slice dL LB.length fL) LB) ∧
          Hid (listed.getD 6 false = true → w.heap.size + 3 ≤ b11 ∧ w'.heap[b11]? = some (.cells (if listed.getD 8 false = true then #[Value.slice aK PF.length cK, Value.slice dK PB.length fK] else #[Value.slice none 0 0, Value.slice none 0 0]) 42 (0, 0))) ∧
          Hid (listed.getD 7 false = true → w.heap.size + 3 ≤ b12 ∧ w'.heap[b12]? = some (.cells (if listed.getD 9 false = true then #[Value.slice aL LF.length cL, Value.slice dL LB.length fL] else #[Value.slice none 0 0, Value.slice none 0 0]) 42 (0, 0))) ∧
          Hid (listed.getD 6 false = true → listed.getD 7 false = true → b11 ≠ b12) ∧ Hid (listed.getD 8 false = true → listed.getD 2 false = true ∧ listed.getD 6 false = true) ∧ Hid (listed.getD 9 false = true → listed.getD 5 false = true ∧ listed.getD 7 false = true) ∧ a' = ⟨#[Value.agg #[Value.slice sa sizes.length sc, Value.slice wa wrap.length vc], Value.slice ka keep.length kc, Value.pointer (some ⟨w.heap.size, 0, none⟩), Value.pointer (some ⟨w.heap.size + 1, 0, none⟩), Value.pointer (some ⟨w.heap.size + 1 + 1, 0, none⟩), Value.slice none 0 0, Value.slice none 0 0, Value.int IntKind.i64 0, Value.int IntKind.i64 ↑N, Value.func (Fn.func 90) #[] #[Value.pointer (some ⟨w.heap.size + 1, 0, none⟩)], Value.func (Fn.func 91) #[] #[Value.pointer (some ⟨w.heap.size + 1, 0, none⟩)], if listed.getD 6 false = true then Value.pointer (some ⟨b11, 0, none⟩) else undef, if listed.getD 7 false = true then Value.pointer (some ⟨b12, 0, none⟩) else undef, undef, undef, undef, undef, Value.agg #[Value.slice sa sizes.length sc, Value.slice wa wrap.length vc], Value.int IntKind.i64 ↑N, Value.bool false, Value.int IntKind.i64 ↑N, Value.bool false, undef, Value.bool false, Value.slice ka keep.length kc, Value.int IntKind.i64 ↑keep.length, Value.pointer (some ⟨w.heap.size, 0, none⟩), Value.slice sa sizes.length sc, Value.int IntKind.i64 ↑sizes.length, Value.bool false, undef, Value.func (Fn.func 90) #[] #[Value.pointer (some ⟨w.heap.size + 1, 0, none⟩)], Value.func (Fn.func 91) #[] #[Value.pointer (some ⟨w.heap.size + 1, 0, none⟩)], if listed.getD 0 false = true then Value.agg #[Value.slice sa sizes.length sc, Value.slice wa wrap.length vc] else undef, if listed.getD 1 false = true then Value.func (Fn.func 90) #[] #[Value.pointer (some ⟨w.heap.size + 1, 0, none⟩)] else undef, if listed.getD 2 false = true then Value.agg #[Value.slice aK PF.length cK, Value.slice dK PB.length fK] else undef, if listed.getD 3 false = true then Value.agg #[Value.slice sa sizes.length sc, Value.slice wa wrap.length vc] else undef, if listed.getD 4 false = true then Value.func (Fn.func 91) #[] #[Value.pointer (some ⟨w.heap.size + 1, 0, none⟩)] else undef, if listed.getD 5 false = true then Value.agg #[Value.slice aL LF.length cL, Value.slice dL LB.length fL] else undef, undef, undef, undef, undef, undef, undef, undef, undef, undef, undef, undef, undef, undef, undef, undef, undef, undef, undef, undef, undef, undef, undef, undef, undef, undef, undef, undef, undef, undef, undef, undef, undef, undef, undef, undef, undef, undef, undef], []⟩) (hup_check (by kernel_rfl)) ?h0 ?step ?fin
        case h0 => exact ⟨0, 0, none, none, none, none, 0, 0, 0, 0, Lib.hid D6, fun h => by simp at h, fun h => by simp at h, fun h => by simp at h, fun h => by simp at h, fun h => by simp at h, fun h => by simp at h, fun h => by simp at h, rfl⟩
        case step =>
          intro listed a' w' i hs hbi hdep hi ⟨b11, b12, aK, dK, aL, dL, cK, fK, cL, fL, IB, IK, IL, I6, I7, I67, J8, J9, ha⟩
          obtain ⟨ls⟩ := listed
          match ls, hs with
          | [x0, x1, x2, x3, x4, x5, x6, x7, x8, x9], _ =>
          subst ha
          have hi' : i = 0 ∨ i = 1 ∨ i = 2 ∨ i = 3 ∨ i = 4 ∨ i = 5 ∨ i = 6 ∨ i = 7 ∨ i = 8 ∨ i = 9 := by simp at hi; omega
          have hrow : w'.heap[w.heap.size]? = some (.cells #[.slice sa sizes.length sc, .slice wa wrap.length vc] 42 (0, 0)) := below_heapAt IB.out ⟨by omega, HR0.out⟩
          have hsz : X.heap.size ≤ w'.heap.size := IB.out.size
          rcases hi' with rfl | rfl | rfl | rfl | rfl | rfl | rfl | rfl | rfl | rfl
          · refine wpOpIn_load_row rfl rfl 42 _ rfl w.heap.size rfl 42 _ _ _ hrow Try.underlying42 rfl Try.info42 ?_
            exact ⟨b11, b12, aK, dK, aL, dL, cK, fK, cL, fL, IB, IK, IL, I6, I7, I67, J8, J9, rfl⟩
          · refine wpOpIn_plain rfl rfl rfl ?_
            exact ⟨b11, b12, aK, dK, aL, dL, cK, fK, cL, fL, IB, IK, IL, I6, I7, I67, J8, J9, rfl⟩
          · obtain rfl : x0 = true := hdep _ rfl ⟨0, .data⟩ (by simp) rfl
            obtain rfl : x1 = true := hdep _ rfl ⟨1, .data⟩ (by simp) rfl
            obtain rfl : x2 = false := by simpa using hbi
            obtain rfl : x8 = false := Bool.eq_false_iff.2 fun h => by have := (J8.out h).1; cases this
            refine wpOpIn_call (args := #[Value.agg #[Value.slice sa sizes.length sc, Value.slice wa wrap.length vc], Value.func (Fn.func 90) #[] #[Value.pointer (some ⟨w.heap.size + 1, 0, none⟩)]]) rfl rfl (sem_call2 rfl rfl rfl (enters_of Try.func92 (by kernel_rfl) rfl)) (callK _ IB.out) ?_
            rintro e W ⟨aK, cK, dK, fK, rfl, n1, n2, hb⟩
            refine ⟨_, rfl, b11, b12, aK, dK, aL, dL, cK, fK, cL, fL, ?_, ?_, ?_, ?_, ?_, I67, (fun h => by cases h), J9, rfl⟩
            · exact below_after IB.out hb hzX
            · exact fun _ => ⟨n1.base (by omega), n2.base (by omega)⟩
            · exact fun h => ⟨(IL.out h).1.keep hb, (IL.out h).2.keep hb⟩
            · exact fun h => ⟨(I6.out h).1, (hb.block _ (Array.getElem?_eq_some_iff.1 (I6.out h).2).1).trans (I6.out h).2⟩
            · exact fun h => ⟨(I7.out h).1, (hb.block _ (Array.getElem?_eq_some_iff.1 (I7.out h).2).1).trans (I7.out h).2⟩
          · refine wpOpIn_load_row rfl rfl 42 _ rfl w.heap.size rfl 42 _ _ _ hrow Try.underlying42 rfl Try.info42 ?_
            exact ⟨b11, b12, aK, dK, aL, dL, cK, fK, cL, fL, IB, IK, IL, I6, I7, I67, J8, J9, rfl⟩
          · refine wpOpIn_plain rfl rfl rfl ?_
            exact ⟨b11, b12, aK, dK, aL, dL, cK, fK, cL, fL, IB, IK, IL, I6, I7, I67, J8, J9, rfl⟩
          · obtain rfl : x3 = true := hdep _ rfl ⟨3, .data⟩ (by simp) rfl
            obtain rfl : x4 = true := hdep _ rfl ⟨4, .data⟩ (by simp) rfl
            obtain rfl : x5 = false := by simpa using hbi
            obtain rfl : x9 = false := Bool.eq_false_iff.2 fun h => by have := (J9.out h).1; cases this
            refine wpOpIn_call (args := #[Value.agg #[Value.slice sa sizes.length sc, Value.slice wa wrap.length vc], Value.func (Fn.func 91) #[] #[Value.pointer (some ⟨w.heap.size + 1, 0, none⟩)]]) rfl rfl (sem_call2 rfl rfl rfl (enters_of Try.func92 (by kernel_rfl) rfl)) (callL _ IB.out) ?_
            rintro e W ⟨aL, cL, dL, fL, rfl, n1, n2, hb⟩
            refine ⟨_, rfl, b11, b12, aK, dK, aL, dL, cK, fK, cL, fL, ?_, ?_, ?_, ?_, ?_, I67, J8, (fun h => by cases h), rfl⟩
            · exact below_after IB.out hb hzX
            · exact fun h => ⟨(IK.out h).1.keep hb, (IK.out h).2.keep hb⟩
            · exact fun _ => ⟨n1.base (by omega), n2.base (by omega)⟩
            · exact fun h => ⟨(I6.out h).1, (hb.block _ (Array.getElem?_eq_some_iff.1 (I6.out h).2).1).trans (I6.out h).2⟩
            · exact fun h => ⟨(I7.out h).1, (hb.block _ (Array.getElem?_eq_some_iff.1 (I7.out h).2).1).trans (I7.out h).2⟩
          · obtain rfl : x6 = false := by simpa using hbi
            obtain rfl : x8 = false := Bool.eq_false_iff.2 fun h => by have := (J8.out h).2; cases this
            refine wpOpIn_plain (v := Value.pointer (some ⟨w'.heap.size, 0, none⟩)) (w' := w'.alloc (.cells #[Value.slice none 0 0, Value.slice none 0 0] 42)) rfl rfl (by simp [Oper.semAt, execOp, go_sem]) ?_
            have hal := (Below.refl w'.heap.size w').alloc (Nat.le_refl _) (.cells #[Value.slice none 0 0, Value.slice none 0 0] 42)
            refine ⟨w'.heap.size, b12, aK, dK, aL, dL, cK, fK, cL, fL, ?_, ?_, ?_, ?_, ?_, ?_, (fun h => by cases h), J9, rfl⟩
            · exact below_after IB.out hal hzX
            · exact fun h => ⟨(IK.out h).1.keep hal, (IK.out h).2.keep hal⟩
            · exact fun h => ⟨(IL.out h).1.keep hal, (IL.out h).2.keep hal⟩
            · exact fun _ => ⟨by omega, heap_alloc_new w' _⟩
            · exact fun h => ⟨(I7.out h).1, (hal.block _ (Array.getElem?_eq_some_iff.1 (I7.out h).2).1).trans (I7.out h).2⟩
            · exact fun _ h => by have := (Array.getElem?_eq_some_iff.1 (I7.out h).2).1; omega
          · obtain rfl : x7 = false := by simpa using hbi
            obtain rfl : x9 = false := Bool.eq_false_iff.2 fun h => by have := (J9.out h).2; cases this
            refine wpOpIn_plain (v := Value.pointer (some ⟨w'.heap.size, 0, none⟩)) (w' := w'.alloc (.cells #[Value.slice none 0 0, Value.slice none 0 0] 42)) rfl rfl (by simp [Oper.semAt, execOp, go_sem]) ?_
            have hal := (Below.refl w'.heap.size w').alloc (Nat.le_refl _) (.cells #[Value.slice none 0 0, Value.slice none 0 0] 42)
            refine ⟨b11, w'.heap.size, aK, dK, aL, dL, cK, fK, cL, fL, ?_, ?_, ?_, ?_, ?_, ?_, J8, (fun h => by cases h), rfl⟩
            · exact below_after IB.out hal hzX
            · exact fun h => ⟨(IK.out h).1.keep hal, (IK.out h).2.keep hal⟩
            · exact fun h => ⟨(IL.out h).1.keep hal, (IL.out h).2.keep hal⟩
            · exact fun h => ⟨(I6.out h).1, (hal.block _ (Array.getElem?_eq_some_iff.1 (I6.out h).2).1).trans (I6.out h).2⟩
            · exact fun _ => ⟨by omega, heap_alloc_new w' _⟩
            · exact fun h _ => by have := (Array.getElem?_eq_some_iff.1 (I6.out h).2).1; omega
          · obtain rfl : x2 = true := hdep _ rfl ⟨2, .data⟩ (by simp) rfl
            obtain rfl : x6 = true := hdep _ rfl ⟨6, .data⟩ (by simp) rfl
            obtain rfl : x8 = false := by simpa using hbi
            have hme : w'.heap[b11]? = some (.cells #[Value.slice none 0 0, Value.slice none 0 0] 42 (0, 0)) := (I6.out rfl).2
            have hbb := (I6.out rfl).1
            refine wpOpIn_store_row rfl rfl 42 _ _ rfl b11 #[Value.slice aK PF.length cK, Value.slice dK PB.length fK] rfl rfl 42 _ hme Try.info42 rfl (by simp [Value.oneCell']) ?_
            refine ⟨b11, b12, aK, dK, aL, dL, cK, fK, cL, fL, ?_, ?_, ?_, ?_, ?_, I67, ?_, ?_, rfl⟩
            · exact IB.out.trans (below_setRow hbb _)
            · exact fun h => ⟨(IK.out h).1.setRow hme (by decide) _, (IK.out h).2.setRow hme (by decide) _⟩
            · exact fun h => ⟨(IL.out h).1.setRow hme (by decide) _, (IL.out h).2.setRow hme (by decide) _⟩
            · exact fun _ => ⟨hbb, setRow_heap w' b11 _ _ 42 _ hme⟩
            · exact fun h => ⟨(I7.out h).1, (Go.setRow_other w' b11 b12 _ (Ne.symm (I67.out rfl h))).trans (I7.out h).2⟩
            · exact fun _ => ⟨rfl, rfl⟩
            · exact J9
          · obtain rfl : x5 = true := hdep _ rfl ⟨5, .data⟩ (by simp) rfl
            obtain rfl : x7 = true := hdep _ rfl ⟨7, .data⟩ (by simp) rfl
            obtain rfl : x9 = false := by simpa using hbi
            have hme : w'.heap[b12]? = some (.cells #[Value.slice none 0 0, Value.slice none 0 0] 42 (0, 0)) := (I7.out rfl).2
            have hbb := (I7.out rfl).1
            refine wpOpIn_store_row rfl rfl 42 _ _ rfl b12 #[Value.slice aL LF.length cL, Value.slice dL LB.length fL] rfl rfl 42 _ hme Try.info42 rfl (by simp [Value.oneCell']) ?_
            refine ⟨b11, b12, aK, dK, aL, dL, cK, fK, cL, fL, ?_, ?_, ?_, ?_, ?_, I67, ?_, ?_, rfl⟩
            · exact IB.out.trans (below_setRow hbb _)
            · exact fun h => ⟨(IK.out h).1.setRow hme (by decide) _, (IK.out h).2.setRow hme (by decide) _⟩
            · exact fun h => ⟨(IL.out h).1.setRow hme (by decide) _, (IL.out h).2.setRow hme (by decide) _⟩
            · exact fun h => ⟨(I6.out h).1, (Go.setRow_other w' b12 b11 _ (I67.out h rfl)).trans (I6.out h).2⟩
            · exact fun _ => ⟨hbb, setRow_heap w' b12 _ _ 42 _ hme⟩
            · exact J8
            · exact fun _ => ⟨rfl, rfl⟩
        case fin =>
          intro listed a' w' hs hall ⟨b11, b12, aK, dK, aL, dL, cK, fK, cL, fL, IB, IK, IL, I6, I7, I67, J8, J9, ha⟩
          obtain ⟨ls⟩ := listed
          match ls, hs with
          | [x0, x1, x2, x3, x4, x5, x6, x7, x8, x9], _ =>
          obtain rfl : x0 = true := hall 0 (by simp)
          obtain rfl : x1 = true := hall 1 (by simp)
          obtain rfl : x2 = true := hall 2 (by simp)
          obtain rfl : x3 = true := hall 3 (by simp)
          obtain rfl : x4 = true := hall 4 (by simp)
          obtain rfl : x5 = true := hall 5 (by simp)
          obtain rfl : x6 = true := hall 6 (by simp)
          obtain rfl : x7 = true := hall 7 (by simp)
          obtain rfl : x8 = true := hall 8 (by simp)
          obtain rfl : x9 = true := hall 9 (by simp)
          subst ha
          have ik := IK.out rfl
          have il := IL.out rfl
          have i6 := I6.out rfl
          have i7 := I7.out rfl
          dsimp only [Exit.then]
          go_wp2_with fail
          go_meet
          exact ⟨b11, b12, aK, dK, aL, dL, cK, fK, cL, fL, rfl, rfl, i6.1, i7.1, I67.out rfl rfl, i6.2, i7.2, ik.1, ik.2, il.1, il.2, IB⟩
      case rest =>
        obtain ⟨b11, b12, aK, dK, aL, dL, cK, fK, cL, fL, rfl, rfl, hb11, hb12, hne, R11, R12, NK, NKB, NL, NLB, HBX⟩ := hcut
        generalize wc = W9 at *
        have hz9 : X.heap.size ≤ W9.heap.size := HBX.out.size
        have HALL : Hid (∀ W, Below W9.heap.size W9 W → Below w.heap.size w W) := fun W hW => (HB.out.trans (HBX.out.mono (by omega))).trans (hW.mono (by omega))
        clear callK callL D4 D5 D6 k0' k1' k2'
        go_wp2_with fail
        go_cut [13, 14] (fun s13 s14 wx => ∃ b13 b14 : Nat, s13 = .slice (some ⟨b13, 0, none⟩) N N ∧ s14 = .slice (some ⟨b14, 0, none⟩) N N ∧ W9.heap.size ≤ b13 ∧ W9.heap.size ≤ b14 ∧ b13 ≠ b14 ∧ Hid (RowAt wx b13 (List.replicate N 0)) ∧ Hid (RowAt wx b14 (List.replicate N 0)) ∧ Hid (Below W9.heap.size W9 wx))
        case first =>
          have hmk : (Instr.makeSlice 22 (.int .i64 N) (.int .i64 N)).run Try.prog W9.drew = .ok (.slice (some ⟨W9.heap.size, 0, none⟩) N N) (W9.alloc (.cells (rowA (List.replicate N 0)) 3)).drew := make_ints N (by omega) W9.drew
          have hmk2 : (Instr.makeSlice 22 (.int .i64 N) (.int .i64 N)).run Try.prog (W9.alloc (.cells (rowA (List.replicate N 0)) 3)).drew = .ok (.slice (some ⟨W9.heap.size + 1, 0, none⟩) N N) ((W9.alloc (.cells (rowA (List.replicate N 0)) 3)).alloc (.cells (rowA (List.replicate N 0)) 3)).drew := by
            have := make_ints N (by omega) (W9.alloc (.cells (rowA (List.replicate N 0)) 3)).drew
            rwa [show (W9.alloc (.cells (rowA (List.replicate N 0)) 3)).drew.heap.size = W9.heap.size + 1 by show (W9.alloc (.cells (rowA (List.replicate N 0)) 3)).heap.size = _; simp] at this
          have q1 : RowAt ((W9.alloc (.cells (rowA (List.replicate N 0)) 3)).alloc (.cells (rowA (List.replicate N 0)) 3)).drew W9.heap.size (List.replicate N 0) := RowAt.alloc (heap_alloc_new W9 _) _
          have q2 : RowAt ((W9.alloc (.cells (rowA (List.replicate N 0)) 3)).alloc (.cells (rowA (List.replicate N 0)) 3)).drew (W9.heap.size + 1) (List.replicate N 0) := by
            have := heap_alloc_new (W9.alloc (.cells (rowA (List.replicate N 0)) 3)) (.cells (rowA (List.replicate N 0)) 3)
            rwa [show (W9.alloc (.cells (rowA (List.replicate N 0)) 3)).heap.size = W9.heap.size + 1 by simp] at this
          have q3 : Below W9.heap.size W9 ((W9.alloc (.cells (rowA (List.replicate N 0)) 3)).alloc (.cells (rowA (List.replicate N 0)) 3)).drew := (((Below.refl _ W9).alloc (Nat.le_refl _) _).alloc (by simp) _).drew
          have Q1 := Lib.hid q1
          have Q2 := Lib.hid q2
          have Q3 := Lib.hid q3
          clear q1 q2 q3
          go_region
          all_goals (
            go_wp2_with fail
            go_meet
            first
              | exact ⟨W9.heap.size, W9.heap.size + 1, rfl, rfl, by omega, by omega, by omega, Q1, Q2, Q3⟩
              | exact ⟨W9.heap.size + 1, W9.heap.size, rfl, rfl, by omega, by omega, by omega, Q2, Q1, Q3⟩)
        case rest =>
          obtain ⟨b13, b14, rfl, rfl, hb13, hb14, hne2, R13, R14, HB9⟩ := hcut
          generalize wc = W10 at *
          have RX0 := Lib.hid (below_heapAt HBX.out ⟨by omega, HR0.out⟩)
          have RX1 := Lib.hid (below_heapAt HBX.out ⟨by omega, HR1.out⟩)
          have RX2 := Lib.hid (below_heapAt HBX.out ⟨by omega, HR.out⟩)
          have hltb12 := (Array.getElem?_eq_some_iff.1 R12.out).1
          have hltb11 := (Array.getElem?_eq_some_iff.1 R11.out).1
          go_wp2_with fail
          go_loopw [15, 16, 44] (fun _ _ i wr => ∃ k : Nat, k ≤ N ∧ i = .int .i64 k ∧ Hid (RowAt wr b13 (rowF (partR (leftP keep) sizes wrap) N k)) ∧ Hid (RowAt wr b14 (rowF (partR (keptP keep) sizes wrap) N k)) ∧ Hid (Below W9.heap.size W9 wr)) (fun _ _ i _ => N - (intOf i).toNat)
          case atStart => exact ⟨0, Nat.zero_le _, rfl, by show RowAt _ _ _; rw [rowF_zero]; exact R13.out, by show RowAt _ _ _; rw [rowF_zero]; exact R14.out, HB9⟩
          case round =>
          obtain ⟨k, hk, rfl, S13, S14, HBr⟩ := hrel
          by_cases hlt : k < N
          · have hwr := HALL.out _ HBr.out
            have hzr := HBr.out.size
            have c0 := (cell_of_row wr w.heap.size 0 _ _ _ (below_heapAt HBr.out ⟨by omega, RX0.out⟩)).trans rfl
            have c1 := (cell_of_row wr w.heap.size 1 _ _ _ (below_heapAt HBr.out ⟨by omega, RX0.out⟩)).trans rfl
            have hco := coords_any (wa := wa) (H0.out.keep hwr) HOK.out.size sc wrap.length vc k (by omega) (by omega)
            have hl13 := S13.out.lt
            have hl14 := S14.out.lt
            go_wp2_with fail
            refine hco.mono ?_
            rintro e Y1 ⟨bA, rfl, hbA, hRA, hbY⟩
            have RAY1 := Lib.hid hRA
            have b13RY1 := Lib.hid (S13.out.keep hbY)
            have b14RY1 := Lib.hid (S14.out.keep hbY)
            have HBY1 := Lib.hid (HBr.out.trans (hbY.mono hzr))
            clear hco c0 c1 hRA hbY hwr S13 S14
            have hwYY1 := HALL.out Y1 HBY1.out
            have hszYY1 := HBY1.out.size
            have hpcY1 : pickF (leftP keep) 0 sizes = LF := HLF.out.symm
            have hpbY1 : pickB (leftP keep) 0 wrap = LB := HLB.out.symm
            have hl1Y1 : Hid ((pickF (leftP keep) 0 (coordsL sizes k)).length = LF.length) := by show _ = _; rw [← hpcY1]; exact pick_len_eq2 _ _ _ 0 (coordsL_len sizes k)
            have hl2Y1 : Hid (LB.length = LF.length) := by show _ = _; rw [← hpcY1, ← hpbY1]; exact (pick_len_eq _ _ _ 0 HOK.out.wrap.symm).symm
            have hszY1 : Hid (∀ s ∈ LF, 1 ≤ s ∧ s ≤ 64) := fun s hs => HOK.out.size s (pickF_mem (leftP keep) sizes 0 s (by rw [hpcY1]; exact hs))
            have hvalY1 : Hid (partR (leftP keep) sizes wrap k = rankL 0 LF LB (pickF (leftP keep) 0 (coordsL sizes k))) := by show _ = _; unfold partR; rw [hpcY1, hpbY1]
            have hkbY1 := (cell_of_row Y1 (w.heap.size + 1) 0 _ _ _ (below_heapAt HBY1.out ⟨by omega, RX1.out⟩)).trans rfl
            have hcalY1 : Calls Try.prog 60 #[.slice (some ⟨bA, 0, none⟩) sizes.length sizes.length, .func (.func 91) #[] #[.pointer (some ⟨w.heap.size + 1, 0, none⟩)]] Y1.drew fun e w' => ∃ a c, e = .returned (.slice a (pickF (leftP keep) 0 (coordsL sizes k)).length c) ∧ Ints w' a (pickF (leftP keep) 0 (coordsL sizes k)) ∧ Below Y1.heap.size Y1 w' := by
              have hq := choose_any (w := Y1.drew) ((show RowAt Y1.drew bA (coordsL sizes k) from RAY1.out).ints (by rw [coordsL_len]; exact hlen)) sizes.length (leftP keep) 91 #[.pointer (some ⟨w.heap.size + 1, 0, none⟩)] (enters_of Try.func91 (by kernel_rfl) rfl) (fun i hi W hW => left_any (w := Y1.drew) ((K0'.out.keep hwYY1).keep (Below.refl _ Y1).drew) kc (w.heap.size + 1) hkbY1 i (by rw [HKL.out]; rw [coordsL_len] at hi; exact hi) W hW)
              rw [coordsL_len] at hq
              refine hq.mono ?_
              rintro e w' ⟨v, rfl, h1, h2⟩
              obtain ⟨a, c, rfl, h3⟩ := h1.ints
              exact ⟨a, c, rfl, h3, (Below.refl _ Y1).drew.trans h2⟩
            have hrkY1 : ∀ V, Below Y1.heap.size Y1 V → ∀ aV cV, Ints V aV (pickF (leftP keep) 0 (coordsL sizes k)) → Calls Try.prog 81 #[.agg #[.slice aL LF.length cL, .slice dL LB.length fL], .slice aV (pickF (leftP keep) 0 (coordsL sizes k)).length cV] V fun e w' => e = .returned (.int .i64 (partR (leftP keep) sizes wrap k)) ∧ Below V.heap.size V w' := fun V hV aV cV hI => by
              obtain ⟨a1, c1, e1, i1⟩ := ((NL.out.keep HBY1.out).keep hV).ints
              obtain ⟨a2, c2, e2, i2⟩ := ((NLB.out.keep HBY1.out).keep hV).bools
              simp only [Value.slice.injEq] at e1 e2
              obtain ⟨rfl, _, rfl⟩ := e1
              obtain ⟨rfl, _, rfl⟩ := e2
              rw [hvalY1.out]
              exact rank_any i1 i2 hI hszY1.out hl2Y1.out hl1Y1.out _ _ _
            have hD0Y1 : Y1.cell? ⟨b12, 0, none⟩ = some (.slice aL LF.length cL) := (cell_of_row _ b12 0 _ _ _ (below_heapAt HBY1.out ⟨hltb12, R12.out⟩)).trans rfl
            have hD1Y1 : Y1.cell? ⟨b12, 1, none⟩ = some (.slice dL LB.length fL) := (cell_of_row _ b12 1 _ _ _ (below_heapAt HBY1.out ⟨hltb12, R12.out⟩)).trans rfl
            have hE0Y1 : Y1.drew.cell? ⟨b12, 0, none⟩ = some (.slice aL LF.length cL) := hD0Y1
            have hE1Y1 : Y1.drew.cell? ⟨b12, 1, none⟩ = some (.slice dL LB.length fL) := hD1Y1
            have hrlY1 : k < (rowF (partR (leftP keep) sizes wrap) N k).length := by rw [rowF_len]; exact hlt
            have hnAY1 : b12 ≠ b13 := by omega
            have hnBY1 : b13 ≠ b12 := by omega
            clear hpcY1 hpbY1 hkbY1
            go_wp2_with fail
            go_region_held3 (fun w' => w'.cell? ⟨b12, 0, none⟩ = some (.slice aL LF.length cL) ∧ w'.cell? ⟨b12, 1, none⟩ = some (.slice dL LB.length fL))
              (first
                | exact ⟨hE0Y1, hE1Y1⟩
                | exact ⟨by assumption, by assumption⟩
                | (refine ⟨?_, ?_⟩ <;> first | (simp; done) | (simp; assumption) | (simp [*]; done))
                | go_keep)
              ((first
                | (go_at_call 60; refine hcalY1.mono ?_; rintro e V5 ⟨aV, cV, rfl, hIV, hb5⟩; have hS0 := kcell hb5 hD0Y1; have hS1 := kcell hb5 hD1Y1)
                | (go_at_call 81; refine (hrkY1 _ hb5 _ _ hIV).mono ?_; rintro e V6 ⟨rfl, hb6⟩; have hb56 := hb5.trans (hb6.mono hb5.size); have hT0 := kcell hb56 hD0Y1; have hT1 := kcell hb56 hD1Y1; have hr13 := RowAt.keep b13RY1.out hb56; have hr14 := RowAt.keep b14RY1.out hb56; have hrA := RowAt.keep RAY1.out hb56; have hc13 := hr13.cell k hrlY1; have hfz13 := hr13.open_ k; have hlt13 := hr13.lt)))
            have b13RY2 := Lib.hid (hr13.set k (partR (leftP keep) sizes wrap k))
            rw [rowF_set] at b13RY2
            have b14RY2 := Lib.hid (hr14.set_other b13 k (.int .i64 (partR (leftP keep) sizes wrap k)) (Ne.symm hne2))
            have RAY2 := Lib.hid (hrA.set_other b13 k (.int .i64 (partR (leftP keep) sizes wrap k)) (by omega))
            have HBY2 := Lib.hid ((HBY1.out.trans (hb56.mono HBY1.out.size)).setCell (p := ⟨b13, k, none⟩) (by show W9.heap.size ≤ b13; omega) (.int .i64 (partR (leftP keep) sizes wrap k)))
            have hlzY2 : V6.heap.size ≤ (V6.setCell ⟨b13, k, none⟩ (.int .i64 (partR (leftP keep) sizes wrap k))).heap.size := by simp
            generalize V6.setCell ⟨b13, k, none⟩ (.int .i64 (partR (leftP keep) sizes wrap k)) = Y2 at *
            clear hcalY1 hrkY1 hD0Y1 hD1Y1 hE0Y1 hE1Y1 hrlY1 hIV hb5 hb6 hb56 hS0 hS1 hT0 hT1 hr13 hr14 hrA hc13 hfz13 hlt13 hvalY1 hl1Y1 hl2Y1 hszY1 HBY1 RAY1 b13RY1 b14RY1
            have hwYY2 := HALL.out Y2 HBY2.out
            have hszYY2 := HBY2.out.size
            have hpcY2 : pickF (keptP keep) 0 sizes = PF := HPF.out.symm
            have hpbY2 : pickB (keptP keep) 0 wrap = PB := HPB.out.symm
            have hl1Y2 : Hid ((pickF (keptP keep) 0 (coordsL sizes k)).length = PF.length) := by show _ = _; rw [← hpcY2]; exact pick_len_eq2 _ _ _ 0 (coordsL_len sizes k)
            have hl2Y2 : Hid (PB.length = PF.length) := by show _ = _; rw [← hpcY2, ← hpbY2]; exact (pick_len_eq _ _ _ 0 HOK.out.wrap.symm).symm
            have hszY2 : Hid (∀ s ∈ PF, 1 ≤ s ∧ s ≤ 64) := fun s hs => HOK.out.size s (pickF_mem (keptP keep) sizes 0 s (by rw [hpcY2]; exact hs))
            have hvalY2 : Hid (partR (keptP keep) sizes wrap k = rankL 0 PF PB (pickF (keptP keep) 0 (coordsL sizes k))) := by show _ = _; unfold partR; rw [hpcY2, hpbY2]
            have hkbY2 := (cell_of_row Y2 (w.heap.size + 1) 0 _ _ _ (below_heapAt HBY2.out ⟨by omega, RX1.out⟩)).trans rfl
            have hcalY2 : Calls Try.prog 60 #[.slice (some ⟨bA, 0, none⟩) sizes.length sizes.length, .func (.func 90) #[] #[.pointer (some ⟨w.heap.size + 1, 0, none⟩)]] Y2.drew fun e w' => ∃ a c, e = .returned (.slice a (pickF (keptP keep) 0 (coordsL sizes k)).length c) ∧ Ints w' a (pickF (keptP keep) 0 (coordsL sizes k)) ∧ Below Y2.heap.size Y2 w' := by
              have hq := choose_any (w := Y2.drew) ((show RowAt Y2.drew bA (coordsL sizes k) from RAY2.out).ints (by rw [coordsL_len]; exact hlen)) sizes.length (keptP keep) 90 #[.pointer (some ⟨w.heap.size + 1, 0, none⟩)] (enters_of Try.func90 (by kernel_rfl) rfl) (fun i hi W hW => kept_any (w := Y2.drew) ((K0'.out.keep hwYY2).keep (Below.refl _ Y2).drew) kc (w.heap.size + 1) hkbY2 i (by rw [HKL.out]; rw [coordsL_len] at hi; exact hi) W hW)
              rw [coordsL_len] at hq
              refine hq.mono ?_
              rintro e w' ⟨v, rfl, h1, h2⟩
              obtain ⟨a, c, rfl, h3⟩ := h1.ints
              exact ⟨a, c, rfl, h3, (Below.refl _ Y2).drew.trans h2⟩
            have hrkY2 : ∀ V, Below Y2.heap.size Y2 V → ∀ aV cV, Ints V aV (pickF (keptP keep) 0 (coordsL sizes k)) → Calls Try.prog 81 #[.agg #[.slice aK PF.length cK, .slice dK PB.length fK], .slice aV (pickF (keptP keep) 0 (coordsL sizes k)).length cV] V fun e w' => e = .returned (.int .i64 (partR (keptP keep) sizes wrap k)) ∧ Below V.heap.size V w' := fun V hV aV cV hI => by
              obtain ⟨a1, c1, e1, i1⟩ := ((NK.out.keep HBY2.out).keep hV).ints
              obtain ⟨a2, c2, e2, i2⟩ := ((NKB.out.keep HBY2.out).keep hV).bools
              simp only [Value.slice.injEq] at e1 e2
              obtain ⟨rfl, _, rfl⟩ := e1
              obtain ⟨rfl, _, rfl⟩ := e2
              rw [hvalY2.out]
              exact rank_any i1 i2 hI hszY2.out hl2Y2.out hl1Y2.out _ _ _
            have hD0Y2 : Y2.cell? ⟨b11, 0, none⟩ = some (.slice aK PF.length cK) := (cell_of_row _ b11 0 _ _ _ (below_heapAt HBY2.out ⟨hltb11, R11.out⟩)).trans rfl
            have hD1Y2 : Y2.cell? ⟨b11, 1, none⟩ = some (.slice dK PB.length fK) := (cell_of_row _ b11 1 _ _ _ (below_heapAt HBY2.out ⟨hltb11, R11.out⟩)).trans rfl
            have hE0Y2 : Y2.drew.cell? ⟨b11, 0, none⟩ = some (.slice aK PF.length cK) := hD0Y2
            have hE1Y2 : Y2.drew.cell? ⟨b11, 1, none⟩ = some (.slice dK PB.length fK) := hD1Y2
            have hrlY2 : k < (rowF (partR (keptP keep) sizes wrap) N k).length := by rw [rowF_len]; exact hlt
            have hnAY2 : b11 ≠ b14 := by omega
            have hnBY2 : b14 ≠ b11 := by omega
            clear hpcY2 hpbY2 hkbY2
            go_wp2_with fail
            go_region_held3 (fun w' => w'.cell? ⟨b11, 0, none⟩ = some (.slice aK PF.length cK) ∧ w'.cell? ⟨b11, 1, none⟩ = some (.slice dK PB.length fK))
              (first
                | exact ⟨hE0Y2, hE1Y2⟩
                | exact ⟨by assumption, by assumption⟩
                | (refine ⟨?_, ?_⟩ <;> first | (simp; done) | (simp; assumption) | (simp [*]; done))
                | go_keep)
              ((first
                | (go_at_call 60; refine hcalY2.mono ?_; rintro e V5 ⟨aV, cV, rfl, hIV, hb5⟩; have hS0 := kcell hb5 hD0Y2; have hS1 := kcell hb5 hD1Y2)
                | (go_at_call 81; refine (hrkY2 _ hb5 _ _ hIV).mono ?_; rintro e V6 ⟨rfl, hb6⟩; have hb56 := hb5.trans (hb6.mono hb5.size); have hT0 := kcell hb56 hD0Y2; have hT1 := kcell hb56 hD1Y2; have hr13 := RowAt.keep b14RY2.out hb56; have hr14 := RowAt.keep b13RY2.out hb56; have hrA := RowAt.keep RAY2.out hb56; have hc13 := hr13.cell k hrlY2; have hfz13 := hr13.open_ k; have hlt13 := hr13.lt)))
            have b14RY3 := Lib.hid (hr13.set k (partR (keptP keep) sizes wrap k))
            rw [rowF_set] at b14RY3
            have b13RY3 := Lib.hid (hr14.set_other b14 k (.int .i64 (partR (keptP keep) sizes wrap k)) hne2)
            have RAY3 := Lib.hid (hrA.set_other b14 k (.int .i64 (partR (keptP keep) sizes wrap k)) (by omega))
            have HBY3 := Lib.hid ((HBY2.out.trans (hb56.mono HBY2.out.size)).setCell (p := ⟨b14, k, none⟩) (by show W9.heap.size ≤ b14; omega) (.int .i64 (partR (keptP keep) sizes wrap k)))
            have hlzY3 : V6.heap.size ≤ (V6.setCell ⟨b14, k, none⟩ (.int .i64 (partR (keptP keep) sizes wrap k))).heap.size := by simp
            generalize V6.setCell ⟨b14, k, none⟩ (.int .i64 (partR (keptP keep) sizes wrap k)) = Y3 at *
            clear hcalY2 hrkY2 hD0Y2 hD1Y2 hE0Y2 hE1Y2 hrlY2 hIV hb5 hb6 hb56 hS0 hS1 hT0 hT1 hr13 hr14 hrA hc13 hfz13 hlt13 hvalY2 hl1Y2 hl2Y2 hszY2 HBY2 RAY2 b14RY2 b13RY2
            go_wp2_with fail
            go_roundw
            case rel => exact ⟨k + 1, by omega, by go_num, b13RY3, b14RY3, HBY3⟩
            case measure => simp [intOf]; omega
          · have hkN : k = N := by omega
            subst hkN
            have hwr := HALL.out _ HBr.out
            have hzr := HBr.out.size
            rw [rowF_end] at S13 S14
            rw [← HCN.out] at S13 S14
            have hrw := below_heapAt HBr.out ⟨by omega, RX2.out⟩
            have hrb := below_heapAt HBr.out ⟨hltb11, R11.out⟩
            have HRW := Lib.hid hrw
            have HRB := Lib.hid hrb
            have kb0 := (cell_of_row _ b11 0 _ _ _ hrb).trans rfl
            have kb1 := (cell_of_row _ b11 1 _ _ _ hrb).trans rfl
            have fb0 := frozen_of_row _ b11 0 _ _ hrb
            have fb1 := frozen_of_row _ b11 1 _ _ hrb
            have lb := (Array.getElem?_eq_some_iff.1 hrb).1
            have kw0 := (cell_of_row _ (w.heap.size + 1 + 1) 0 _ _ _ hrw).trans rfl
            have kw1 := (cell_of_row _ (w.heap.size + 1 + 1) 1 _ _ _ hrw).trans rfl
            have fw0 := frozen_of_row _ (w.heap.size + 1 + 1) 0 _ _ hrw
            have fw1 := frozen_of_row _ (w.heap.size + 1 + 1) 1 _ _ hrw
            have lw := (Array.getElem?_eq_some_iff.1 hrw).1
            have hne3 : b11 ≠ w.heap.size + 1 + 1 := by omega
            have hne4 : w.heap.size + 1 + 1 ≠ b11 := by omega
            have n13 := Lib.hid (S13.out.own (B := w.heap.size + 3) (by omega) (by rw [HCN.out]; simp; omega))
            have n14 := Lib.hid (S14.out.own (B := w.heap.size + 3) (by omega) (by rw [HCN.out]; simp; omega))
            have HLR : Hid (∀ p, (subRow p sizes wrap).length = k) := fun p => by rw [HCN.out]; simp
            clear hrw hrb
            by_cases hPF : PF = []
            · have HPF0 := Lib.hid hPF
              have HS : Hid (subS sizes keep = [1]) := by show _ = _; unfold subS; rw [← HPF.out, if_pos hPF]
              have HSW : Hid (subW sizes wrap keep = [false]) := by show _ = _; unfold subW; rw [← HPF.out, if_pos hPF]
              have hlen0 : PF.length = 0 := by rw [hPF]; rfl
              have hlen1 : ((PF.length : Int) == 0) = true := by rw [hPF]; rfl
              rw [hlen0] at kb0 hlen1
              have hl1 : b11 < wr.heap.size + 1 := by omega
              have hl2 : b11 < wr.heap.size + 1 + 1 := by omega
              have hl3 : w.heap.size + 1 + 1 < wr.heap.size + 1 := by omega
              have hl4 : w.heap.size + 1 + 1 < wr.heap.size + 1 + 1 := by omega
              have hn1 : b11 ≠ wr.heap.size := by omega
              have hn2 : b11 ≠ wr.heap.size + 1 := by omega
              have hn3 : w.heap.size + 1 + 1 ≠ wr.heap.size := by omega
              have hn4 : w.heap.size + 1 + 1 ≠ wr.heap.size + 1 := by omega
              clear hPF hlen0
              go_wp2_with fail
              obtain ⟨u, hu⟩ : ∃ u, u = Value.slice (some ⟨wr.heap.size, 0, none⟩) 1 1 := ⟨_, rfl⟩
              obtain ⟨v, hv⟩ : ∃ v, v = Value.slice (some ⟨wr.heap.size + 1, 0, none⟩) 1 1 := ⟨_, rfl⟩
              rw [← hu, ← hv]
              have a1 : ((wr.setCell ⟨b11, 0, none⟩ u).setCell ⟨b11, 1, none⟩ v).heap[w.heap.size + 1 + 1]? = some (.cells #[.slice none 0 0, .slice none 0 0] 42 (0, 0)) := by
                rw [heap_setCell_other _ _ _ _ (show w.heap.size + 1 + 1 ≠ b11 from hne4), heap_setCell_other _ _ _ _ (show w.heap.size + 1 + 1 ≠ b11 from hne4)]
                exact HRW.out
              have a2 := below_heapAt_set _ (w.heap.size + 1 + 1) u v a1
              have a3 := (((S13.out.set_other b11 0 u (by omega)).set_other b11 1 v (by omega)).set_other (w.heap.size + 1 + 1) 0 u (by omega)).set_other (w.heap.size + 1 + 1) 1 v (by omega)
              have a4 := (((S14.out.set_other b11 0 u (by omega)).set_other b11 1 v (by omega)).set_other (w.heap.size + 1 + 1) 0 u (by omega)).set_other (w.heap.size + 1 + 1) 1 v (by omega)
              have a5 := (((hwr.setCell (p := ⟨b11, 0, none⟩) (by show w.heap.size ≤ b11; omega) u).setCell (p := ⟨b11, 1, none⟩) (by show w.heap.size ≤ b11; omega) v).setCell (p := ⟨w.heap.size + 1 + 1, 0, none⟩) (by show w.heap.size ≤ w.heap.size + 1 + 1; omega) u).setCell (p := ⟨w.heap.size + 1 + 1, 1, none⟩) (by show w.heap.size ≤ w.heap.size + 1 + 1; omega) v
              have a6 : ((((wr.setCell ⟨b11, 0, none⟩ u).setCell ⟨b11, 1, none⟩ v).setCell ⟨w.heap.size + 1 + 1, 0, none⟩ u).setCell ⟨w.heap.size + 1 + 1, 1, none⟩ v).heap.size = wr.heap.size := by simp
              generalize (((wr.setCell ⟨b11, 0, none⟩ u).setCell ⟨b11, 1, none⟩ v).setCell ⟨w.heap.size + 1 + 1, 0, none⟩ u).setCell ⟨w.heap.size + 1 + 1, 1, none⟩ v = Z at *
              have hal := ((Below.refl Z.heap.size Z).alloc (Nat.le_refl _) (.cells #[Value.int .i64 1] 3)).alloc (by simp) (.cells #[Value.bool false] 4)
              have b1 : RowAt ((Z.alloc (.cells #[Value.int .i64 1] 3)).alloc (.cells #[Value.bool false] 4)) wr.heap.size [1] := by
                have e1 : rowA [1] = #[Value.int .i64 1] := by simp [rowA]
                rw [← a6, ← e1]
                exact RowAt.alloc (heap_alloc_new Z _) _
              have b2 : ((Z.alloc (.cells #[Value.int .i64 1] 3)).alloc (.cells #[Value.bool false] 4)).heap[wr.heap.size + 1]? = some (.cells #[Value.bool false] 4 (0, 0)) := by
                have := heap_alloc_new (Z.alloc (.cells #[Value.int .i64 1] 3)) (.cells #[Value.bool false] 4)
                rwa [show (Z.alloc (.cells #[Value.int .i64 1] 3)).heap.size = wr.heap.size + 1 by simp [a6]] at this
              have b3 := (hal.block _ (Array.getElem?_eq_some_iff.1 a2).1).trans a2
              have c3 := ((a3.own (B := w.heap.size) (by omega) (by rw [HCN.out]; simp; omega)).keep hal)
              have c4 := ((a4.own (B := w.heap.size) (by omega) (by rw [HCN.out]; simp; omega)).keep hal)
              have c5 := a5.trans (hal.mono a5.size)
              rw [HLR.out] at c3 c4
              generalize (Z.alloc (.cells #[Value.int .i64 1] 3)).alloc (.cells #[Value.bool false] 4) = Zf at *
              rw [HS.out, HSW.out]
              refine bodyPost_ret (v := .tuple #[.agg #[u, v], .slice (some ⟨b13, 0, none⟩) k k, .slice (some ⟨b14, 0, none⟩) k k, .int .i64 0]) ?_ rfl ⟨_, _, _, _, rfl, ?_, ?_, c3, c4, c5⟩
              · simp [results, loadGrid b3, Try.results44, asAddr]
              · rw [hu]; exact b1.own (by omega) (by simp)
              · rw [hv]
                exact ⟨⟨by simp, .inr ⟨wr.heap.size + 1, 1, #[.bool false], rfl, by omega, b2, by simp, by unfold maxLen; omega, rfl, rfl⟩⟩, by simp⟩
            · have hlen0 : ((PF.length : Int) == 0) = false := beq_eq_false_iff_ne.2 (by have := List.length_pos_iff.2 hPF; omega)
              have HS : Hid (subS sizes keep = PF) := by show _ = _; unfold subS; rw [← HPF.out, if_neg hPF]
              have HSW : Hid (subW sizes wrap keep = PB) := by show _ = _; unfold subW; rw [← HPF.out, if_neg hPF, ← HPB.out]
              clear hPF
              have m1 := Lib.hid (((((NK.out.keep HBr.out).set (w.heap.size + 1 + 1) 0 (.slice aK PF.length cK) (by omega)).set (w.heap.size + 1 + 1) 1 (.slice dK PB.length fK) (by omega))).base (B' := w.heap.size) (by omega))
              have m2 := Lib.hid (((((NKB.out.keep HBr.out).set (w.heap.size + 1 + 1) 0 (.slice aK PF.length cK) (by omega)).set (w.heap.size + 1 + 1) 1 (.slice dK PB.length fK) (by omega))).base (B' := w.heap.size) (by omega))
              have m3 := Lib.hid (((n13.out.set (w.heap.size + 1 + 1) 0 (.slice aK PF.length cK) (by omega)).set (w.heap.size + 1 + 1) 1 (.slice dK PB.length fK) (by omega)).base (B' := w.heap.size) (by omega))
              have m4 := Lib.hid (((n14.out.set (w.heap.size + 1 + 1) 0 (.slice aK PF.length cK) (by omega)).set (w.heap.size + 1 + 1) 1 (.slice dK PB.length fK) (by omega)).base (B' := w.heap.size) (by omega))
              have m5 := Lib.hid ((hwr.setCell (p := ⟨w.heap.size + 1 + 1, 0, none⟩) (by show w.heap.size ≤ w.heap.size + 1 + 1; omega) (.slice aK PF.length cK)).setCell (p := ⟨w.heap.size + 1 + 1, 1, none⟩) (by show w.heap.size ≤ w.heap.size + 1 + 1; omega) (.slice dK PB.length fK))
              have m6 := Lib.hid (below_heapAt_set _ (w.heap.size + 1 + 1) (.slice aK PF.length cK) (.slice dK PB.length fK) HRW.out)
              rw [HLR.out] at m3 m4
              clear S13 S14 n13 n14
              go_wp2_with fail
              generalize (wr.setCell ⟨w.heap.size + 1 + 1, 0, none⟩ (.slice aK PF.length cK)).setCell ⟨w.heap.size + 1 + 1, 1, none⟩ (.slice dK PB.length fK) = Z at *
              rw [HS.out, HSW.out]
              refine bodyPost_ret (v := .tuple #[.agg #[.slice aK PF.length cK, .slice dK PB.length fK], .slice (some ⟨b13, 0, none⟩) k k, .slice (some ⟨b14, 0, none⟩) k k, .int .i64 0]) ?_ rfl ⟨_, _, _, _, rfl, m1.out, m2.out, m3.out, m4.out, m5.out⟩
              simp [results, loadGrid m6.out, Try.results44, asAddr]
    · have HN : Hid (subE sizes wrap.length keep = 26) := by show _ = _; unfold subE; rw [if_neg hc, if_pos hkl]
      rw [HN.out]
      simp only [show ¬ (26 : Int) = 0 by decide, if_false]
      have hnb : (countL sizes wrap.length == 0) = false := beq_eq_false_iff_ne.2 hc
      have hke : ((keep.length : Int) == (sizes.length : Int)) = false := beq_eq_false_iff_ne.2 (by omega)
      have hkn : ((keep.length : Int) != (sizes.length : Int)) = true := by rw [bne_iff_ne]; omega
      clear h hw hk hc k1 HH HW HK hkl
      generalize countL sizes wrap.length = cn at *
      go_enter Try.func44, Try.ntmps44
      go_wp2_with fail
      generalize ((w.alloc (.cells #[.slice sa sizes.length sc, .slice wa wrap.length vc] 42)).alloc (.cells #[.slice ka keep.length kc] 40)).alloc (.cells #[.slice none 0 0, .slice none 0 0] 42) = w0 at *
      refine hg.mono ?_
      rintro e X ⟨rfl, hb⟩
      have k0' := kcell hb k0
      have k2' := kcell hb k2
      have hrb' := below_heapAt hb ⟨by omega, hrb⟩
      have hE0 := (cell_of_row X (w.heap.size + 2) 0 _ _ _ hrb').trans rfl
      have hE1 := (cell_of_row X (w.heap.size + 2) 1 _ _ _ hrb').trans rfl
      have hZ0 := frozen_of_row X (w.heap.size + 2) 0 _ _ hrb'
      have hZ1 := frozen_of_row X (w.heap.size + 2) 1 _ _ hrb'
      have hL := (Array.getElem?_eq_some_iff.1 hrb').1
      have HB := Lib.hid (hb0.trans (hb.mono hb0.size))
      have HR := Lib.hid hrb'
      clear hg k0 k2 hrb hrb' hb hb0
      go_wp2_with fail
      have R0 := (below_heapAt_set X (w.heap.size + 2) (.slice none 0 0) (.slice none 0 0) HR.out)
      have FW := Lib.hid ((HB.out.setCell (p := ⟨w.heap.size + 2, 0, none⟩) (by show w.heap.size ≤ w.heap.size + 2; omega) (.slice none 0 0)).setCell (p := ⟨w.heap.size + 2, 1, none⟩) (by show w.heap.size ≤ w.heap.size + 2; omega) (.slice none 0 0))
      generalize (X.setCell ⟨w.heap.size + 2, 0, none⟩ (.slice none 0 0)).setCell ⟨w.heap.size + 2, 1, none⟩ (.slice none 0 0) = Z at *
      refine bodyPost_ret (v := .tuple #[.agg #[.slice none 0 0, .slice none 0 0], .slice none 0 0, .slice none 0 0, .int .i64 26]) ?_ rfl ⟨_, _, _, _, rfl, ⟨World.ownsRow_nil _ _ _ _, by simp⟩, ⟨World.ownsRow_nil _ _ _ _, by simp⟩, ⟨World.ownsRow_nil _ _ _ _, by simp⟩, ⟨World.ownsRow_nil _ _ _ _, by simp⟩, FW.out⟩
      simp [results, loadGrid R0, Try.results44, asAddr]
end Go.Proofs.Ytoloiingodigpaa
