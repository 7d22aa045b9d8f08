import Derived.Test.YtoloiingodigpaaQM
import Derived.Test.YtoloiingodigpaaQC
namespace Go.Proofs.Ytoloiingodigpaa
open Go.RowKit Go.Shelf

theorem own_stay {w w' : World} {B e : Nat} {u : Value} {n : Nat} {xs : List Value} (h : w.ownsRow B e 1 u n xs) (hs : ∀ b, u.ownBlock = some b → w'.heap[b]? = w.heap[b]?) : w'.ownsRow B e 1 u n xs := by
  refine ⟨h.1, ?_⟩
  rcases h.2 with h2 | ⟨g, cap, cur, h1, h3, h4, h5⟩
  · exact .inl h2
  · exact .inr ⟨g, cap, cur, h1, h3, (hs g (by rw [h1]; rfl)).trans h4, h5⟩

theorem what_true (keep : List Bool) : whatP keep true = keptP keep := by
  funext i; unfold whatP keptP; cases keep.getD i false <;> rfl
theorem what_false (keep : List Bool) : whatP keep false = leftP keep := by
  funext i; unfold whatP leftP; cases keep.getD i false <;> rfl

theorem parS_size {p : Nat → Bool} {sizes : List Int} (h : ∀ s ∈ sizes, 1 ≤ s ∧ s ≤ 64) : ∀ s ∈ parS p sizes, 1 ≤ s ∧ s ≤ 64 := by
  intro s hs
  unfold parS at hs
  split at hs
  · simp at hs; omega
  · exact h s (pickF_mem p sizes 0 s hs)
theorem parW_len {p : Nat → Bool} {sizes : List Int} {wrap : List Bool} (h : wrap.length = sizes.length) : (parW p sizes wrap).length = (parS p sizes).length := by
  unfold parW parS
  split
  · rfl
  · exact (pick_len_eq p sizes wrap 0 h.symm).symm
theorem parX_len {p : Nat → Bool} {sizes xs : List Int} (h : xs.length = sizes.length) : (parX p sizes xs).length = (parS p sizes).length := by
  unfold parX parS
  split
  · rfl
  · exact pick_len_eq2 p xs sizes 0 h
theorem coords_bd {sizes : List Int} (h : ∀ s ∈ sizes, 1 ≤ s ∧ s ≤ 64) (r : Int) : ∀ x ∈ coordsL sizes r, 0 ≤ x ∧ x ≤ 64 := by
  rw [coordsL_eq]
  exact (coords_digits sizes r (fun s hs => (h s hs).1)).bd (fun s hs => (h s hs).2)
theorem parX_bd {p : Nat → Bool} {sizes : List Int} (h : ∀ s ∈ sizes, 1 ≤ s ∧ s ≤ 64) (r : Int) : ∀ x ∈ parX p sizes (coordsL sizes r), -9223372036854775808 ≤ x ∧ x ≤ 9223372036854775807 := by
  intro x hx
  unfold parX at hx
  split at hx
  · simp at hx; omega
  · have := coords_bd h r x (pickF_mem p _ 0 x hx); omega
theorem par_rank (p : Nat → Bool) (sizes : List Int) (wrap : List Bool) (h : wrap.length = sizes.length) (k : Nat) :
    rankL 0 (parS p sizes) (parW p sizes wrap) (parX p sizes (coordsL sizes k)) = partR p sizes wrap k := by
  unfold parS parW parX partR
  by_cases h0 : pickF p 0 sizes = []
  · have h1 : pickB p 0 wrap = [] := List.length_eq_zero_iff.1 (by rw [← pick_len_eq p sizes wrap 0 h.symm, h0]; rfl)
    have h2 : pickF p 0 (coordsL sizes k) = [] := List.length_eq_zero_iff.1 (by rw [pick_len_eq2 p _ sizes 0 (coordsL_len sizes k), h0]; rfl)
    rw [if_pos h0, if_pos h0, if_pos h0, h0, h1, h2]
    simp [rankL, wrap64]
  · rw [if_neg h0, if_neg h0, if_neg h0]
theorem subS_par (sizes : List Int) (keep : List Bool) : parS (whatP keep true) sizes = subS sizes keep := by rw [what_true]; rfl
theorem subW_par (sizes : List Int) (wrap keep : List Bool) : parW (whatP keep true) sizes wrap = subW sizes wrap keep := by rw [what_true]; rfl
/-- the first k values of f -/
def firstF (f : Nat → Int) (k : Nat) : List Int := (List.range k).map f
theorem firstF_len (f : Nat → Int) (k : Nat) : (firstF f k).length = k := by simp [firstF]
theorem firstF_succ (f : Nat → Int) (k : Nat) : firstF f k ++ [f k] = firstF f (k + 1) := by simp [firstF, List.range_succ]
end Go.Proofs.Ytoloiingodigpaa

namespace Go.Proofs.Ytoloiingodigpaa
open Go.RowKit Go.Shelf
attribute [local go_sem] Oper.semAt_some litE
set_option maxRecDepth 100000
set_option maxHeartbeats 2000000

theorem SubRef_any {w : World} {sa wa ka : Option Addr} {sizes : List Int} {wrap keep : List Bool} (h : Ints w sa sizes) (hw : Bools w wa wrap) (hk : Bools w ka keep) (sc vc kc : Nat) :
    Calls Try.prog 45 #[.agg #[.slice sa sizes.length sc, .slice wa wrap.length vc], .slice ka keep.length kc] w fun e w' => ∃ v1 v2 v3 v4, e = .returned (.tuple #[.agg #[v1, v2], v3, v4, .int .i64 (subE sizes wrap.length keep)]) ∧
      NewInts w.heap.size w' v1 (if subE sizes wrap.length keep = 0 then subS sizes keep else []) ∧ NewBools w.heap.size w' v2 (if subE sizes wrap.length keep = 0 then subW sizes wrap keep else []) ∧
      NewInts w.heap.size w' v3 (if subE sizes wrap.length keep = 0 then subRow (leftP keep) sizes wrap else []) ∧ NewInts w.heap.size w' v4 (if subE sizes wrap.length keep = 0 then subRow (keptP keep) sizes wrap else []) ∧ Below w.heap.size w w' := by
  have hlen := h.len
  have hwlen := hw.len
  have hklen := hk.len
  have hb0 : Below w.heap.size w (((w.alloc (.cells #[.slice sa sizes.length sc, .slice wa wrap.length vc] 43)).alloc (.cells #[.slice none 0 0, .slice none 0 0] 43))) := ((Below.refl _ _).alloc (Nat.le_refl _) _).alloc (by simp) _
  have hz0 : (((w.alloc (.cells #[.slice sa sizes.length sc, .slice wa wrap.length vc] 43)).alloc (.cells #[.slice none 0 0, .slice none 0 0] 43))).heap.size = w.heap.size + 2 := by simp
  have q0 : (((w.alloc (.cells #[.slice sa sizes.length sc, .slice wa wrap.length vc] 43)).alloc (.cells #[.slice none 0 0, .slice none 0 0] 43))).heap[w.heap.size]? = some (.cells #[.slice sa sizes.length sc, .slice wa wrap.length vc] 43 (0, 0)) := (Below.heap_alloc _ _ _ (by simp)).trans (heap_alloc_new w _)
  have q1 : (((w.alloc (.cells #[.slice sa sizes.length sc, .slice wa wrap.length vc] 43)).alloc (.cells #[.slice none 0 0, .slice none 0 0] 43))).heap[w.heap.size + 1]? = some (.cells #[.slice none 0 0, .slice none 0 0] 43 (0, 0)) := by
    have := heap_alloc_new (w.alloc (.cells #[.slice sa sizes.length sc, .slice wa wrap.length vc] 43)) (.cells #[.slice none 0 0, .slice none 0 0] 43)
    rwa [show (w.alloc (.cells #[.slice sa sizes.length sc, .slice wa wrap.length vc] 43)).heap.size = w.heap.size + 1 by simp] at this
  have hg := good_ref (wa := wa) (h.keep hb0) sc wrap.length vc hwlen
  have H0 := Lib.hid h
  have W0' := Lib.hid hw
  have K0' := Lib.hid hk
  by_cases hc : countL sizes wrap.length = 0
  · have HN : Hid (subE sizes wrap.length keep = 2) := by show _ = _; unfold subE; rw [if_pos hc]
    rw [HN.out]
    simp only [show ¬ (2 : Int) = 0 by decide, if_false]
    rw [(good_count sizes wrap.length).2 hc] at hg
    generalize (goodV sizes wrap.length).1 = gg at hg
    clear h hw hk hc
    go_enter Try.func45, Try.ntmps45
    go_wp2_with fail
    generalize ((w.alloc (.cells #[.slice sa sizes.length sc, .slice wa wrap.length vc] 43)).alloc (.cells #[.slice none 0 0, .slice none 0 0] 43)) = w0 at *
    refine hg.mono ?_
    rintro e X ⟨rfl, hb⟩
    have hrb' := below_heapAt hb ⟨by omega, q1⟩
    have hrc' := below_heapAt hb ⟨by omega, q0⟩
    have c0 := (cell_of_row X w.heap.size 0 _ _ _ hrc').trans rfl
    have hE0 := (cell_of_row X (w.heap.size + 1) 0 _ _ _ hrb').trans rfl
    have hE1 := (cell_of_row X (w.heap.size + 1) 1 _ _ _ hrb').trans rfl
    have hZ0 := frozen_of_row X (w.heap.size + 1) 0 _ _ hrb'
    have hZ1 := frozen_of_row X (w.heap.size + 1) 1 _ _ hrb'
    have hL := (Array.getElem?_eq_some_iff.1 hrb').1
    have HB := Lib.hid (hb0.trans (hb.mono hb0.size))
    have HR := Lib.hid hrb'
    clear hg hrb' hrc' hb hb0 q0 q1
    go_wp2_with fail
    have R0 := (below_heapAt_set X (w.heap.size + 1) (.slice none 0 0) (.slice none 0 0) HR.out)
    have FW := Lib.hid ((HB.out.setCell (p := ⟨w.heap.size + 1, 0, none⟩) (by show w.heap.size ≤ w.heap.size + 1; omega) (.slice none 0 0)).setCell (p := ⟨w.heap.size + 1, 1, none⟩) (by show w.heap.size ≤ w.heap.size + 1; omega) (.slice none 0 0))
    generalize (X.setCell ⟨w.heap.size + 1, 0, none⟩ (.slice none 0 0)).setCell ⟨w.heap.size + 1, 1, none⟩ (.slice none 0 0) = Z at *
    refine bodyPost_ret (v := .tuple #[.agg #[.slice none 0 0, .slice none 0 0], .slice none 0 0, .slice none 0 0, .int .i64 2]) ?_ rfl ⟨_, _, _, _, rfl, ⟨World.ownsRow_nil _ _ _ _, by simp⟩, ⟨World.ownsRow_nil _ _ _ _, by simp⟩, ⟨World.ownsRow_nil _ _ _ _, by simp⟩, ⟨World.ownsRow_nil _ _ _ _, by simp⟩, FW.out⟩
    simp [results, loadGridR R0, Try.results45, asAddr]
  · rw [(good_count sizes wrap.length).1 hc] at hg
    by_cases hkl : keep.length = sizes.length
    · have HN : Hid (subE sizes wrap.length keep = 0) := by show _ = _; unfold subE; rw [if_neg hc, if_neg (by omega)]
      rw [HN.out]
      simp only [if_true]
      have ok := countL_ok hc
      obtain ⟨N, hN⟩ := Int.eq_ofNat_of_zero_le (show 0 ≤ countL sizes wrap.length by have := ok.pos; omega)
      have hN1 : 1 ≤ N := by have := ok.pos; omega
      have hN64 : N ≤ 64 := by have := ok.le; omega
      have HCN : Hid (∀ p, subRow p sizes wrap = firstF (partR p sizes wrap) N) := fun p => by unfold subRow firstF; rw [hN]; simp
      rw [hN] at hg
      have hke : ((keep.length : Int) == (sizes.length : Int)) = true := by rw [hkl]; simp
      have HOK := Lib.hid ok
      have HKL := Lib.hid hkl
      have hkn : ((keep.length : Int) != (sizes.length : Int)) = false := by rw [hkl]; simp
      clear h hw hk hc hkl ok hN
      generalize countL sizes wrap.length = cn at *
      go_enter Try.func45, Try.ntmps45
      go_wp2_with fail
      generalize ((w.alloc (.cells #[.slice sa sizes.length sc, .slice wa wrap.length vc] 43)).alloc (.cells #[.slice none 0 0, .slice none 0 0] 43)) = w0 at *
      refine hg.mono ?_
      rintro e X ⟨rfl, hb⟩
      have hrb' := below_heapAt hb ⟨by omega, q1⟩
      have hrc' := below_heapAt hb ⟨by omega, q0⟩
      have c0 := (cell_of_row X w.heap.size 0 _ _ _ hrc').trans rfl
      have HB := Lib.hid (hb0.trans (hb.mono hb0.size))
      have HR0 := Lib.hid hrc'
      have HR1 := Lib.hid hrb'
      have hzX : w.heap.size + 2 ≤ X.heap.size := by have := hb.size; omega
      clear hg hrb' hrc' hb hb0 hz0 q0 q1
      go_wp2_with fail
      have hA1 : Below X.heap.size X (X.alloc (.cells #[.slice none 0 0, .slice none 0 0] 43)) := (Below.refl _ X).alloc (Nat.le_refl _) _
      have hA2 := heap_alloc_new X (.cells #[.slice none 0 0, .slice none 0 0] 43)
      have hA3 : (X.alloc (.cells #[.slice none 0 0, .slice none 0 0] 43)).heap.size = X.heap.size + 1 := by simp
      have HA1 := Lib.hid hA1
      have HA2 := Lib.hid hA2
      have HA3 := Lib.hid hA3
      clear hA1 hA2 hA3 c0
      generalize X.alloc (.cells #[.slice none 0 0, .slice none 0 0] 43) = W1 at *
      go_loopw [11, 12, 13] (fun p1 q1 i wr => ∃ (k : Nat) (o1 o2 : Value), k ≤ N ∧ i = .int .i64 k ∧ Hid (wr.heap[X.heap.size]? = some (.cells #[o1, o2] 43 (0, 0))) ∧ Hid (NewInts (X.heap.size + 1) wr p1 (firstF (partR (leftP keep) sizes wrap) k)) ∧ Hid (NewInts (X.heap.size + 1) wr q1 (firstF (partR (keptP keep) sizes wrap) k)) ∧ Hid (Apart p1 q1) ∧ Hid (Below X.heap.size X wr) ∧
        Hid (k = 0 ∨ (NewInts (X.heap.size + 1) wr o1 (subS sizes keep) ∧ NewBools (X.heap.size + 1) wr o2 (subW sizes wrap keep)))) (fun _ _ i _ => N - (intOf i).toNat)
      case atStart =>
        exact ⟨0, .slice none 0 0, .slice none 0 0, Nat.zero_le _, rfl, HA2, ⟨World.ownsRow_nil _ _ _ _, by simp [firstF]⟩, ⟨World.ownsRow_nil _ _ _ _, by simp [firstF]⟩, (fun b hb => by cases hb), HA1, .inl rfl⟩
      case round =>
      obtain ⟨k, o1, o2, hk, rfl, G0, NP, NQ, AP, HBr, OO⟩ := hrel
      have hzr := HBr.out.size
      have hzr2 : X.heap.size < wr.heap.size := (Array.getElem?_eq_some_iff.1 G0.out).1
      have hwr := HB.out.trans (HBr.out.mono (by omega))
      have HWR := Lib.hid hwr
      have hR0 := below_heapAt HBr.out ⟨by omega, HR0.out⟩
      have c0 := (cell_of_row wr w.heap.size 0 _ _ _ hR0).trans rfl
      have c1 := (cell_of_row wr w.heap.size 1 _ _ _ hR0).trans rfl
      have HRr := Lib.hid hR0
      clear hR0 hwr
      by_cases hlt : k < N
      · have hltz : (k : Int) < (N : Int) := by omega
        go_wp2_with fail
        have HWA : Hid (∀ V, Below wr.heap.size wr V → Below w.heap.size w V) := fun V hV => HWR.out.trans (hV.mono HWR.out.size)
        have callC : ∀ V, Below w.heap.size w V → Calls Try.prog 87 #[.agg #[.slice sa sizes.length sc, .slice wa wrap.length vc], .int .i64 k] V fun e w' => ∃ b, e = .returned (.slice (some ⟨b, 0, none⟩) sizes.length sizes.length) ∧ RowAt w' b (coordsL sizes k) ∧ Below V.heap.size V w' := fun V hV => by
          refine (coords_ref (H0.out.keep hV) HOK.out.size sc wrap.length vc k (by omega) (by omega)).mono ?_
          rintro e w' ⟨b, rfl, _, hro, hb⟩
          exact ⟨b, rfl, hro, hb⟩
        have callP : ∀ (what : Bool) V b, Below w.heap.size w V → RowAt V b (coordsL sizes k) → Calls Try.prog 93 #[.agg #[.slice sa sizes.length sc, .slice wa wrap.length vc], .slice ka keep.length kc, .bool what, .slice (some ⟨b, 0, none⟩) sizes.length sizes.length] V fun e w' => ∃ a1 a2 a3 d1 d2 d3, e = .returned (.tuple #[.agg #[.slice a1 (parS (whatP keep what) sizes).length d1, .slice a2 (parW (whatP keep what) sizes wrap).length d2], .slice a3 (parX (whatP keep what) sizes (coordsL sizes k)).length d3]) ∧
            NewInts V.heap.size w' (.slice a1 (parS (whatP keep what) sizes).length d1) (parS (whatP keep what) sizes) ∧ NewBools V.heap.size w' (.slice a2 (parW (whatP keep what) sizes wrap).length d2) (parW (whatP keep what) sizes wrap) ∧ NewInts V.heap.size w' (.slice a3 (parX (whatP keep what) sizes (coordsL sizes k)).length d3) (parX (whatP keep what) sizes (coordsL sizes k)) ∧ Below V.heap.size V w' := fun what V b hV hro => by
          have hq := part_any (H0.out.keep hV) (W0'.out.keep hV) (K0'.out.keep hV) (hro.ints (by rw [coordsL_len]; exact hlen)) HOK.out.wrap HKL.out (coordsL_len sizes k) HOK.out.len4 sc vc kc sizes.length what
          rw [coordsL_len] at hq
          refine hq.mono ?_
          rintro e w' ⟨v1, v2, v3, rfl, n1, n2, n3, hb⟩
          obtain ⟨a1, d1, rfl, _⟩ := n1.ints
          obtain ⟨a2, d2, rfl, _⟩ := n2.bools
          obtain ⟨a3, d3, rfl, _⟩ := n3.ints
          exact ⟨a1, a2, a3, d1, d2, d3, rfl, n1, n2, n3, hb⟩
        have callPK := callP true
        have callPL := callP false
        obtain ⟨KS, hKS⟩ : ∃ l, l = parS (whatP keep true) sizes := ⟨_, rfl⟩
        obtain ⟨KW, hKW⟩ : ∃ l, l = parW (whatP keep true) sizes wrap := ⟨_, rfl⟩
        obtain ⟨KX, hKX⟩ : ∃ l, l = parX (whatP keep true) sizes (coordsL sizes k) := ⟨_, rfl⟩
        obtain ⟨LS, hLS⟩ : ∃ l, l = parS (whatP keep false) sizes := ⟨_, rfl⟩
        obtain ⟨LW, hLW⟩ : ∃ l, l = parW (whatP keep false) sizes wrap := ⟨_, rfl⟩
        obtain ⟨LX, hLX⟩ : ∃ l, l = parX (whatP keep false) sizes (coordsL sizes k) := ⟨_, rfl⟩
        rw [← hKS, ← hKW, ← hKX] at callPK
        rw [← hLS, ← hLW, ← hLX] at callPL
        have HKS := Lib.hid hKS
        have HKW := Lib.hid hKW
        have HKX := Lib.hid hKX
        have HLS := Lib.hid hLS
        have HLW := Lib.hid hLW
        have HLX := Lib.hid hLX
        clear hKS hKW hKX hLS hLW hLX callP c0 c1
        refine (wpIn_wide (n := 0)).1 ?_
        refine region_det (by kernel_rfl) (I := fun listed a' w' => ∃ (bCK bRK : Nat) (aK1 aK2 aK3 : Option Addr) (dK1 dK2 dK3 : Nat), Hid (Below (wr.heap.size) wr w') ∧ Hid (listed.getD 4 false = true → listed.getD 5 false = true ∨ RowAt w' bCK (coordsL sizes k)) ∧ Hid (listed.getD 5 false = true → NewInts (wr.heap.size) w' (Value.slice aK1 KS.length dK1) KS ∧ NewBools (wr.heap.size) w' (Value.slice aK2 KW.length dK2) KW ∧ NewInts (wr.heap.size) w' (Value.slice aK3 KX.length dK3) KX) ∧ Hid (listed.getD 9 false = true → wr.heap.size ≤ bRK ∧ w'.heap[bRK]? = some (.cells (if listed.getD 10 false = true then #[Value.slice aK1 KS.length dK1, Value.slice aK2 KW.length dK2] else #[Value.slice none 0 0, Value.slice none 0 0]) 43 (0, 0))) ∧ Hid (listed.getD 10 false = true → listed.getD 5 false = true ∧ listed.getD 9 false = true) ∧ Hid (listed.getD 6 false = true → listed.getD 5 false = true) ∧ Hid (listed.getD 7 false = true → listed.getD 5 false = true) ∧ Hid (listed.getD 8 false = true → listed.getD 5 false = true) ∧ Hid (listed.getD 11 false = true → listed.getD 5 false = true) ∧ a' = ⟨#[Value.agg #[Value.slice sa sizes.length sc, Value.slice wa wrap.length vc], Value.slice ka keep.length kc, Value.pointer (some ⟨w.heap.size, 0, none⟩), undef, Value.pointer (some ⟨w.heap.size + 1, 0, none⟩), Value.slice none 0 0, Value.slice none 0 0, Value.int IntKind.i64 0, Value.int IntKind.i64 ↑N, Value.bool true, Value.pointer (some ⟨X.heap.size, 0, none⟩), u11, u12, Value.int IntKind.i64 ↑k, (if listed.getD 9 false = true then Value.pointer (some ⟨bRK, 0, none⟩) else u14), (if listed.getD 11 false = true then Value.slice aK3 KX.length dK3 else u15), u16, u17, Value.tuple #[Value.int IntKind.i64 ↑N, Value.bool true], Value.agg #[Value.slice sa sizes.length sc, Value.slice wa wrap.length vc], Value.tuple #[Value.int IntKind.i64 ↑N, Value.bool true], Value.int IntKind.i64 ↑N, Value.bool true, Value.bool true, Value.bool false, undef, Value.slice ka keep.length kc, Value.int IntKind.i64 ↑keep.length, Value.pointer (some ⟨w.heap.size, 0, none⟩), Value.slice sa sizes.length sc, Value.int IntKind.i64 ↑sizes.length, Value.bool false, undef, Value.int IntKind.i64 ↑k, Value.int IntKind.i64 ↑N, Value.bool true, u36, u37, (if listed.getD 6 false = true then Value.tuple #[Value.agg #[Value.slice aK1 KS.length dK1, Value.slice aK2 KW.length dK2], Value.slice aK3 KX.length dK3] else u38), (if listed.getD 0 false = true then Value.agg #[Value.slice sa sizes.length sc, Value.slice wa wrap.length vc] else u39), (if listed.getD 1 false = true then Value.slice ka keep.length kc else u40), (if listed.getD 2 false = true then Value.agg #[Value.slice sa sizes.length sc, Value.slice wa wrap.length vc] else u41), (if listed.getD 3 false = true then Value.int IntKind.i64 ↑k else u42), (if listed.getD 4 false = true then Value.slice (some ⟨bCK, 0, none⟩) sizes.length sizes.length else u43), (if listed.getD 5 false = true then Value.tuple #[Value.agg #[Value.slice aK1 KS.length dK1, Value.slice aK2 KW.length dK2], Value.slice aK3 KX.length dK3] else u44), (if listed.getD 7 false = true then Value.agg #[Value.slice aK1 KS.length dK1, Value.slice aK2 KW.length dK2] else u45), (if listed.getD 8 false = true then Value.slice aK3 KX.length dK3 else u46), u47, u48, u49, u50, u51, u52, u53, u54, u55, u56, u57, u58, u59, u60, u61, u62, u63, u64, u65, u66, u67, u68, undef, undef, undef], []⟩) (hup_check (by kernel_rfl)) ?h0 ?step ?fin
        case h0 => exact ⟨0, 0, none, none, none, 0, 0, 0, Lib.hid (Below.refl _ wr).drew, fun h => by simp at h, fun h => by simp at h, fun h => by simp at h, fun h => by simp at h, fun h => by simp at h, fun h => by simp at h, fun h => by simp at h, fun h => by simp at h, rfl⟩
        case step =>
          intro listed a' w' i hs hbi hdep hi ⟨bCK, bRK, aK1, aK2, aK3, dK1, dK2, dK3, IB, IC, IP, I9, J10, J6, J7, J8, J11, ha⟩
          obtain ⟨ls⟩ := listed
          match ls, hs with
          | [x0, x1, x2, x3, x4, x5, x6, x7, x8, x9, x10, x11], _ =>
          subst ha
          have hi' : i = 0 ∨ i = 1 ∨ i = 2 ∨ i = 3 ∨ i = 4 ∨ i = 5 ∨ i = 6 ∨ i = 7 ∨ i = 8 ∨ i = 9 ∨ i = 10 ∨ i = 11 := by simp at hi; omega
          have hrow : w'.heap[w.heap.size]? = some (.cells #[.slice sa sizes.length sc, .slice wa wrap.length vc] 43 (0, 0)) := below_heapAt IB.out ⟨by omega, HRr.out⟩
          have hsz := IB.out.size
          rcases hi' with rfl | rfl | rfl | rfl | rfl | rfl | rfl | rfl | rfl | rfl | rfl | rfl
          · obtain rfl : x0 = false := by simpa using hbi
            refine wpOpIn_load_row rfl rfl 43 _ rfl w.heap.size rfl 43 _ _ _ hrow Try.underlying43 rfl Try.info43 ?_
            exact ⟨bCK, bRK, aK1, aK2, aK3, dK1, dK2, dK3, IB, IC, IP, I9, J10, J6, J7, J8, J11, rfl⟩
          · obtain rfl : x1 = false := by simpa using hbi
            refine wpOpIn_plain rfl rfl rfl ?_
            exact ⟨bCK, bRK, aK1, aK2, aK3, dK1, dK2, dK3, IB, IC, IP, I9, J10, J6, J7, J8, J11, rfl⟩
          · obtain rfl : x2 = false := by simpa using hbi
            refine wpOpIn_load_row rfl rfl 43 _ rfl w.heap.size rfl 43 _ _ _ hrow Try.underlying43 rfl Try.info43 ?_
            exact ⟨bCK, bRK, aK1, aK2, aK3, dK1, dK2, dK3, IB, IC, IP, I9, J10, J6, J7, J8, J11, rfl⟩
          · obtain rfl : x3 = false := by simpa using hbi
            refine wpOpIn_plain rfl rfl rfl ?_
            exact ⟨bCK, bRK, aK1, aK2, aK3, dK1, dK2, dK3, IB, IC, IP, I9, J10, J6, J7, J8, J11, rfl⟩
          · obtain rfl : x4 = false := by simpa using hbi
            obtain rfl : x2 = true := hdep _ rfl ⟨2, .data⟩ (by simp) rfl
            obtain rfl : x3 = true := hdep _ rfl ⟨3, .data⟩ (by simp) rfl
            refine wpOpIn_call (args := #[Value.agg #[Value.slice sa sizes.length sc, Value.slice wa wrap.length vc], Value.int IntKind.i64 ↑k]) rfl rfl (sem_call2 rfl rfl rfl (enters_of Try.func87 (by kernel_rfl) rfl)) (callC _ (HWA.out _ IB.out)) ?_
            rintro e V ⟨bN, rfl, hro, hb⟩
            exact ⟨_, rfl, bN, bRK, aK1, aK2, aK3, dK1, dK2, dK3, (below_after IB.out hb (Nat.le_refl _)), (fun _ => .inr hro), (fun h => ⟨(IP.out h).1.keep hb, (IP.out h).2.1.keep hb, (IP.out h).2.2.keep hb⟩), (fun h => ⟨(I9.out h).1, (hb.block _ (Array.getElem?_eq_some_iff.1 (I9.out h).2).1).trans (I9.out h).2⟩), J10, J6, J7, J8, J11, rfl⟩
          · obtain rfl : x5 = false := by simpa using hbi
            obtain rfl : x0 = true := hdep _ rfl ⟨0, .data⟩ (by simp) rfl
            obtain rfl : x1 = true := hdep _ rfl ⟨1, .data⟩ (by simp) rfl
            obtain rfl : x4 = true := hdep _ rfl ⟨4, .data⟩ (by simp) rfl
            obtain rfl : x10 = false := Bool.eq_false_iff.2 fun h => by have := (J10.out h).1; cases this
            obtain rfl : x6 = false := Bool.eq_false_iff.2 fun h => by have := J6.out h; cases this
            obtain rfl : x7 = false := Bool.eq_false_iff.2 fun h => by have := J7.out h; cases this
            obtain rfl : x8 = false := Bool.eq_false_iff.2 fun h => by have := J8.out h; cases this
            obtain rfl : x11 = false := Bool.eq_false_iff.2 fun h => by have := J11.out h; cases this
            have hro := (IC.out rfl).resolve_left (fun h => by cases h)
            refine wpOpIn_call (args := #[Value.agg #[Value.slice sa sizes.length sc, Value.slice wa wrap.length vc], Value.slice ka keep.length kc, Value.bool true, Value.slice (some ⟨bCK, 0, none⟩) sizes.length sizes.length]) rfl rfl (sem_call4 rfl rfl rfl rfl rfl (enters_of Try.func93 (by kernel_rfl) rfl)) (callPK _ _ (HWA.out _ IB.out) hro) ?_
            rintro e V ⟨z1, z2, z3, z4, z5, z6, rfl, n1, n2, n3, hb⟩
            exact ⟨_, rfl, bCK, bRK, z1, z2, z3, z4, z5, z6, (below_after IB.out hb (Nat.le_refl _)), (fun _ => .inl rfl), (fun _ => ⟨n1.base (by omega), n2.base (by omega), n3.base (by omega)⟩), (fun h => ⟨(I9.out h).1, (hb.block _ (Array.getElem?_eq_some_iff.1 (I9.out h).2).1).trans (I9.out h).2⟩), (fun h => by cases h), (fun h => by cases h), (fun h => by cases h), (fun h => by cases h), (fun h => by cases h), rfl⟩
          · obtain rfl : x6 = false := by simpa using hbi
            obtain rfl : x5 = true := hdep _ rfl ⟨5, .data⟩ (by simp) rfl
            refine wpOpIn_plain rfl rfl rfl ?_
            exact ⟨bCK, bRK, aK1, aK2, aK3, dK1, dK2, dK3, IB, IC, IP, I9, J10, (fun _ => rfl), J7, J8, J11, rfl⟩
          · obtain rfl : x7 = false := by simpa using hbi
            obtain rfl : x6 = true := hdep _ rfl ⟨6, .data⟩ (by simp) rfl
            refine wpOpIn_plain (v := Value.agg #[Value.slice aK1 KS.length dK1, Value.slice aK2 KW.length dK2]) (w' := w') rfl rfl (by first | rfl | simp [Oper.semAt, execOp, go_sem]) ?_
            exact ⟨bCK, bRK, aK1, aK2, aK3, dK1, dK2, dK3, IB, IC, IP, I9, J10, J6, (fun _ => J6.out rfl), J8, J11, rfl⟩
          · obtain rfl : x8 = false := by simpa using hbi
            obtain rfl : x6 = true := hdep _ rfl ⟨6, .data⟩ (by simp) rfl
            refine wpOpIn_plain (v := Value.slice aK3 KX.length dK3) (w' := w') rfl rfl (by first | rfl | simp [Oper.semAt, execOp, go_sem]) ?_
            exact ⟨bCK, bRK, aK1, aK2, aK3, dK1, dK2, dK3, IB, IC, IP, I9, J10, J6, J7, (fun _ => J6.out rfl), J11, rfl⟩
          · obtain rfl : x9 = false := by simpa using hbi
            obtain rfl : x10 = false := Bool.eq_false_iff.2 fun h => by have := (J10.out h).2; cases this
            have hal := (Below.refl w'.heap.size w').alloc (Nat.le_refl _) (.cells #[Value.slice none 0 0, Value.slice none 0 0] 43)
            refine wpOpIn_plain (v := Value.pointer (some ⟨w'.heap.size, 0, none⟩)) (w' := w'.alloc (.cells #[Value.slice none 0 0, Value.slice none 0 0] 43)) rfl rfl (by simp [Oper.semAt, execOp, go_sem]) ?_
            exact ⟨bCK, w'.heap.size, aK1, aK2, aK3, dK1, dK2, dK3, (below_after IB.out hal (Nat.le_refl _)), (fun h => (IC.out h).imp id fun q => q.keep hal), (fun h => ⟨(IP.out h).1.keep hal, (IP.out h).2.1.keep hal, (IP.out h).2.2.keep hal⟩), (fun _ => ⟨hsz, heap_alloc_new w' _⟩), (fun h => by cases h), J6, J7, J8, J11, rfl⟩
          · obtain rfl : x10 = false := by simpa using hbi
            obtain rfl : x9 = true := hdep _ rfl ⟨9, .data⟩ (by simp) rfl
            obtain rfl : x7 = true := hdep _ rfl ⟨7, .data⟩ (by simp) rfl
            obtain rfl : x5 = true := J7.out rfl
            have hme : w'.heap[bRK]? = some (.cells #[Value.slice none 0 0, Value.slice none 0 0] 43 (0, 0)) := (I9.out rfl).2
            have hbb := (I9.out rfl).1
            have ip := IP.out rfl
            refine wpOpIn_store_row rfl rfl 43 _ _ rfl bRK #[Value.slice aK1 KS.length dK1, Value.slice aK2 KW.length dK2] rfl rfl 43 _ hme Try.info43 rfl (by simp [Value.oneCell']) ?_
            exact ⟨bCK, bRK, aK1, aK2, aK3, dK1, dK2, dK3, (IB.out.trans (below_setRow hbb _)), (fun _ => .inl rfl), (fun _ => ⟨ip.1.setRow hme (by decide) _, ip.2.1.setRow hme (by decide) _, ip.2.2.setRow hme (by decide) _⟩), (fun _ => ⟨hbb, setRow_heap w' bRK _ _ 43 _ hme⟩), (fun _ => ⟨rfl, rfl⟩), J6, J7, J8, J11, rfl⟩
          · obtain rfl : x11 = false := by simpa using hbi
            obtain rfl : x8 = true := hdep _ rfl ⟨8, .data⟩ (by simp) rfl
            refine wpOpIn_plain rfl rfl rfl ?_
            exact ⟨bCK, bRK, aK1, aK2, aK3, dK1, dK2, dK3, IB, IC, IP, I9, J10, J6, J7, J8, (fun _ => J8.out rfl), rfl⟩
        case fin =>
        intro listed a' Y1 hs hall ⟨bCK, bRK, aK1, aK2, aK3, dK1, dK2, dK3, IB, IC, IP, I9, J10, J6, J7, J8, J11, ha⟩
        obtain ⟨ls⟩ := listed
        match ls, hs with
        | [x0, x1, x2, x3, x4, x5, x6, x7, x8, x9, x10, x11], _ =>
        obtain rfl : x0 = true := hall 0 (by simp)
        obtain rfl : x1 = true := hall 1 (by simp)
        obtain rfl : x2 = true := hall 2 (by simp)
        obtain rfl : x3 = true := hall 3 (by simp)
        obtain rfl : x4 = true := hall 4 (by simp)
        obtain rfl : x5 = true := hall 5 (by simp)
        obtain rfl : x6 = true := hall 6 (by simp)
        obtain rfl : x7 = true := hall 7 (by simp)
        obtain rfl : x8 = true := hall 8 (by simp)
        obtain rfl : x9 = true := hall 9 (by simp)
        obtain rfl : x10 = true := hall 10 (by simp)
        obtain rfl : x11 = true := hall 11 (by simp)
        subst ha
        have ip := IP.out rfl
        have i9 := I9.out rfl
        have NK1 := Lib.hid ip.1
        have NK2 := Lib.hid ip.2.1
        have NK3 := Lib.hid ip.2.2
        have hbRK := i9.1
        have RK := Lib.hid i9.2
        have HBY1 := Lib.hid IB.out
        have hszY1 := IB.out.size
        clear ip i9 IB IC IP I9 J10 J6 J7 J8 J11 hall hs
        have HWA1 : Hid (∀ V, Below Y1.heap.size Y1 V → Below w.heap.size w V) := fun V hV => HWA.out _ (HBY1.out.trans (hV.mono hszY1))
        have HRr1 := Lib.hid (below_heapAt HBY1.out ⟨by omega, HRr.out⟩)
        dsimp only [Exit.then, Exit.inBlock]
        go_wp2_with fail
        refine (wpIn_wide (n := 0)).1 ?_
        refine region_det (by kernel_rfl) (I := fun listed a' w' => ∃ (bCL bRL : Nat) (aL1 aL2 aL3 : Option Addr) (dL1 dL2 dL3 : Nat), Hid (Below (Y1.heap.size) Y1 w') ∧ Hid (listed.getD 4 false = true → listed.getD 5 false = true ∨ RowAt w' bCL (coordsL sizes k)) ∧ Hid (listed.getD 5 false = true → NewInts (Y1.heap.size) w' (Value.slice aL1 LS.length dL1) LS ∧ NewBools (Y1.heap.size) w' (Value.slice aL2 LW.length dL2) LW ∧ NewInts (Y1.heap.size) w' (Value.slice aL3 LX.length dL3) LX) ∧ Hid (listed.getD 9 false = true → Y1.heap.size ≤ bRL ∧ w'.heap[bRL]? = some (.cells (if listed.getD 10 false = true then #[Value.slice aL1 LS.length dL1, Value.slice aL2 LW.length dL2] else #[Value.slice none 0 0, Value.slice none 0 0]) 43 (0, 0))) ∧ Hid (listed.getD 10 false = true → listed.getD 5 false = true ∧ listed.getD 9 false = true) ∧ Hid (listed.getD 6 false = true → listed.getD 5 false = true) ∧ Hid (listed.getD 7 false = true → listed.getD 5 false = true) ∧ Hid (listed.getD 8 false = true → listed.getD 5 false = true) ∧ Hid (listed.getD 11 false = true → listed.getD 5 false = true) ∧ a' = ⟨#[Value.agg #[Value.slice sa sizes.length sc, Value.slice wa wrap.length vc], Value.slice ka keep.length kc, Value.pointer (some ⟨w.heap.size, 0, none⟩), undef, Value.pointer (some ⟨w.heap.size + 1, 0, none⟩), Value.slice none 0 0, Value.slice none 0 0, Value.int IntKind.i64 0, Value.int IntKind.i64 ↑N, Value.bool true, Value.pointer (some ⟨X.heap.size, 0, none⟩), u11, u12, Value.int IntKind.i64 ↑k, Value.pointer (some ⟨bRK, 0, none⟩), Value.slice aK3 KX.length dK3, (if listed.getD 9 false = true then Value.pointer (some ⟨bRL, 0, none⟩) else u16), (if listed.getD 11 false = true then Value.slice aL3 LX.length dL3 else u17), Value.tuple #[Value.int IntKind.i64 ↑N, Value.bool true], Value.agg #[Value.slice sa sizes.length sc, Value.slice wa wrap.length vc], Value.tuple #[Value.int IntKind.i64 ↑N, Value.bool true], Value.int IntKind.i64 ↑N, Value.bool true, Value.bool true, Value.bool false, undef, Value.slice ka keep.length kc, Value.int IntKind.i64 ↑keep.length, Value.pointer (some ⟨w.heap.size, 0, none⟩), Value.slice sa sizes.length sc, Value.int IntKind.i64 ↑sizes.length, Value.bool false, undef, Value.int IntKind.i64 ↑k, Value.int IntKind.i64 ↑N, Value.bool true, u36, u37, Value.tuple #[Value.agg #[Value.slice aK1 KS.length dK1, Value.slice aK2 KW.length dK2], Value.slice aK3 KX.length dK3], Value.agg #[Value.slice sa sizes.length sc, Value.slice wa wrap.length vc], Value.slice ka keep.length kc, Value.agg #[Value.slice sa sizes.length sc, Value.slice wa wrap.length vc], Value.int IntKind.i64 ↑k, Value.slice (some ⟨bCK, 0, none⟩) sizes.length sizes.length, Value.tuple #[Value.agg #[Value.slice aK1 KS.length dK1, Value.slice aK2 KW.length dK2], Value.slice aK3 KX.length dK3], Value.agg #[Value.slice aK1 KS.length dK1, Value.slice aK2 KW.length dK2], Value.slice aK3 KX.length dK3, (if listed.getD 6 false = true then Value.tuple #[Value.agg #[Value.slice aL1 LS.length dL1, Value.slice aL2 LW.length dL2], Value.slice aL3 LX.length dL3] else u47), (if listed.getD 0 false = true then Value.agg #[Value.slice sa sizes.length sc, Value.slice wa wrap.length vc] else u48), (if listed.getD 1 false = true then Value.slice ka keep.length kc else u49), (if listed.getD 2 false = true then Value.agg #[Value.slice sa sizes.length sc, Value.slice wa wrap.length vc] else u50), (if listed.getD 3 false = true then Value.int IntKind.i64 ↑k else u51), (if listed.getD 4 false = true then Value.slice (some ⟨bCL, 0, none⟩) sizes.length sizes.length else u52), (if listed.getD 5 false = true then Value.tuple #[Value.agg #[Value.slice aL1 LS.length dL1, Value.slice aL2 LW.length dL2], Value.slice aL3 LX.length dL3] else u53), (if listed.getD 7 false = true then Value.agg #[Value.slice aL1 LS.length dL1, Value.slice aL2 LW.length dL2] else u54), (if listed.getD 8 false = true then Value.slice aL3 LX.length dL3 else u55), u56, u57, u58, u59, u60, u61, u62, u63, u64, u65, u66, u67, u68, undef, undef, undef], []⟩) (hup_check (by kernel_rfl)) ?h0 ?step ?fin
        case h0 => exact ⟨0, 0, none, none, none, 0, 0, 0, Lib.hid (Below.refl _ Y1).drew, fun h => by simp at h, fun h => by simp at h, fun h => by simp at h, fun h => by simp at h, fun h => by simp at h, fun h => by simp at h, fun h => by simp at h, fun h => by simp at h, rfl⟩
        case step =>
          intro listed a' w' i hs hbi hdep hi ⟨bCL, bRL, aL1, aL2, aL3, dL1, dL2, dL3, IB, IC, IP, I9, J10, J6, J7, J8, J11, ha⟩
          obtain ⟨ls⟩ := listed
          match ls, hs with
          | [x0, x1, x2, x3, x4, x5, x6, x7, x8, x9, x10, x11], _ =>
          subst ha
          have hi' : i = 0 ∨ i = 1 ∨ i = 2 ∨ i = 3 ∨ i = 4 ∨ i = 5 ∨ i = 6 ∨ i = 7 ∨ i = 8 ∨ i = 9 ∨ i = 10 ∨ i = 11 := by simp at hi; omega
          have hrow : w'.heap[w.heap.size]? = some (.cells #[.slice sa sizes.length sc, .slice wa wrap.length vc] 43 (0, 0)) := below_heapAt IB.out ⟨by omega, HRr1.out⟩
          have hsz := IB.out.size
          rcases hi' with rfl | rfl | rfl | rfl | rfl | rfl | rfl | rfl | rfl | rfl | rfl | rfl
          · obtain rfl : x0 = false := by simpa using hbi
            refine wpOpIn_load_row rfl rfl 43 _ rfl w.heap.size rfl 43 _ _ _ hrow Try.underlying43 rfl Try.info43 ?_
            exact ⟨bCL, bRL, aL1, aL2, aL3, dL1, dL2, dL3, IB, IC, IP, I9, J10, J6, J7, J8, J11, rfl⟩
          · obtain rfl : x1 = false := by simpa using hbi
            refine wpOpIn_plain rfl rfl rfl ?_
            exact ⟨bCL, bRL, aL1, aL2, aL3, dL1, dL2, dL3, IB, IC, IP, I9, J10, J6, J7, J8, J11, rfl⟩
          · obtain rfl : x2 = false := by simpa using hbi
            refine wpOpIn_load_row rfl rfl 43 _ rfl w.heap.size rfl 43 _ _ _ hrow Try.underlying43 rfl Try.info43 ?_
            exact ⟨bCL, bRL, aL1, aL2, aL3, dL1, dL2, dL3, IB, IC, IP, I9, J10, J6, J7, J8, J11, rfl⟩
          · obtain rfl : x3 = false := by simpa using hbi
            refine wpOpIn_plain rfl rfl rfl ?_
            exact ⟨bCL, bRL, aL1, aL2, aL3, dL1, dL2, dL3, IB, IC, IP, I9, J10, J6, J7, J8, J11, rfl⟩
          · obtain rfl : x4 = false := by simpa using hbi
            obtain rfl : x2 = true := hdep _ rfl ⟨2, .data⟩ (by simp) rfl
            obtain rfl : x3 = true := hdep _ rfl ⟨3, .data⟩ (by simp) rfl
            refine wpOpIn_call (args := #[Value.agg #[Value.slice sa sizes.length sc, Value.slice wa wrap.length vc], Value.int IntKind.i64 ↑k]) rfl rfl (sem_call2 rfl rfl rfl (enters_of Try.func87 (by kernel_rfl) rfl)) (callC _ (HWA1.out _ IB.out)) ?_
            rintro e V ⟨bN, rfl, hro, hb⟩
            exact ⟨_, rfl, bN, bRL, aL1, aL2, aL3, dL1, dL2, dL3, (below_after IB.out hb (Nat.le_refl _)), (fun _ => .inr hro), (fun h => ⟨(IP.out h).1.keep hb, (IP.out h).2.1.keep hb, (IP.out h).2.2.keep hb⟩), (fun h => ⟨(I9.out h).1, (hb.block _ (Array.getElem?_eq_some_iff.1 (I9.out h).2).1).trans (I9.out h).2⟩), J10, J6, J7, J8, J11, rfl⟩
          · obtain rfl : x5 = false := by simpa using hbi
            obtain rfl : x0 = true := hdep _ rfl ⟨0, .data⟩ (by simp) rfl
            obtain rfl : x1 = true := hdep _ rfl ⟨1, .data⟩ (by simp) rfl
            obtain rfl : x4 = true := hdep _ rfl ⟨4, .data⟩ (by simp) rfl
            obtain rfl : x10 = false := Bool.eq_false_iff.2 fun h => by have := (J10.out h).1; cases this
            obtain rfl : x6 = false := Bool.eq_false_iff.2 fun h => by have := J6.out h; cases this
            obtain rfl : x7 = false := Bool.eq_false_iff.2 fun h => by have := J7.out h; cases this
            obtain rfl : x8 = false := Bool.eq_false_iff.2 fun h => by have := J8.out h; cases this
            obtain rfl : x11 = false := Bool.eq_false_iff.2 fun h => by have := J11.out h; cases this
            have hro := (IC.out rfl).resolve_left (fun h => by cases h)
            refine wpOpIn_call (args := #[Value.agg #[Value.slice sa sizes.length sc, Value.slice wa wrap.length vc], Value.slice ka keep.length kc, Value.bool false, Value.slice (some ⟨bCL, 0, none⟩) sizes.length sizes.length]) rfl rfl (sem_call4 rfl rfl rfl rfl rfl (enters_of Try.func93 (by kernel_rfl) rfl)) (callPL _ _ (HWA1.out _ IB.out) hro) ?_
            rintro e V ⟨z1, z2, z3, z4, z5, z6, rfl, n1, n2, n3, hb⟩
            exact ⟨_, rfl, bCL, bRL, z1, z2, z3, z4, z5, z6, (below_after IB.out hb (Nat.le_refl _)), (fun _ => .inl rfl), (fun _ => ⟨n1.base (by omega), n2.base (by omega), n3.base (by omega)⟩), (fun h => ⟨(I9.out h).1, (hb.block _ (Array.getElem?_eq_some_iff.1 (I9.out h).2).1).trans (I9.out h).2⟩), (fun h => by cases h), (fun h => by cases h), (fun h => by cases h), (fun h => by cases h), (fun h => by cases h), rfl⟩
          · obtain rfl : x6 = false := by simpa using hbi
            obtain rfl : x5 = true := hdep _ rfl ⟨5, .data⟩ (by simp) rfl
            refine wpOpIn_plain rfl rfl rfl ?_
            exact ⟨bCL, bRL, aL1, aL2, aL3, dL1, dL2, dL3, IB, IC, IP, I9, J10, (fun _ => rfl), J7, J8, J11, rfl⟩
          · obtain rfl : x7 = false := by simpa using hbi
            obtain rfl : x6 = true := hdep _ rfl ⟨6, .data⟩ (by simp) rfl
            refine wpOpIn_plain (v := Value.agg #[Value.slice aL1 LS.length dL1, Value.slice aL2 LW.length dL2]) (w' := w') rfl rfl (by first | rfl | simp [Oper.semAt, execOp, go_sem]) ?_
            exact ⟨bCL, bRL, aL1, aL2, aL3, dL1, dL2, dL3, IB, IC, IP, I9, J10, J6, (fun _ => J6.out rfl), J8, J11, rfl⟩
          · obtain rfl : x8 = false := by simpa using hbi
            obtain rfl : x6 = true := hdep _ rfl ⟨6, .data⟩ (by simp) rfl
            refine wpOpIn_plain (v := Value.slice aL3 LX.length dL3) (w' := w') rfl rfl (by first | rfl | simp [Oper.semAt, execOp, go_sem]) ?_
            exact ⟨bCL, bRL, aL1, aL2, aL3, dL1, dL2, dL3, IB, IC, IP, I9, J10, J6, J7, (fun _ => J6.out rfl), J11, rfl⟩
          · obtain rfl : x9 = false := by simpa using hbi
            obtain rfl : x10 = false := Bool.eq_false_iff.2 fun h => by have := (J10.out h).2; cases this
            have hal := (Below.refl w'.heap.size w').alloc (Nat.le_refl _) (.cells #[Value.slice none 0 0, Value.slice none 0 0] 43)
            refine wpOpIn_plain (v := Value.pointer (some ⟨w'.heap.size, 0, none⟩)) (w' := w'.alloc (.cells #[Value.slice none 0 0, Value.slice none 0 0] 43)) rfl rfl (by simp [Oper.semAt, execOp, go_sem]) ?_
            exact ⟨bCL, w'.heap.size, aL1, aL2, aL3, dL1, dL2, dL3, (below_after IB.out hal (Nat.le_refl _)), (fun h => (IC.out h).imp id fun q => q.keep hal), (fun h => ⟨(IP.out h).1.keep hal, (IP.out h).2.1.keep hal, (IP.out h).2.2.keep hal⟩), (fun _ => ⟨hsz, heap_alloc_new w' _⟩), (fun h => by cases h), J6, J7, J8, J11, rfl⟩
          · obtain rfl : x10 = false := by simpa using hbi
            obtain rfl : x9 = true := hdep _ rfl ⟨9, .data⟩ (by simp) rfl
            obtain rfl : x7 = true := hdep _ rfl ⟨7, .data⟩ (by simp) rfl
            obtain rfl : x5 = true := J7.out rfl
            have hme : w'.heap[bRL]? = some (.cells #[Value.slice none 0 0, Value.slice none 0 0] 43 (0, 0)) := (I9.out rfl).2
            have hbb := (I9.out rfl).1
            have ip := IP.out rfl
            refine wpOpIn_store_row rfl rfl 43 _ _ rfl bRL #[Value.slice aL1 LS.length dL1, Value.slice aL2 LW.length dL2] rfl rfl 43 _ hme Try.info43 rfl (by simp [Value.oneCell']) ?_
            exact ⟨bCL, bRL, aL1, aL2, aL3, dL1, dL2, dL3, (IB.out.trans (below_setRow hbb _)), (fun _ => .inl rfl), (fun _ => ⟨ip.1.setRow hme (by decide) _, ip.2.1.setRow hme (by decide) _, ip.2.2.setRow hme (by decide) _⟩), (fun _ => ⟨hbb, setRow_heap w' bRL _ _ 43 _ hme⟩), (fun _ => ⟨rfl, rfl⟩), J6, J7, J8, J11, rfl⟩
          · obtain rfl : x11 = false := by simpa using hbi
            obtain rfl : x8 = true := hdep _ rfl ⟨8, .data⟩ (by simp) rfl
            refine wpOpIn_plain rfl rfl rfl ?_
            exact ⟨bCL, bRL, aL1, aL2, aL3, dL1, dL2, dL3, IB, IC, IP, I9, J10, J6, J7, J8, (fun _ => J8.out rfl), rfl⟩
        case fin =>
        intro listed a' Y2 hs hall ⟨bCL, bRL, aL1, aL2, aL3, dL1, dL2, dL3, IB, IC, IP, I9, J10, J6, J7, J8, J11, ha⟩
        obtain ⟨ls⟩ := listed
        match ls, hs with
        | [x0, x1, x2, x3, x4, x5, x6, x7, x8, x9, x10, x11], _ =>
        obtain rfl : x0 = true := hall 0 (by simp)
        obtain rfl : x1 = true := hall 1 (by simp)
        obtain rfl : x2 = true := hall 2 (by simp)
        obtain rfl : x3 = true := hall 3 (by simp)
        obtain rfl : x4 = true := hall 4 (by simp)
        obtain rfl : x5 = true := hall 5 (by simp)
        obtain rfl : x6 = true := hall 6 (by simp)
        obtain rfl : x7 = true := hall 7 (by simp)
        obtain rfl : x8 = true := hall 8 (by simp)
        obtain rfl : x9 = true := hall 9 (by simp)
        obtain rfl : x10 = true := hall 10 (by simp)
        obtain rfl : x11 = true := hall 11 (by simp)
        subst ha
        have ip := IP.out rfl
        have i9 := I9.out rfl
        have NL1 := Lib.hid ip.1
        have NL2 := Lib.hid ip.2.1
        have NL3 := Lib.hid ip.2.2
        have hbRL := i9.1
        have RL := Lib.hid i9.2
        have HBY2 := Lib.hid IB.out
        have hszY2 := IB.out.size
        clear ip i9 IB IC IP I9 J10 J6 J7 J8 J11 hall hs
        have hBB : Below wr.heap.size wr Y2 := HBY1.out.trans (HBY2.out.mono hszY1)
        have hg0 := below_heapAt hBB ⟨hzr2, G0.out⟩
        have hrk := below_heapAt HBY2.out ⟨(Array.getElem?_eq_some_iff.1 RK.out).1, RK.out⟩
        have ip1 : u11.ownBlock = none ∨ ∃ b, u11.ownBlock = some b ∧ X.heap.size + 1 ≤ b ∧ b < wr.heap.size := by
          cases hu : u11.ownBlock with
          | none => exact .inl rfl
          | some b => exact .inr ⟨b, rfl, NP.out.own.lt b hu⟩
        have ip2 : u12.ownBlock = none ∨ ∃ b, u12.ownBlock = some b ∧ X.heap.size + 1 ≤ b ∧ b < wr.heap.size := by
          cases hu : u12.ownBlock with
          | none => exact .inl rfl
          | some b => exact .inr ⟨b, rfl, NQ.out.own.lt b hu⟩
        have HP1 : Hid (∀ b, wr.heap.size ≤ b → some b ≠ u11.ownBlock) := fun b hb e => by
          rcases ip1 with h | ⟨c, h, _, h2⟩
          · rw [h] at e; cases e
          · rw [h] at e; have := Option.some.inj e; omega
        have HP2 : Hid (∀ b, wr.heap.size ≤ b → some b ≠ u12.ownBlock) := fun b hb e => by
          rcases ip2 with h | ⟨c, h, _, h2⟩
          · rw [h] at e; cases e
          · rw [h] at e; have := Option.some.inj e; omega
        have HP3 : Hid (some X.heap.size ≠ u11.ownBlock) := fun e => by
          rcases ip1 with h | ⟨c, h, h1, h2⟩
          · rw [h] at e; cases e
          · rw [h] at e; have := Option.some.inj e; omega
        have HP4 : Hid (some X.heap.size ≠ u12.ownBlock) := fun e => by
          rcases ip2 with h | ⟨c, h, h1, h2⟩
          · rw [h] at e; cases e
          · rw [h] at e; have := Option.some.inj e; omega
        have kb0 := (cell_of_row _ X.heap.size 0 _ _ _ hg0).trans rfl
        have kb1 := (cell_of_row _ X.heap.size 1 _ _ _ hg0).trans rfl
        have fb0 := frozen_of_row _ X.heap.size 0 _ _ hg0
        have fb1 := frozen_of_row _ X.heap.size 1 _ _ hg0
        have lb := (Array.getElem?_eq_some_iff.1 hg0).1
        have kw0 := (cell_of_row _ bRK 0 _ _ _ hrk).trans rfl
        have kw1 := (cell_of_row _ bRK 1 _ _ _ hrk).trans rfl
        have hne1 : bRK ≠ X.heap.size := by omega
        have hne2 : bRL ≠ X.heap.size := by omega
        have M0 := Lib.hid (below_heapAt_set _ X.heap.size (Value.slice aK1 KS.length dK1) (Value.slice aK2 KW.length dK2) hg0)
        have MRK : Hid (((Y2.setCell ⟨X.heap.size, 0, none⟩ (Value.slice aK1 KS.length dK1)).setCell ⟨X.heap.size, 1, none⟩ (Value.slice aK2 KW.length dK2)).heap[bRK]? = some (.cells #[Value.slice aK1 KS.length dK1, Value.slice aK2 KW.length dK2] 43 (0, 0))) := (heap_setCell_other _ _ _ _ (show bRK ≠ X.heap.size from hne1)).trans ((heap_setCell_other _ _ _ _ (show bRK ≠ X.heap.size from hne1)).trans hrk)
        have MRL : Hid (((Y2.setCell ⟨X.heap.size, 0, none⟩ (Value.slice aK1 KS.length dK1)).setCell ⟨X.heap.size, 1, none⟩ (Value.slice aK2 KW.length dK2)).heap[bRL]? = some (.cells #[.slice aL1 LS.length dL1, .slice aL2 LW.length dL2] 43 (0, 0))) := (heap_setCell_other _ _ _ _ (show bRL ≠ X.heap.size from hne2)).trans ((heap_setCell_other _ _ _ _ (show bRL ≠ X.heap.size from hne2)).trans RL.out)
        have MK1 := Lib.hid (((NK1.out.keep HBY2.out).set X.heap.size 0 (Value.slice aK1 KS.length dK1) (by omega)).set X.heap.size 1 (Value.slice aK2 KW.length dK2) (by omega))
        have MK2 := Lib.hid (((NK2.out.keep HBY2.out).set X.heap.size 0 (Value.slice aK1 KS.length dK1) (by omega)).set X.heap.size 1 (Value.slice aK2 KW.length dK2) (by omega))
        have MK3 := Lib.hid (((NK3.out.keep HBY2.out).set X.heap.size 0 (Value.slice aK1 KS.length dK1) (by omega)).set X.heap.size 1 (Value.slice aK2 KW.length dK2) (by omega))
        have ML1 := Lib.hid ((NL1.out.set X.heap.size 0 (Value.slice aK1 KS.length dK1) (by omega)).set X.heap.size 1 (Value.slice aK2 KW.length dK2) (by omega))
        have ML2 := Lib.hid ((NL2.out.set X.heap.size 0 (Value.slice aK1 KS.length dK1) (by omega)).set X.heap.size 1 (Value.slice aK2 KW.length dK2) (by omega))
        have ML3 := Lib.hid ((NL3.out.set X.heap.size 0 (Value.slice aK1 KS.length dK1) (by omega)).set X.heap.size 1 (Value.slice aK2 KW.length dK2) (by omega))
        have MP := Lib.hid (((NP.out.keep hBB).set X.heap.size 0 (Value.slice aK1 KS.length dK1) (by omega)).set X.heap.size 1 (Value.slice aK2 KW.length dK2) (by omega))
        have MQ := Lib.hid (((NQ.out.keep hBB).set X.heap.size 0 (Value.slice aK1 KS.length dK1) (by omega)).set X.heap.size 1 (Value.slice aK2 KW.length dK2) (by omega))
        have MB : Hid (Below X.heap.size X ((Y2.setCell ⟨X.heap.size, 0, none⟩ (Value.slice aK1 KS.length dK1)).setCell ⟨X.heap.size, 1, none⟩ (Value.slice aK2 KW.length dK2))) := ((HBr.out.trans (hBB.mono hzr)).setCell (p := ⟨X.heap.size, 0, none⟩) (Nat.le_refl _) _).setCell (p := ⟨X.heap.size, 1, none⟩) (Nat.le_refl _) _
        have hzZ : ((Y2.setCell ⟨X.heap.size, 0, none⟩ (Value.slice aK1 KS.length dK1)).setCell ⟨X.heap.size, 1, none⟩ (Value.slice aK2 KW.length dK2)).heap.size = Y2.heap.size := by simp
        clear hg0 hrk NK1 NK2 NK3 NL1 NL2 NL3 NP NQ RK RL callC callPK callPL ip1 ip2 hBB OO G0
        dsimp only [Exit.then, Exit.inBlock]
        go_wp2_with fail
        generalize (Y2.setCell ⟨X.heap.size, 0, none⟩ (Value.slice aK1 KS.length dK1)).setCell ⟨X.heap.size, 1, none⟩ (Value.slice aK2 KW.length dK2) = Y3 at *
        clear kb0 kb1 fb0 fb1 kw0 kw1 lb
        have hltRK := (Array.getElem?_eq_some_iff.1 MRK.out).1
        have hltRL := (Array.getElem?_eq_some_iff.1 MRL.out).1
        have hltX := (Array.getElem?_eq_some_iff.1 M0.out).1
        have callRL : ∀ V, (∀ b, b < Y3.heap.size → some b ≠ u11.ownBlock → some b ≠ u12.ownBlock → V.heap[b]? = Y3.heap[b]?) → Calls Try.prog 83 #[.agg #[.slice aL1 LS.length dL1, .slice aL2 LW.length dL2], .slice aL3 LX.length dL3] V fun e w' => e = .returned (.int .i64 (partR (leftP keep) sizes wrap k)) ∧ Below V.heap.size V w' := fun V hV => by
          have i1 : NewInts Y1.heap.size V (.slice aL1 LS.length dL1) LS := ⟨own_stay ML1.out.own (fun b hb => by have := ML1.out.own.lt b hb; exact hV b this.2 (HP1.out b (by omega)) (HP2.out b (by omega))), ML1.out.len⟩
          have i2 : NewBools Y1.heap.size V (.slice aL2 LW.length dL2) LW := ⟨own_stay ML2.out.own (fun b hb => by have := ML2.out.own.lt b hb; exact hV b this.2 (HP1.out b (by omega)) (HP2.out b (by omega))), ML2.out.len⟩
          have i3 : NewInts Y1.heap.size V (.slice aL3 LX.length dL3) LX := ⟨own_stay ML3.out.own (fun b hb => by have := ML3.out.own.lt b hb; exact hV b this.2 (HP1.out b (by omega)) (HP2.out b (by omega))), ML3.out.len⟩
          obtain ⟨g1, f1, e1, j1⟩ := i1.ints
          obtain ⟨g2, f2, e2, j2⟩ := i2.bools
          obtain ⟨g3, f3, e3, j3⟩ := i3.ints
          simp only [Value.slice.injEq] at e1 e2 e3
          obtain ⟨rfl, _, rfl⟩ := e1
          obtain ⟨rfl, _, rfl⟩ := e2
          obtain ⟨rfl, _, rfl⟩ := e3
          have hq := rank_ref j1 j2 j3 (by rw [HLS.out]; exact parS_size HOK.out.size) (by rw [HLS.out, HLW.out]; exact parW_len HOK.out.wrap) (by rw [HLS.out, HLX.out]; exact parX_len (coordsL_len sizes k)) (by rw [HLX.out]; exact parX_bd HOK.out.size k) dL1 dL2 dL3
          have hv : rankL 0 LS LW LX = partR (leftP keep) sizes wrap k := by rw [HLS.out, HLW.out, HLX.out, par_rank _ _ _ HOK.out.wrap, what_false]
          rw [hv] at hq
          exact hq
        have callRK : ∀ V, (∀ b, b < Y3.heap.size → some b ≠ u11.ownBlock → some b ≠ u12.ownBlock → V.heap[b]? = Y3.heap[b]?) → Calls Try.prog 83 #[.agg #[.slice aK1 KS.length dK1, .slice aK2 KW.length dK2], .slice aK3 KX.length dK3] V fun e w' => e = .returned (.int .i64 (partR (keptP keep) sizes wrap k)) ∧ Below V.heap.size V w' := fun V hV => by
          have i1 : NewInts wr.heap.size V (.slice aK1 KS.length dK1) KS := ⟨own_stay MK1.out.own (fun b hb => by have := MK1.out.own.lt b hb; exact hV b this.2 (HP1.out b (by omega)) (HP2.out b (by omega))), MK1.out.len⟩
          have i2 : NewBools wr.heap.size V (.slice aK2 KW.length dK2) KW := ⟨own_stay MK2.out.own (fun b hb => by have := MK2.out.own.lt b hb; exact hV b this.2 (HP1.out b (by omega)) (HP2.out b (by omega))), MK2.out.len⟩
          have i3 : NewInts wr.heap.size V (.slice aK3 KX.length dK3) KX := ⟨own_stay MK3.out.own (fun b hb => by have := MK3.out.own.lt b hb; exact hV b this.2 (HP1.out b (by omega)) (HP2.out b (by omega))), MK3.out.len⟩
          obtain ⟨g1, f1, e1, j1⟩ := i1.ints
          obtain ⟨g2, f2, e2, j2⟩ := i2.bools
          obtain ⟨g3, f3, e3, j3⟩ := i3.ints
          simp only [Value.slice.injEq] at e1 e2 e3
          obtain ⟨rfl, _, rfl⟩ := e1
          obtain ⟨rfl, _, rfl⟩ := e2
          obtain ⟨rfl, _, rfl⟩ := e3
          have hq := rank_ref j1 j2 j3 (by rw [HKS.out]; exact parS_size HOK.out.size) (by rw [HKS.out, HKW.out]; exact parW_len HOK.out.wrap) (by rw [HKS.out, HKX.out]; exact parX_len (coordsL_len sizes k)) (by rw [HKX.out]; exact parX_bd HOK.out.size k) dK1 dK2 dK3
          have hv : rankL 0 KS KW KX = partR (keptP keep) sizes wrap k := by rw [HKS.out, HKW.out, HKX.out, par_rank _ _ _ HOK.out.wrap, what_true]
          rw [hv] at hq
          exact hq
        have hl14 : ∀ V : World, (∀ b, b < Y3.heap.size → some b ≠ u11.ownBlock → some b ≠ u12.ownBlock → V.heap[b]? = Y3.heap[b]?) → V.heap[bRK]? = some (.cells #[.slice aK1 KS.length dK1, .slice aK2 KW.length dK2] 43 (0, 0)) := fun V hV => (hV bRK hltRK (HP1.out _ (by omega)) (HP2.out _ (by omega))).trans MRK.out
        have hl16 : ∀ V : World, (∀ b, b < Y3.heap.size → some b ≠ u11.ownBlock → some b ≠ u12.ownBlock → V.heap[b]? = Y3.heap[b]?) → V.heap[bRL]? = some (.cells #[.slice aL1 LS.length dL1, .slice aL2 LW.length dL2] 43 (0, 0)) := fun V hV => (hV bRL hltRL (HP1.out _ (by omega)) (HP2.out _ (by omega))).trans MRL.out
        obtain ⟨x1, hx1⟩ : ∃ x, x = partR (leftP keep) sizes wrap k := ⟨_, rfl⟩
        obtain ⟨x2, hx2⟩ : ∃ x, x = partR (keptP keep) sizes wrap k := ⟨_, rfl⟩
        rw [← hx1] at callRL
        rw [← hx2] at callRK
        obtain ⟨P1, hP1⟩ : ∃ l, l = firstF (partR (leftP keep) sizes wrap) k := ⟨_, rfl⟩
        obtain ⟨Q1, hQ1⟩ : ∃ l, l = firstF (partR (keptP keep) sizes wrap) k := ⟨_, rfl⟩
        have hlP : P1.length = k := by rw [hP1]; exact firstF_len _ _
        have hlQ : Q1.length = k := by rw [hQ1]; exact firstF_len _ _
        have HN1 : Hid (P1 ++ [x1] = firstF (partR (leftP keep) sizes wrap) (k + 1)) := by show _ = _; rw [hP1, hx1]; exact firstF_succ _ _
        have HN2 : Hid (Q1 ++ [x2] = firstF (partR (keptP keep) sizes wrap) (k + 1)) := by show _ = _; rw [hQ1, hx2]; exact firstF_succ _ _
        rw [← hP1] at MP
        rw [← hQ1] at MQ
        have HLP := Lib.hid hlP
        have HLQ := Lib.hid hlQ
        clear hx1 hx2 hP1 hQ1 hlP hlQ
        refine (wpIn_wide (n := 0)).1 ?_
        refine region_det (by kernel_rfl) (I := fun listed a' w' => ∃ (bA bB : Nat) (ua ub : Value), Hid (∀ b, b < Y3.heap.size → some b ≠ u11.ownBlock → some b ≠ u12.ownBlock → w'.heap[b]? = Y3.heap[b]?) ∧ Hid (Y3.heap.size ≤ w'.heap.size) ∧ Hid (Below X.heap.size X w') ∧ Hid (NewInts (X.heap.size + 1) w' (if listed.getD 5 false = true then ua else u11) (if listed.getD 5 false = true then P1 ++ [x1] else P1)) ∧ Hid (NewInts (X.heap.size + 1) w' (if listed.getD 11 false = true then ub else u12) (if listed.getD 11 false = true then Q1 ++ [x2] else Q1)) ∧ Hid (Apart (if listed.getD 5 false = true then ua else u11) (if listed.getD 11 false = true then ub else u12)) ∧ Hid (listed.getD 4 false = true → listed.getD 5 false = true ∨ (w'.heap[bA]? = some (.cells #[.int .i64 x1] 3 (0, 0)) ∧ (X.heap.size + 1) ≤ bA ∧ (if listed.getD 11 false = true then ub else u12).ownBlock ≠ some bA)) ∧ Hid (listed.getD 10 false = true → listed.getD 11 false = true ∨ (w'.heap[bB]? = some (.cells #[.int .i64 x2] 3 (0, 0)) ∧ (X.heap.size + 1) ≤ bB ∧ (if listed.getD 5 false = true then ua else u11).ownBlock ≠ some bB)) ∧ Hid (listed.getD 5 false = true → listed.getD 0 false = true ∧ listed.getD 4 false = true) ∧ Hid (listed.getD 11 false = true → listed.getD 6 false = true ∧ listed.getD 10 false = true) ∧ Hid (listed.getD 12 false = true → listed.getD 5 false = true) ∧ Hid (listed.getD 13 false = true → listed.getD 11 false = true) ∧ a' = ⟨#[Value.agg #[Value.slice sa sizes.length sc, Value.slice wa wrap.length vc], Value.slice ka keep.length kc, Value.pointer (some ⟨w.heap.size, 0, none⟩), undef, Value.pointer (some ⟨w.heap.size + 1, 0, none⟩), Value.slice none 0 0, Value.slice none 0 0, Value.int IntKind.i64 0, Value.int IntKind.i64 ↑N, Value.bool true, Value.pointer (some ⟨X.heap.size, 0, none⟩), (if listed.getD 12 false = true then ua else u11), (if listed.getD 13 false = true then ub else u12), Value.int IntKind.i64 ↑k, Value.pointer (some ⟨bRK, 0, none⟩), Value.slice aK3 KX.length dK3, Value.pointer (some ⟨bRL, 0, none⟩), Value.slice aL3 LX.length dL3, Value.tuple #[Value.int IntKind.i64 ↑N, Value.bool true], Value.agg #[Value.slice sa sizes.length sc, Value.slice wa wrap.length vc], Value.tuple #[Value.int IntKind.i64 ↑N, Value.bool true], Value.int IntKind.i64 ↑N, Value.bool true, Value.bool true, Value.bool false, undef, Value.slice ka keep.length kc, Value.int IntKind.i64 ↑keep.length, Value.pointer (some ⟨w.heap.size, 0, none⟩), Value.slice sa sizes.length sc, Value.int IntKind.i64 ↑sizes.length, Value.bool false, undef, Value.int IntKind.i64 ↑k, Value.int IntKind.i64 ↑N, Value.bool true, u36, u37, Value.tuple #[Value.agg #[Value.slice aK1 KS.length dK1, Value.slice aK2 KW.length dK2], Value.slice aK3 KX.length dK3], Value.agg #[Value.slice sa sizes.length sc, Value.slice wa wrap.length vc], Value.slice ka keep.length kc, Value.agg #[Value.slice sa sizes.length sc, Value.slice wa wrap.length vc], Value.int IntKind.i64 ↑k, Value.slice (some ⟨bCK, 0, none⟩) sizes.length sizes.length, Value.tuple #[Value.agg #[Value.slice aK1 KS.length dK1, Value.slice aK2 KW.length dK2], Value.slice aK3 KX.length dK3], Value.agg #[Value.slice aK1 KS.length dK1, Value.slice aK2 KW.length dK2], Value.slice aK3 KX.length dK3, Value.tuple #[Value.agg #[Value.slice aL1 LS.length dL1, Value.slice aL2 LW.length dL2], Value.slice aL3 LX.length dL3], Value.agg #[Value.slice sa sizes.length sc, Value.slice wa wrap.length vc], Value.slice ka keep.length kc, Value.agg #[Value.slice sa sizes.length sc, Value.slice wa wrap.length vc], Value.int IntKind.i64 ↑k, Value.slice (some ⟨bCL, 0, none⟩) sizes.length sizes.length, Value.tuple #[Value.agg #[Value.slice aL1 LS.length dL1, Value.slice aL2 LW.length dL2], Value.slice aL3 LX.length dL3], Value.agg #[Value.slice aL1 LS.length dL1, Value.slice aL2 LW.length dL2], Value.slice aL3 LX.length dL3, Value.agg #[Value.slice aK1 KS.length dK1, Value.slice aK2 KW.length dK2], (if listed.getD 0 false = true then u11 else u57), (if listed.getD 1 false = true then Value.agg #[Value.slice aL1 LS.length dL1, Value.slice aL2 LW.length dL2] else u58), (if listed.getD 2 false = true then Value.slice aL3 LX.length dL3 else u59), (if listed.getD 3 false = true then Value.int IntKind.i64 x1 else u60), (if listed.getD 4 false = true then Value.slice (some ⟨bA, 0, none⟩) 1 1 else u61), (if listed.getD 5 false = true then ua else u62), (if listed.getD 6 false = true then u12 else u63), (if listed.getD 7 false = true then Value.agg #[Value.slice aK1 KS.length dK1, Value.slice aK2 KW.length dK2] else u64), (if listed.getD 8 false = true then Value.slice aK3 KX.length dK3 else u65), (if listed.getD 9 false = true then Value.int IntKind.i64 x2 else u66), (if listed.getD 10 false = true then Value.slice (some ⟨bB, 0, none⟩) 1 1 else u67), (if listed.getD 11 false = true then ub else u68), undef, undef, undef], []⟩) (hup_check (by kernel_rfl)) ?h0 ?step ?fin
        have N1d : NewInts (X.heap.size + 1) Y3.drew u11 P1 := ⟨MP.out.own, MP.out.len⟩
        have N2d : NewInts (X.heap.size + 1) Y3.drew u12 Q1 := ⟨MQ.out.own, MQ.out.len⟩
        case h0 => exact ⟨0, 0, u11, u12, (fun b _ _ _ => rfl), (Nat.le_refl _), Lib.hid MB.out.drew, (by show NewInts _ _ _ _; simpa using N1d), (by show NewInts _ _ _ _; simpa using N2d), (by show Apart _ _; simpa using AP.out), fun h => by simp at h, fun h => by simp at h, fun h => by simp at h, fun h => by simp at h, fun h => by simp at h, fun h => by simp at h, rfl⟩
        case step =>
          intro listed a' w' i hs hbi hdep hi ⟨bA, bB, ua, ub, IS, IZ, IB, I1, I2, IP, IA, IC, J5, J11, J12, J13, ha⟩
          obtain ⟨ls⟩ := listed
          match ls, hs with
          | [x20, x21, x22, x23, x24, x25, x26, x27, x28, x29, x30, x31, x32, x33], _ =>
          subst ha
          have hi' : i = 0 ∨ i = 1 ∨ i = 2 ∨ i = 3 ∨ i = 4 ∨ i = 5 ∨ i = 6 ∨ i = 7 ∨ i = 8 ∨ i = 9 ∨ i = 10 ∨ i = 11 ∨ i = 12 ∨ i = 13 := by simp at hi; omega
          have hsz := IZ.out
          rcases hi' with rfl | rfl | rfl | rfl | rfl | rfl | rfl | rfl | rfl | rfl | rfl | rfl | rfl | rfl
          · obtain rfl : x20 = false := by simpa using hbi
            obtain rfl : x25 = false := Bool.eq_false_iff.2 fun h => by have := (J5.out h).1; cases this
            obtain rfl : x32 = false := Bool.eq_false_iff.2 fun h => by have := J12.out h; cases this
            refine wpOpIn_plain rfl rfl rfl ?_
            exact ⟨bA, bB, ua, ub, IS, IZ, IB, I1, I2, IP, IA, IC, (fun h => by cases h), J11, J12, J13, rfl⟩
          · obtain rfl : x21 = false := by simpa using hbi
            refine wpOpIn_load_row rfl rfl 43 _ rfl bRL rfl 43 _ _ _ (hl16 w' IS.out) Try.underlying43 rfl Try.info43 ?_
            exact ⟨bA, bB, ua, ub, IS, IZ, IB, I1, I2, IP, IA, IC, J5, J11, J12, J13, rfl⟩
          · obtain rfl : x22 = false := by simpa using hbi
            refine wpOpIn_plain rfl rfl rfl ?_
            exact ⟨bA, bB, ua, ub, IS, IZ, IB, I1, I2, IP, IA, IC, J5, J11, J12, J13, rfl⟩
          · obtain rfl : x23 = false := by simpa using hbi
            obtain rfl : x21 = true := hdep _ rfl ⟨1, .data⟩ (by simp) rfl
            obtain rfl : x22 = true := hdep _ rfl ⟨2, .data⟩ (by simp) rfl
            refine wpOpIn_call (args := #[Value.agg #[Value.slice aL1 LS.length dL1, Value.slice aL2 LW.length dL2], Value.slice aL3 LX.length dL3]) rfl rfl (sem_call2 rfl rfl rfl (enters_of Try.func83 (by kernel_rfl) rfl)) (callRL w' IS.out) ?_
            rintro e V ⟨rfl, hb⟩
            exact ⟨_, rfl, bA, bB, ua, ub, (fun b hbb h1 h2 => (hb.block b (by omega)).trans (IS.out b hbb h1 h2)), (Nat.le_trans IZ.out hb.size), (IB.out.trans (hb.mono (by omega))), (I1.out.keep hb), (I2.out.keep hb), IP, (fun h => (IA.out h).imp id fun q => ⟨(hb.block _ (Array.getElem?_eq_some_iff.1 q.1).1).trans q.1, q.2⟩), (fun h => (IC.out h).imp id fun q => ⟨(hb.block _ (Array.getElem?_eq_some_iff.1 q.1).1).trans q.1, q.2⟩), J5, J11, J12, J13, rfl⟩
          · obtain rfl : x24 = false := by simpa using hbi
            obtain rfl : x23 = true := hdep _ rfl ⟨3, .data⟩ (by simp) rfl
            obtain rfl : x25 = false := Bool.eq_false_iff.2 fun h => by have := (J5.out h).2; cases this
            have hal := (Below.refl w'.heap.size w').alloc (Nat.le_refl _) (.cells #[Value.int .i64 x1] 3)
            refine wpOpIn_plain (v := Value.slice (some ⟨w'.heap.size, 0, none⟩) 1 1) (w' := w'.alloc (.cells #[Value.int .i64 x1] 3)) rfl rfl (by simp [Oper.semAt, execOp, go_sem, *]) ?_
            exact ⟨w'.heap.size, bB, ua, ub, (fun b hbb h1 h2 => (hal.block b (by omega)).trans (IS.out b hbb h1 h2)), (Nat.le_trans IZ.out hal.size), (IB.out.alloc (by omega) _), (I1.out.keep hal), (I2.out.keep hal), IP, (fun _ => .inr ⟨heap_alloc_new w' _, by omega, fun e => by have := (I2.out.own.lt _ e).2; omega⟩), (fun h => (IC.out h).imp id fun q => ⟨(hal.block _ (Array.getElem?_eq_some_iff.1 q.1).1).trans q.1, q.2⟩), (fun h => by cases h), J11, J12, J13, rfl⟩
          · obtain rfl : x25 = false := by simpa using hbi
            obtain rfl : x20 = true := hdep _ rfl ⟨0, .data⟩ (by simp) rfl
            obtain rfl : x24 = true := hdep _ rfl ⟨4, .data⟩ (by simp) rfl
            obtain rfl : x32 = false := Bool.eq_false_iff.2 fun h => by have := J12.out h; cases this
            have i1 : NewInts (X.heap.size + 1) w' u11 P1 := I1.out
            have hA := (IA.out rfl).resolve_left (fun h => by cases h)
            obtain ⟨v', w1, hrun, n1, hgrow, hor⟩ := append1 i1 (by have := HLP.out; omega) hA.1 (by omega)
            refine wpOpIn_append rfl rfl _ _ 22 rfl (vs := u11) (vx := Value.slice (some ⟨bA, 0, none⟩) 1 1) rfl rfl hrun ?_
            have hlt9 : ∀ {b : Nat} {o : Obj}, w'.heap[b]? = some o → b < w'.heap.size := fun h => (Array.getElem?_eq_some_iff.1 h).1
            exact ⟨bA, bB, v', ub, (fun b hb h1 h2 => (hgrow.block b (by omega) h1).trans (IS.out b hb h1 h2)), (Nat.le_trans IZ.out hgrow.size), (IB.out.grown hgrow (by omega) (fun kk hkk => by have := (i1.own.lt kk hkk).1; omega)), n1, ⟨own_grownE I2.out.own hgrow (fun b hb e0 => IP.out b e0.symm hb), I2.out.len⟩, (apart_grow_l IP.out hor I2.out.own), (fun _ => .inl rfl), (fun h => (IC.out h).imp id fun q => ⟨(hgrow.block _ (hlt9 q.1) (fun e => q.2.2 e.symm)).trans q.1, q.2.1, own_grow_ne q.2.2 hor q.1⟩), (fun _ => ⟨rfl, rfl⟩), J11, (fun h => by cases h), J13, rfl⟩
          · obtain rfl : x26 = false := by simpa using hbi
            obtain rfl : x31 = false := Bool.eq_false_iff.2 fun h => by have := (J11.out h).1; cases this
            obtain rfl : x33 = false := Bool.eq_false_iff.2 fun h => by have := J13.out h; cases this
            refine wpOpIn_plain rfl rfl rfl ?_
            exact ⟨bA, bB, ua, ub, IS, IZ, IB, I1, I2, IP, IA, IC, J5, (fun h => by cases h), J12, J13, rfl⟩
          · obtain rfl : x27 = false := by simpa using hbi
            refine wpOpIn_load_row rfl rfl 43 _ rfl bRK rfl 43 _ _ _ (hl14 w' IS.out) Try.underlying43 rfl Try.info43 ?_
            exact ⟨bA, bB, ua, ub, IS, IZ, IB, I1, I2, IP, IA, IC, J5, J11, J12, J13, rfl⟩
          · obtain rfl : x28 = false := by simpa using hbi
            refine wpOpIn_plain rfl rfl rfl ?_
            exact ⟨bA, bB, ua, ub, IS, IZ, IB, I1, I2, IP, IA, IC, J5, J11, J12, J13, rfl⟩
          · obtain rfl : x29 = false := by simpa using hbi
            obtain rfl : x27 = true := hdep _ rfl ⟨7, .data⟩ (by simp) rfl
            obtain rfl : x28 = true := hdep _ rfl ⟨8, .data⟩ (by simp) rfl
            refine wpOpIn_call (args := #[Value.agg #[Value.slice aK1 KS.length dK1, Value.slice aK2 KW.length dK2], Value.slice aK3 KX.length dK3]) rfl rfl (sem_call2 rfl rfl rfl (enters_of Try.func83 (by kernel_rfl) rfl)) (callRK w' IS.out) ?_
            rintro e V ⟨rfl, hb⟩
            exact ⟨_, rfl, bA, bB, ua, ub, (fun b hbb h1 h2 => (hb.block b (by omega)).trans (IS.out b hbb h1 h2)), (Nat.le_trans IZ.out hb.size), (IB.out.trans (hb.mono (by omega))), (I1.out.keep hb), (I2.out.keep hb), IP, (fun h => (IA.out h).imp id fun q => ⟨(hb.block _ (Array.getElem?_eq_some_iff.1 q.1).1).trans q.1, q.2⟩), (fun h => (IC.out h).imp id fun q => ⟨(hb.block _ (Array.getElem?_eq_some_iff.1 q.1).1).trans q.1, q.2⟩), J5, J11, J12, J13, rfl⟩
          · obtain rfl : x30 = false := by simpa using hbi
            obtain rfl : x29 = true := hdep _ rfl ⟨9, .data⟩ (by simp) rfl
            obtain rfl : x31 = false := Bool.eq_false_iff.2 fun h => by have := (J11.out h).2; cases this
            have hal := (Below.refl w'.heap.size w').alloc (Nat.le_refl _) (.cells #[Value.int .i64 x2] 3)
            refine wpOpIn_plain (v := Value.slice (some ⟨w'.heap.size, 0, none⟩) 1 1) (w' := w'.alloc (.cells #[Value.int .i64 x2] 3)) rfl rfl (by simp [Oper.semAt, execOp, go_sem, *]) ?_
            exact ⟨bA, w'.heap.size, ua, ub, (fun b hbb h1 h2 => (hal.block b (by omega)).trans (IS.out b hbb h1 h2)), (Nat.le_trans IZ.out hal.size), (IB.out.alloc (by omega) _), (I1.out.keep hal), (I2.out.keep hal), IP, (fun h => (IA.out h).imp id fun q => ⟨(hal.block _ (Array.getElem?_eq_some_iff.1 q.1).1).trans q.1, q.2⟩), (fun _ => .inr ⟨heap_alloc_new w' _, by omega, fun e => by have := (I1.out.own.lt _ e).2; omega⟩), J5, (fun h => by cases h), J12, J13, rfl⟩
          · obtain rfl : x31 = false := by simpa using hbi
            obtain rfl : x26 = true := hdep _ rfl ⟨6, .data⟩ (by simp) rfl
            obtain rfl : x30 = true := hdep _ rfl ⟨10, .data⟩ (by simp) rfl
            obtain rfl : x33 = false := Bool.eq_false_iff.2 fun h => by have := J13.out h; cases this
            have i1 : NewInts (X.heap.size + 1) w' u12 Q1 := I2.out
            have hA := (IC.out rfl).resolve_left (fun h => by cases h)
            obtain ⟨v', w1, hrun, n1, hgrow, hor⟩ := append1 i1 (by have := HLQ.out; omega) hA.1 (by omega)
            refine wpOpIn_append rfl rfl _ _ 22 rfl (vs := u12) (vx := Value.slice (some ⟨bB, 0, none⟩) 1 1) rfl rfl hrun ?_
            have hlt9 : ∀ {b : Nat} {o : Obj}, w'.heap[b]? = some o → b < w'.heap.size := fun h => (Array.getElem?_eq_some_iff.1 h).1
            exact ⟨bA, bB, ua, v', (fun b hb h1 h2 => (hgrow.block b (by omega) h2).trans (IS.out b hb h1 h2)), (Nat.le_trans IZ.out hgrow.size), (IB.out.grown hgrow (by omega) (fun kk hkk => by have := (i1.own.lt kk hkk).1; omega)), ⟨own_grownE I1.out.own hgrow (fun b hb e0 => IP.out b hb e0.symm), I1.out.len⟩, n1, (apart_grow_r IP.out hor I1.out.own), (fun h => (IA.out h).imp id fun q => ⟨(hgrow.block _ (hlt9 q.1) (fun e => q.2.2 e.symm)).trans q.1, q.2.1, own_grow_ne q.2.2 hor q.1⟩), (fun _ => .inl rfl), J5, (fun _ => ⟨rfl, rfl⟩), J12, (fun h => by cases h), rfl⟩
          · obtain rfl : x32 = false := by simpa using hbi
            obtain rfl : x25 = true := hdep _ rfl ⟨5, .data⟩ (by simp) rfl
            refine wpOpIn_plain rfl rfl rfl ?_
            exact ⟨bA, bB, ua, ub, IS, IZ, IB, I1, I2, IP, IA, IC, J5, J11, (fun _ => rfl), J13, rfl⟩
          · obtain rfl : x33 = false := by simpa using hbi
            obtain rfl : x31 = true := hdep _ rfl ⟨11, .data⟩ (by simp) rfl
            refine wpOpIn_plain rfl rfl rfl ?_
            exact ⟨bA, bB, ua, ub, IS, IZ, IB, I1, I2, IP, IA, IC, J5, J11, J12, (fun _ => rfl), rfl⟩
        case fin =>
        intro listed a' w' hs hall ⟨bA, bB, ua, ub, IS, IZ, IB, I1, I2, IP, IA, IC, J5, J11, J12, J13, ha⟩
        obtain ⟨ls⟩ := listed
        match ls, hs with
        | [x20, x21, x22, x23, x24, x25, x26, x27, x28, x29, x30, x31, x32, x33], _ =>
        obtain rfl : x20 = true := hall 0 (by simp)
        obtain rfl : x21 = true := hall 1 (by simp)
        obtain rfl : x22 = true := hall 2 (by simp)
        obtain rfl : x23 = true := hall 3 (by simp)
        obtain rfl : x24 = true := hall 4 (by simp)
        obtain rfl : x25 = true := hall 5 (by simp)
        obtain rfl : x26 = true := hall 6 (by simp)
        obtain rfl : x27 = true := hall 7 (by simp)
        obtain rfl : x28 = true := hall 8 (by simp)
        obtain rfl : x29 = true := hall 9 (by simp)
        obtain rfl : x30 = true := hall 10 (by simp)
        obtain rfl : x31 = true := hall 11 (by simp)
        obtain rfl : x32 = true := hall 12 (by simp)
        obtain rfl : x33 = true := hall 13 (by simp)
        subst ha
        have i1 : Hid (NewInts (X.heap.size + 1) w' ua (firstF (partR (leftP keep) sizes wrap) (k + 1))) := by rw [← HN1.out]; exact I1
        have i2 : Hid (NewInts (X.heap.size + 1) w' ub (firstF (partR (keptP keep) sizes wrap) (k + 1))) := by rw [← HN2.out]; exact I2
        have ip : Hid (Apart ua ub) := IP
        have r1 := Lib.hid ((IS.out X.heap.size hltX HP3.out HP4.out).trans M0.out)
        have o1' : NewInts (X.heap.size + 1) w' (.slice aK1 KS.length dK1) (subS sizes keep) := by
          rw [← subS_par, ← HKS.out]
          exact (show NewInts wr.heap.size w' _ _ from ⟨own_stay MK1.out.own (fun b hb => by have := MK1.out.own.lt b hb; exact IS.out b this.2 (HP1.out b (by omega)) (HP2.out b (by omega))), MK1.out.len⟩).base (by omega)
        have o2' : NewBools (X.heap.size + 1) w' (.slice aK2 KW.length dK2) (subW sizes wrap keep) := by
          rw [← subW_par, ← HKW.out]
          exact (show NewBools wr.heap.size w' _ _ from ⟨own_stay MK2.out.own (fun b hb => by have := MK2.out.own.lt b hb; exact IS.out b this.2 (HP1.out b (by omega)) (HP2.out b (by omega))), MK2.out.len⟩).base (by omega)
        have OO' : Hid (k + 1 = 0 ∨ (NewInts (X.heap.size + 1) w' (.slice aK1 KS.length dK1) (subS sizes keep) ∧ NewBools (X.heap.size + 1) w' (.slice aK2 KW.length dK2) (subW sizes wrap keep))) := .inr ⟨o1', o2'⟩
        clear IS IZ I1 I2 IP IA IC J5 J11 J12 J13 hall hs callRL callRK hl14 hl16 o1' o2'
        dsimp only [Exit.then, Exit.inBlock]
        go_wp2_with fail
        go_roundw
        case rel => exact ⟨k + 1, _, _, by omega, by go_num, r1, i1, i2, ip, IB, OO'⟩
        case measure => simp [intOf]; omega

      · have hkN : k = N := by omega
        subst hkN
        rw [← HCN.out] at NP NQ
        obtain ⟨n1, n2⟩ := OO.out.resolve_left (by omega)
        have hr1 := below_heapAt HBr.out ⟨by omega, HR1.out⟩
        have HRB := Lib.hid hr1
        have kb0 := (cell_of_row _ (w.heap.size + 1) 0 _ _ _ hr1).trans rfl
        have kb1 := (cell_of_row _ (w.heap.size + 1) 1 _ _ _ hr1).trans rfl
        have fb0 := frozen_of_row _ (w.heap.size + 1) 0 _ _ hr1
        have fb1 := frozen_of_row _ (w.heap.size + 1) 1 _ _ hr1
        have lb := (Array.getElem?_eq_some_iff.1 hr1).1
        have kw0 := (cell_of_row _ X.heap.size 0 _ _ _ G0.out).trans rfl
        have kw1 := (cell_of_row _ X.heap.size 1 _ _ _ G0.out).trans rfl
        obtain ⟨a1, d1, rfl, _⟩ := n1.ints
        obtain ⟨a2, d2, rfl, _⟩ := n2.bools
        obtain ⟨a3, d3, rfl, _⟩ := NP.out.ints
        obtain ⟨a4, d4, rfl, _⟩ := NQ.out.ints
        have m1 := Lib.hid (((n1.set (w.heap.size + 1) 0 (.slice a1 (subS sizes keep).length d1) (by omega)).set (w.heap.size + 1) 1 (.slice a2 (subW sizes wrap keep).length d2) (by omega)).base (B' := w.heap.size) (by omega))
        have m2 := Lib.hid (((n2.set (w.heap.size + 1) 0 (.slice a1 (subS sizes keep).length d1) (by omega)).set (w.heap.size + 1) 1 (.slice a2 (subW sizes wrap keep).length d2) (by omega)).base (B' := w.heap.size) (by omega))
        have m3 := Lib.hid (((NP.out.set (w.heap.size + 1) 0 (.slice a1 (subS sizes keep).length d1) (by omega)).set (w.heap.size + 1) 1 (.slice a2 (subW sizes wrap keep).length d2) (by omega)).base (B' := w.heap.size) (by omega))
        have m4 := Lib.hid (((NQ.out.set (w.heap.size + 1) 0 (.slice a1 (subS sizes keep).length d1) (by omega)).set (w.heap.size + 1) 1 (.slice a2 (subW sizes wrap keep).length d2) (by omega)).base (B' := w.heap.size) (by omega))
        have m5 := Lib.hid ((HWR.out.setCell (p := ⟨w.heap.size + 1, 0, none⟩) (by show w.heap.size ≤ w.heap.size + 1; omega) (.slice a1 (subS sizes keep).length d1)).setCell (p := ⟨w.heap.size + 1, 1, none⟩) (by show w.heap.size ≤ w.heap.size + 1; omega) (.slice a2 (subW sizes wrap keep).length d2))
        have m6 := Lib.hid (below_heapAt_set _ (w.heap.size + 1) (.slice a1 (subS sizes keep).length d1) (.slice a2 (subW sizes wrap keep).length d2) HRB.out)
        clear hr1 n1 n2 NP NQ OO AP
        go_wp2_with fail
        generalize (wr.setCell ⟨w.heap.size + 1, 0, none⟩ (.slice a1 (subS sizes keep).length d1)).setCell ⟨w.heap.size + 1, 1, none⟩ (.slice a2 (subW sizes wrap keep).length d2) = Z at *
        refine bodyPost_ret (v := .tuple #[.agg #[.slice a1 (subS sizes keep).length d1, .slice a2 (subW sizes wrap keep).length d2], .slice a3 (subRow (leftP keep) sizes wrap).length d3, .slice a4 (subRow (keptP keep) sizes wrap).length d4, .int .i64 0]) ?_ rfl ⟨_, _, _, _, rfl, m1.out, m2.out, m3.out, m4.out, m5.out⟩
        simp [results, loadGridR m6.out, Try.results45, asAddr]
    · have HN : Hid (subE sizes wrap.length keep = 26) := by show _ = _; unfold subE; rw [if_neg hc, if_pos hkl]
      rw [HN.out]
      simp only [show ¬ (26 : Int) = 0 by decide, if_false]
      have hke : ((keep.length : Int) == (sizes.length : Int)) = false := beq_eq_false_iff_ne.2 (by omega)
      have hkn : ((keep.length : Int) != (sizes.length : Int)) = true := by rw [bne_iff_ne]; omega
      clear h hw hk hc hkl
      generalize countL sizes wrap.length = cn at *
      go_enter Try.func45, Try.ntmps45
      go_wp2_with fail
      generalize ((w.alloc (.cells #[.slice sa sizes.length sc, .slice wa wrap.length vc] 43)).alloc (.cells #[.slice none 0 0, .slice none 0 0] 43)) = w0 at *
      refine hg.mono ?_
      rintro e X ⟨rfl, hb⟩
      have hrb' := below_heapAt hb ⟨by omega, q1⟩
      have hrc' := below_heapAt hb ⟨by omega, q0⟩
      have c0 := (cell_of_row X w.heap.size 0 _ _ _ hrc').trans rfl
      have hE0 := (cell_of_row X (w.heap.size + 1) 0 _ _ _ hrb').trans rfl
      have hE1 := (cell_of_row X (w.heap.size + 1) 1 _ _ _ hrb').trans rfl
      have hZ0 := frozen_of_row X (w.heap.size + 1) 0 _ _ hrb'
      have hZ1 := frozen_of_row X (w.heap.size + 1) 1 _ _ hrb'
      have hL := (Array.getElem?_eq_some_iff.1 hrb').1
      have HB := Lib.hid (hb0.trans (hb.mono hb0.size))
      have HR := Lib.hid hrb'
      clear hg hrb' hrc' hb hb0 q0 q1
      go_wp2_with fail
      have R0 := (below_heapAt_set X (w.heap.size + 1) (.slice none 0 0) (.slice none 0 0) HR.out)
      have FW := Lib.hid ((HB.out.setCell (p := ⟨w.heap.size + 1, 0, none⟩) (by show w.heap.size ≤ w.heap.size + 1; omega) (.slice none 0 0)).setCell (p := ⟨w.heap.size + 1, 1, none⟩) (by show w.heap.size ≤ w.heap.size + 1; omega) (.slice none 0 0))
      generalize (X.setCell ⟨w.heap.size + 1, 0, none⟩ (.slice none 0 0)).setCell ⟨w.heap.size + 1, 1, none⟩ (.slice none 0 0) = Z at *
      refine bodyPost_ret (v := .tuple #[.agg #[.slice none 0 0, .slice none 0 0], .slice none 0 0, .slice none 0 0, .int .i64 26]) ?_ rfl ⟨_, _, _, _, rfl, ⟨World.ownsRow_nil _ _ _ _, by simp⟩, ⟨World.ownsRow_nil _ _ _ _, by simp⟩, ⟨World.ownsRow_nil _ _ _ _, by simp⟩, ⟨World.ownsRow_nil _ _ _ _, by simp⟩, FW.out⟩
      simp [results, loadGridR R0, Try.results45, asAddr]
end Go.Proofs.Ytoloiingodigpaa
