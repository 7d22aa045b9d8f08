import Derived.Test.YtjcdnaandbockaaGreatGl
import Derived.Deep.SlicePairs
import Derived.Test.YtjcdnaandbockaaGreatGw
import Derived.Test.YtjcdnaandbockaaGreatGk
import Derived.Test.YtjcdnaandbockaaGreatGe
import Derived.BigQuiet
import Derived.Deep.DeepCutAuto
import Derived.Deep.CutBlock
namespace Go.Proofs.YtjcdnaandbockaaGreat
open Go.RowKit Go.Shelf Go.Deep
set_option maxRecDepth 100000

/-- a call for some of four sums -/
structure Ac where
  wh : Nat
  on_ : Nat
  ot : Nat
  bi : Nat
structure Ac.Ok (u : Ac) : Prop where
  wh : u.wh < 256
  on_ : u.on_ < 256
  ot : u.ot < 256
  bi : u.bi < 18446744073709551616
structure Acs (w : World) (a : Option Addr) (l : List Ac) : Prop where
  len : l.length ≤ 9223372036854775807
  ok : ∀ u ∈ l, u.Ok
  at_ : l ≠ [] → ∃ g o, a = some ⟨g, o, none⟩ ∧ ∀ i, (h : i < l.length) → w.cell? ⟨g, o + i * 4, none⟩ = some (.int .u8 (l[i]).wh) ∧ w.cell? ⟨g, o + i * 4 + 1, none⟩ = some (.int .u8 (l[i]).on_) ∧ w.cell? ⟨g, o + i * 4 + 2, none⟩ = some (.int .u8 (l[i]).ot) ∧ w.cell? ⟨g, o + i * 4 + 3, none⟩ = some (.int .u64 (l[i]).bi)
theorem Acs.keep {w w' : World} {a : Option Addr} {l : List Ac} (h : Acs w a l) (hb : Below w.heap.size w w') : Acs w' a l := by
  refine ⟨h.len, h.ok, fun hne => ?_⟩
  obtain ⟨g, o, ha, hc⟩ := h.at_ hne
  exact ⟨g, o, ha, fun i hi => ⟨kcell hb (hc i hi).1, kcell hb (hc i hi).2.1, kcell hb (hc i hi).2.2.1, kcell hb (hc i hi).2.2.2⟩⟩
theorem u8_nat' {a : Int} (h : (Lit.int .u8 a).wf = true) : ∃ x : Nat, a = x ∧ x < 256 := by
  have h2 : IntKind.u8.min ≤ a ∧ a ≤ IntKind.u8.max := by simpa [Lit.wf] using h
  have e1 : IntKind.u8.min = 0 := by decide
  have e2 : IntKind.u8.max = 255 := by decide
  exact ⟨a.toNat, by omega, by omega⟩
theorem acs_of_trod {H : Type} {enc : TypeId × Value → H} {W : World} {x : Option Addr} {len cap : Nat} {d : DataW H} {ps : List MemPlace} (h : DataW.Trod enc Tryz.prog W 0 (fun _ => true) true 40 (.slice x len cap) d ps) :
    ∃ l : List Ac, l.length = len ∧ len ≤ cap ∧ Acs W x l := by
  obtain ⟨fuel, hf⟩ := h
  rcases open_slice Tryz.underlying40 hf with ⟨hcs, hx⟩ | ⟨a, len', cap', m, n, D, Pl, hcs, _, hl, hm, hmm, hx, hall⟩
  · have e : (Value.slice x len cap) = .slice none 0 0 := by simpa [Value.cells] using hcs
    cases e
    exact ⟨[], rfl, Nat.le_refl _, ⟨by simp, (fun u hu => by cases hu), fun hl => absurd rfl hl⟩⟩
  · have e : (Value.slice x len cap) = .slice (some a) len' cap' := by simpa [Value.cells] using hcs
    cases e
    simp only [if_true] at hmm
    have each : ∀ i, i < len → ∃ u : Ac, u.Ok ∧ W.cell? (a.add (i * 4)) = some (.int .u8 u.wh) ∧ W.cell? (a.add (i * 4 + 1)) = some (.int .u8 u.on_) ∧ W.cell? (a.add (i * 4 + 2)) = some (.int .u8 u.ot) ∧ W.cell? (a.add (i * 4 + 3)) = some (.int .u64 u.bi) := by
      intro i hi
      obtain ⟨cs', h1, h2⟩ := hall i (by omega)
      rw [show Tryz.prog.cellsOf 50 = 4 by kernel_rfl] at h1
      obtain ⟨_, hlen, hcell⟩ := World.cells?_some h1
      obtain ⟨xs, k, hk, hxy, _, hxl, hg⟩ := DataW.trod_struct Tryz.underlying50 h2
      match xs, hxl, cs', hlen with
      | [y0, y1, y2, y3], _, [v0, v1, v2, v3], _ =>
        have g0 := hg 0 _ rfl
        have g1 := hg 1 _ rfl
        have g2 := hg 2 _ rfl
        have g3 := hg 3 _ rfl
        have c5 : Tryz.prog.cellsOf 5 = 1 := by kernel_rfl
        have c22 : Tryz.prog.cellsOf 22 = 1 := by kernel_rfl
        simp [c5, c22] at g0 g1 g2 g3
        have e0 := hcell 0 (by omega)
        have e1 := hcell 1 (by omega)
        have e2 := hcell 2 (by omega)
        have e3 := hcell 3 (by omega)
        rw [add_add] at e0 e1 e2 e3
        obtain ⟨z0, q0, _, w0⟩ := DataW.trod_int Tryz.underlying5 g0
        obtain ⟨z1, q1, _, w1⟩ := DataW.trod_int Tryz.underlying5 g1
        obtain ⟨z2, q2, _, w2⟩ := DataW.trod_int Tryz.underlying5 g2
        obtain ⟨z3, q3, _, w3⟩ := DataW.trod_int Tryz.underlying22 g3
        obtain ⟨n0, rfl, l0⟩ := u8_nat' w0
        obtain ⟨n1, rfl, l1⟩ := u8_nat' w1
        obtain ⟨n2, rfl, l2⟩ := u8_nat' w2
        obtain ⟨n3, rfl, l3⟩ := u64_nat w3
        simp at q0 q1 q2 q3
        refine ⟨⟨n0, n1, n2, n3⟩, ⟨l0, l1, l2, l3⟩, ?_, ?_, ?_, ?_⟩
        · simpa [q0] using e0
        · simpa [q1] using e1
        · simpa [q2] using e2
        · simpa [q3] using e3
    have hlist : ∀ n, n ≤ len → ∃ l : List Ac, l.length = n ∧ ∀ i, (hi : i < l.length) → (l[i]).Ok ∧ W.cell? (a.add (i * 4)) = some (.int .u8 (l[i]).wh) ∧ W.cell? (a.add (i * 4 + 1)) = some (.int .u8 (l[i]).on_) ∧ W.cell? (a.add (i * 4 + 2)) = some (.int .u8 (l[i]).ot) ∧ W.cell? (a.add (i * 4 + 3)) = some (.int .u64 (l[i]).bi) := by
      intro n
      induction n with
      | zero => intro _; exact ⟨[], rfl, fun i hi => by simp at hi⟩
      | succ n ih =>
        intro hn
        obtain ⟨l, hl1, hl2⟩ := ih (by omega)
        obtain ⟨u, hu⟩ := each n (by omega)
        refine ⟨l ++ [u], by simp [hl1], fun i hi => ?_⟩
        by_cases hin : i < l.length
        · rw [List.getElem_append_left hin]
          exact hl2 i hin
        · have hin2 : i = n := by simp at hi; omega
          subst hin2
          rw [List.getElem_append_right (by omega)]
          simpa [hl1] using hu
    obtain ⟨l, hl1, hl2⟩ := hlist len (Nat.le_refl _)
    refine ⟨l, hl1, hl, ⟨by rw [hl1]; unfold maxLen at hm; omega, ?_, fun hne => ?_⟩⟩
    · intro u hu
      obtain ⟨i, hi, rfl⟩ := List.getElem_of_mem hu
      exact (hl2 i hi).1
    · have hp : 0 < l.length := by cases l with | nil => exact absurd rfl hne | cons _ _ => simp
      obtain ⟨b, off, q⟩ := a
      have hq : q = none := by simpa [Addr.add] using World.cell?_spot (hl2 0 hp).2.1
      subst hq
      refine ⟨b, off, rfl, fun i hi => ?_⟩
      have := hl2 i hi
      simpa [part_add, Nat.add_assoc] using this.2
end Go.Proofs.YtjcdnaandbockaaGreat

namespace Go.Proofs.YtjcdnaandbockaaGreat
open Go.RowKit Go.Shelf
attribute [local go_sem] Oper.semAt_some
set_option maxRecDepth 100000
set_option maxHeartbeats 20000000

theorem SA.congr {w : World} {A : Nat} {pa : Nat → Nat} {F F' : Nat → Facts} {k : Nat} (h : SA w A pa F k) (e : ∀ j, j < k → F j = F' j) : SA w A pa F' k :=
  ⟨h.row, fun j hj => by rw [← e j hj]; exact h.el j hj, h.inj, h.le⟩
theorem SB.congr {w : World} {A : Nat} {pa : Nat → Nat} {F F' : Nat → Facts} {k : Nat} (h : SB w A pa F k) (e : ∀ j, j < k → F j = F' j) : SB w A pa F' k :=
  ⟨h.row, fun j hj => by rw [← e j hj]; exact h.el j hj, h.inj, h.le⟩
theorem row_new (w : World) (t : TypeId) : (w.alloc (.cells #[.pointer none, .pointer none, .pointer none, .pointer none] t)).rowIs w.heap.size t 4 (fun _ => .pointer none) := by
  refine ⟨_, heap_alloc_new w _, rfl, fun i hi => ?_⟩
  have : i = 0 ∨ i = 1 ∨ i = 2 ∨ i = 3 := by omega
  rcases this with rfl | rfl | rfl | rfl <;> rfl
theorem sa_new (w : World) : SA (w.alloc (.cells #[.pointer none, .pointer none, .pointer none, .pointer none] 42)) w.heap.size (fun _ => 0) (fun _ => zeroF) 0 :=
  ⟨⟨_, row_new w 42, fun j hj => by omega⟩, fun j hj => by omega, fun i j hi => by omega, by omega⟩
theorem sb_new (w : World) : SB (w.alloc (.cells #[.pointer none, .pointer none, .pointer none, .pointer none] 44)) w.heap.size (fun _ => 0) (fun _ => zeroF) 0 :=
  ⟨⟨_, row_new w 44, fun j hj => by omega⟩, fun j hj => by omega, fun i j hi => by omega, by omega⟩
theorem SA.fresh {w : World} {A : Nat} {pa : Nat → Nat} {F : Nat → Facts} {k p : Nat} (h : SA w A pa F k) (hp : w.heap.size ≤ p) : ∀ j, j < k → p ≠ pa j := fun j hj => by
  have := (h.el j hj).lt
  omega
theorem SB.fresh {w : World} {A : Nat} {pa : Nat → Nat} {F : Nat → Facts} {k p : Nat} (h : SB w A pa F k) (hp : w.heap.size ≤ p) : ∀ j, j < k → p ≠ pa j := fun j hj => by
  have := (h.el j hj).lt
  omega
theorem RAcc.otherA {w w' : World} {b c : Nat} {f g : Facts} (h : RAcc w b f) (hs : Sole c w w') (ha : AAt w c g) : RAcc w' b f := by
  obtain ⟨cs, hc⟩ := ha.ty
  obtain ⟨ds, hd⟩ := h.ty
  exact h.other hs hc (by decide) (ty_ne hd hc (by decide))
theorem SA.rowTy {w : World} {A : Nat} {pa : Nat → Nat} {F : Nat → Facts} {k : Nat} (h : SA w A pa F k) : ∃ cs, w.heap[A]? = some (.cells cs 42 (0, 0)) := by
  obtain ⟨f, h1, _⟩ := h.row
  exact rowIs_ty h1
theorem SB.rowTy {w : World} {A : Nat} {pa : Nat → Nat} {F : Nat → Facts} {k : Nat} (h : SB w A pa F k) : ∃ cs, w.heap[A]? = some (.cells cs 44 (0, 0)) := by
  obtain ⟨f, h1, _⟩ := h.row
  exact rowIs_ty h1
section
variable {w w' : World} {A B c k m : Nat} {pa pb : Nat → Nat} {F G : Nat → Facts} {f g : Facts}
theorem SB.otherA (h : SB w B pb G k) (hs : Sole c w w') (ha : AAt w c g) : SB w' B pb G k := by
  obtain ⟨cs, hc⟩ := ha.ty
  exact h.sole hs hc (by decide) (by decide) (by decide)
theorem SA.otherR (h : SA w A pa F k) (hs : Sole c w w') (hr : RAcc w c g) : SA w' A pa F k := by
  obtain ⟨cs, hc⟩ := hr.ty
  exact h.sole hs hc (by decide) (by decide)
theorem SB.otherRow (h : SB w B pb G k) (hs : Sole A w w') (ha : SA w A pa F m) : SB w' B pb G k := by
  obtain ⟨cs, hc⟩ := ha.rowTy
  exact h.sole hs hc (by decide) (by decide) (by decide)
theorem SA.otherRowB (h : SA w A pa F k) (hs : Sole B w w') (hb : SB w B pb G m) : SA w' A pa F k := by
  obtain ⟨cs, hc⟩ := hb.rowTy
  exact h.sole hs hc (by decide) (by decide)
theorem AAt.otherRow (h : AAt w c f) (hs : Sole A w w') (ha : SA w A pa F m) : AAt w' c f := by
  obtain ⟨cs, hc⟩ := ha.rowTy
  obtain ⟨ds, hd⟩ := h.ty
  exact hs.keepA h (ty_ne hd hc (by decide))
theorem AAt.otherRowB (h : AAt w c f) (hs : Sole B w w') (hb : SB w B pb G m) : AAt w' c f := by
  obtain ⟨cs, hc⟩ := hb.rowTy
  obtain ⟨ds, hd⟩ := h.ty
  exact hs.keepA h (ty_ne hd hc (by decide))
theorem RAcc.otherRow (h : RAcc w c f) (hs : Sole A w w') (ha : SA w A pa F m) : RAcc w' c f := by
  obtain ⟨cs, hc⟩ := ha.rowTy
  obtain ⟨ds, hd⟩ := h.ty
  exact h.other hs hc (by decide) (ty_ne hd hc (by decide))
theorem RAcc.otherRowB (h : RAcc w c f) (hs : Sole B w w') (hb : SB w B pb G m) : RAcc w' c f := by
  obtain ⟨cs, hc⟩ := hb.rowTy
  obtain ⟨ds, hd⟩ := h.ty
  exact h.other hs hc (by decide) (ty_ne hd hc (by decide))
theorem fit_set {x : Nat} (h : ∀ j, j < 4 → Fit (F j)) (hf : Fit f) : ∀ j, j < 4 → Fit (setN F x f j) := fun j hj => by
  unfold setN
  split
  · exact hf
  · exact h j hj
theorem lo_set {x p q b : Nat} (h : ∀ j, j < 4 → b ≤ pa j ∧ b ≤ pb j) (hp : b ≤ p) (hq : b ≤ q) : ∀ j, j < 4 → b ≤ setN pa x p j ∧ b ≤ setN pb x q j := fun j hj => by
  unfold setN
  split
  · exact ⟨hp, hq⟩
  · exact h j hj
end
theorem NewBs.capOk {B : Nat} {w : World} {a : Option Addr} {n c : Nat} {l : List Nat} (h : NewBs B w (.slice a n c) l) : l.length ≤ c := by
  rcases h.own.2 with ⟨h1, h2⟩ | ⟨g, cap, cur, h1, _, _, hnc, _⟩
  · rw [h2]; exact Nat.zero_le _
  · injection h1 with _ _ h3
    rw [h3]; exact hnc
theorem radd_res {w : World} {b x : Nat} {f : Facts} (h : RAcc w b f) (hf : f.Ok) (hx : x < 18446744073709551616) :
    Calls Tryz.prog 22 #[.pointer (some ⟨b, 0, none⟩), .int .u64 x] w fun e w' => e = .returned (.int .i64 (resE f (factsN x))) ∧ RAcc w' b (resF f (factsN x)) ∧ Sole b w w' := radd22_any h hf hx
theorem rmerge_res {w : World} {b c : Nat} {f g : Facts} (h : RAcc w b f) (h2 : RAcc w c g) (hf : f.Ok) (hg : g.Ok) :
    Calls Tryz.prog 24 #[.pointer (some ⟨b, 0, none⟩), .pointer (some ⟨c, 0, none⟩)] w fun e w' => e = .returned (.int .i64 (resE f g)) ∧ RAcc w' b (resF f g) ∧ Sole b w w' := rMerge_any h h2 hf hg
theorem run_neqi (a : Int) (w : World) : (binOp .neq 25 (.int .i64 a) (.int .i64 a)).run Tryz.prog w = .ok (.bool false) w := by simp [go_sem]
theorem run_neqs (s : ByteArray) (w : World) : (binOp .neq 9 (.string s) (.string s)).run Tryz.prog w = .ok (.bool false) w := by simp [go_sem]
theorem run_neqx (x : Nat) (w : World) : (binOp .neq 22 (.int .u64 x) (.int .u64 x)).run Tryz.prog w = .ok (.bool false) w := by simp [go_sem]
theorem run_neqb (b : Bool) (w : World) : (binOp .neq 4 (.bool b) (.bool b)).run Tryz.prog w = .ok (.bool false) w := by simp [go_sem]
theorem SumAccs_walk {w : World} {a : Option Addr} {l : List Ac} (h : Acs w a l) (cap : Nat) : Calls Tryz.prog 5 #[.slice a l.length cap] w fun e w' => e = .returned (.bool true) ∧ Below w.heap.size w w' := by
  have HW := Lib.hid (fun W => works_any W)
  have hlen := h.len
  obtain ⟨n, hn⟩ : ∃ n, n = l.length := ⟨_, rfl⟩
  have HN := Lib.hid hn
  have HL := Lib.hid h
  rw [← hn] at hlen ⊢
  clear h hn
  by_cases h60 : 60 < n
  · have hd : (60 : Int) < n := by omega
    go_enter Tryz.func5, Tryz.ntmps5
    go_wp2_with fail
    refine (HW.out _).mono ?_
    rintro e w1 ⟨rfl, hb⟩
    go_wp2_with fail
    go_ret
    exact ⟨rfl, hb⟩
  have hd : ¬ (60 : Int) < n := by omega
  have hb0 : Below w.heap.size w ((w.alloc (.cells #[.pointer none, .pointer none, .pointer none, .pointer none] 42)).alloc (.cells #[.pointer none, .pointer none, .pointer none, .pointer none] 44)) := ((Below.refl _ _).alloc (Nat.le_refl _) _).alloc (by simp) _
  have HB0 := Lib.hid hb0
  have HA0 := Lib.hid ((sa_new w).keep ((Below.refl _ _).alloc (Nat.le_refl _) (.cells #[.pointer none, .pointer none, .pointer none, .pointer none] 44)))
  have HC0 : Hid (SB ((w.alloc (.cells #[.pointer none, .pointer none, .pointer none, .pointer none] 42)).alloc (.cells #[.pointer none, .pointer none, .pointer none, .pointer none] 44)) (w.heap.size + 1) (fun _ => 0) (fun _ => zeroF) 0) := by
    have := sb_new (w.alloc (.cells #[.pointer none, .pointer none, .pointer none, .pointer none] 42))
    rwa [show (w.alloc (.cells #[.pointer none, .pointer none, .pointer none, .pointer none] 42)).heap.size = w.heap.size + 1 by simp] at this
  clear hb0
  go_enter Tryz.func5, Tryz.ntmps5
  go_wp2_with fail
  generalize (w.alloc (.cells #[.pointer none, .pointer none, .pointer none, .pointer none] 42)).alloc (.cells #[.pointer none, .pointer none, .pointer none, .pointer none] 44) = W0 at *
  go_loopw [5] (fun i wr => ∃ (k : Nat) (pa pb : Nat → Nat), k ≤ 4 ∧ i = .int .i64 k ∧ Hid (SA wr w.heap.size pa (fun _ => zeroF) k) ∧ Hid (SB wr (w.heap.size + 1) pb (fun _ => zeroF) k) ∧ Hid (Below w.heap.size w wr) ∧ Hid (∀ j, j < k → w.heap.size ≤ pa j ∧ w.heap.size ≤ pb j)) (fun i _ => 4 - (intOf i).toNat)
  case atStart => exact ⟨0, _, _, Nat.zero_le _, rfl, HA0, HC0, HB0, fun j hj => by omega⟩
  case round =>
    obtain ⟨k, pa, pb, hk, rfl, HA, HC, HB, HLO⟩ := hrel
    clear HA0 HC0 HB0
    by_cases hk4 : k < 4
    · have hki : (k : Int) < 4 := by omega
      have HNW := Lib.hid (fun W => New_any W)
      go_wp2_with fail
      refine (HNW.out _).mono ?_
      rintro e w2 ⟨rfl, hacc, hb2⟩
      have hA2 := HA.out.keep hb2
      have hC2 := HC.out.keep hb2
      have hbq : Below w2.heap.size w2 (w2.alloc (.cells #[.bool false, .slice none 0 0, .bool false, .bool false, .bool false, .int .i64 0] 48)) := (Below.refl _ _).alloc (Nat.le_refl _) _
      have hA3 := hA2.keep hbq
      have hC3 := hC2.keep hbq
      have hacc3 := hacc.keep hbq
      have hr3 : RAcc (w2.alloc (.cells #[.bool false, .slice none 0 0, .bool false, .bool false, .bool false, .int .i64 0] 48)) w2.heap.size zeroF := racc_new w2
      have HB3 := Lib.hid ((HB.out.trans (hb2.mono HB.out.size)).trans (hbq.mono (Nat.le_trans HB.out.size hb2.size)))
      obtain ⟨va, ca⟩ := hA3.cell4 k hk4
      obtain ⟨vb, cb⟩ := hC3.cell4 k hk4
      have fa := hA3.open_ k
      have fb := hC3.open_ k
      have la := hA3.lt
      have lb := hC3.lt
      have pfr := HA.out.fresh (Nat.le_refl wr.heap.size)
      have qfr := hC2.fresh (Nat.le_refl w2.heap.size)
      have HA4 := Lib.hid (hA3.put (x := k) (m := k + 1) (f := zeroF) (fun j hj hne => by omega) (by omega) hacc3 pfr)
      have hAs : Sole w.heap.size (w2.alloc (.cells #[.bool false, .slice none 0 0, .bool false, .bool false, .bool false, .int .i64 0] 48)) ((w2.alloc (.cells #[.bool false, .slice none 0 0, .bool false, .bool false, .bool false, .int .i64 0] 48)).setCell ⟨w.heap.size, k, none⟩ (.pointer (some ⟨wr.heap.size, 0, none⟩))) := Sole.set _
      obtain ⟨ra, hra, _⟩ := hA3.row
      obtain ⟨csa, hcsa⟩ := rowIs_ty hra
      have HC4 := Lib.hid ((hC3.sole hAs hcsa (by decide) (by decide) (by decide)).put (x := k) (m := k + 1) (f := zeroF) (fun j hj hne => by omega) (by omega) (hr3.other hAs hcsa (by decide) (by have := hA2.lt; omega)) qfr)
      obtain ⟨rb, hrb, _⟩ := (hC3.sole hAs hcsa (by decide) (by decide) (by decide)).row
      obtain ⟨csb, hcsb⟩ := rowIs_ty hrb
      have HA5 := Lib.hid (HA4.out.sole (Sole.set (b := w.heap.size + 1) (o := k) (.pointer (some ⟨w2.heap.size, 0, none⟩))) hcsb (by decide) (by decide))
      have HN4 := Lib.hid hd
      have HLO2 : Hid (∀ j, j < k + 1 → w.heap.size ≤ setN pa k wr.heap.size j ∧ w.heap.size ≤ setN pb k w2.heap.size j) := fun j hj => by
        have h1 := HB.out.size
        have h2 := hb2.size
        unfold setN
        by_cases e : j = k
        · rw [if_pos e, if_pos e]; omega
        · rw [if_neg e, if_neg e]; exact HLO.out j (by omega)
      clear hA2 hC2 hA3 hC3 hacc3 hacc hr3 hb2 hbq pfr qfr hAs hra hcsa hrb hcsb HA HC HB HNW hd HA4
      go_wp2_with fail
      first | go_roundw | go_round
      case rel => exact ⟨k + 1, _, _, by omega, by go_num, HA5.out.congr (fun j hj => by unfold setN; split <;> rfl), HC4.out.congr (fun j hj => by unfold setN; split <;> rfl), (HB3.out.setCell (by simp) _).setCell (by simp) _, HLO2⟩
      case measure => simp [intOf]; omega
    · have hk44 : k = 4 := by omega
      subst hk44
      go_wp2_with fail
      obtain ⟨wo, hwo⟩ : ∃ wo : World, wo = wr := ⟨_, rfl⟩
      rw [← hwo] at HA HC HB ⊢
      clear hwo wr hk hk4
      rw [show ((4 : Nat) : Int) = 4 from rfl]
      go_loopw [6] (fun i wr => ∃ (k : Nat) (pa pb : Nat → Nat) (F : Nat → Facts), k ≤ n ∧ i = .int .i64 k ∧ Hid (SA wr w.heap.size pa F 4) ∧ Hid (SB wr (w.heap.size + 1) pb F 4) ∧ Hid (∀ j, j < 4 → Fit (F j)) ∧ Hid (Below w.heap.size w wr) ∧ Hid (∀ j, j < 4 → w.heap.size ≤ pa j ∧ w.heap.size ≤ pb j)) (fun i _ => n - (intOf i).toNat)
      case atStart => exact ⟨0, pa, pb, _, Nat.zero_le _, rfl, HA, HC, (fun _ _ => fit_zero), HB, HLO⟩
      case round =>
        clear HA HC HB HLO pa pb
        obtain ⟨k, pa, pb, F, hk, rfl, HA, HC, HFT, HB, HLO⟩ := hrel
        by_cases hkn : k < n
        · have hk1 : k < l.length := by have := HN.out; omega
          obtain ⟨g, o, rfl, hc⟩ := (HL.out.keep HB.out).at_ (ne_nil_of_lt hk1)
          obtain ⟨c0, c1, c2, c3⟩ := hc k hk1
          obtain ⟨g9, o9, e9, hc9⟩ := HL.out.at_ (ne_nil_of_lt hk1)
          obtain ⟨rfl, rfl⟩ : g = g9 ∧ o = o9 := by injection e9 with e2; injection e2 with e3 e4; exact ⟨e3, e4⟩
          have d3 := (hc9 k hk1).2.2.2
          clear hc9 e9
          have hu := HL.out.ok _ (List.getElem_mem hk1)
          clear hc
          generalize l[k] = u at *
          obtain ⟨wh, onn, ot, bi⟩ := u
          simp only at c0 c1 c2 c3 d3
          have HBI := Lib.hid hu.bi
          have hwh := hu.wh
          have hon := hu.on_
          have hot := hu.ot
          simp only at hwh hon hot HBI
          obtain ⟨x, hx⟩ : ∃ x, x = onn % 4 := ⟨_, rfl⟩
          obtain ⟨y, hy⟩ : ∃ y, y = ot % 4 := ⟨_, rfl⟩
          obtain ⟨c, hcq⟩ : ∃ c, c = wh % 5 := ⟨_, rfl⟩
          have hx4 : x < 4 := by omega
          have hy4 : y < 4 := by omega
          have hc5 : c < 5 := by omega
          have hxi : (onn : Int) % 4 = (x : Int) := by omega
          have hyi : (ot : Int) % 4 = (y : Int) := by omega
          have hci : (wh : Int) % 5 = (c : Int) := by omega
          clear hu hx hy hcq hk1
          go_wp2_with fail
          go_quiet (fail)
          have HB2 := Lib.hid (below_drewN HB.out nq)
          have HA2 := Lib.hid (HA.out.keep (below_drewN (Below.refl _ _) nq))
          have HC2 := Lib.hid (HC.out.keep (below_drewN (Below.refl _ _) nq))
          have d0 := kcell (below_drewN (Below.refl _ _) nq) c0
          have D3 := Lib.hid d3
          have hxi4 : (x : Int) < 4 := by omega
          have hyi4 : (y : Int) < 4 := by omega
          have hkni : (k : Int) < (n : Int) := by omega
          clear c0 c1 c2 c3 d3 HA HC HB
          rw [hxi, hyi]
          generalize wr.drewN nq = wq at *
          clear hxi hyi hon hot
          go_upto_block 4 with fail

          go_cut [53] (fun (_ : Value) wx => ∃ (pa' pb' : Nat → Nat) (F' : Nat → Facts), Hid (SA wx w.heap.size pa' F' 4) ∧ Hid (SB wx (w.heap.size + 1) pb' F' 4) ∧ Hid (∀ j, j < 4 → Fit (F' j)) ∧ Hid (Below w.heap.size w wx) ∧ Hid (∀ j, j < 4 → w.heap.size ≤ pa' j ∧ w.heap.size ≤ pb' j))
          case first =>
            have hcc : c = 0 ∨ c = 1 ∨ c = 2 ∨ c = 3 ∨ c = 4 := by omega
            rcases hcc with rfl | rfl | rfl | rfl | rfl
            · go_wp2_with fail
              refine (wpIn_wide (n := 0)).1 ?_
              refine region_det (by kernel_rfl) (I := fun listed a' w' => Hid (Below w.heap.size w w') ∧ Hid (SA w' w.heap.size pa (if listed.getD 8 false = true then setN F x (resF (F x) (factsN bi)) else F) 4) ∧ Hid (SB w' (w.heap.size + 1) pb (if listed.getD 17 false = true then setN F x (resF (F x) (factsN bi)) else F) 4) ∧ a' = ⟨#[Value.slice (some (Addr.mk g o none)) n cap, undef, u2, Value.pointer (some (⟨w.heap.size, 0, none⟩)), Value.pointer (some (Addr.mk (w.heap.size + 1) 0 none)), Value.int IntKind.i64 4, Value.int IntKind.i64 ↑k, Value.int IntKind.u8 ↑x, Value.int IntKind.u8 ↑y, u9, u10, u11, undef, undef, undef, Value.slice (some (Addr.mk g o none)) n cap, Value.int IntKind.i64 ↑n, Value.bool false, undef, Value.int IntKind.i64 4, Value.bool false, u21, u22, u23, u24, u25, u26, u27, u28, u29, Value.int IntKind.i64 ↑k, Value.slice (some (Addr.mk g o none)) n cap, Value.int IntKind.i64 ↑n, Value.bool true, u34, u35, Value.slice (some (Addr.mk g o none)) n cap, Value.int IntKind.i64 ↑k, Value.pointer (some (Addr.mk g (o + k * 4) none)), Value.pointer (some (Addr.mk g (o + k * 4 + 1) none)), Value.int IntKind.u8 ↑onn, Value.int IntKind.u8 ↑x, Value.slice (some (Addr.mk g o none)) n cap, Value.int IntKind.i64 ↑k, Value.pointer (some (Addr.mk g (o + k * 4) none)), Value.pointer (some (Addr.mk g (o + k * 4 + 2) none)), Value.int IntKind.u8 ↑ot, Value.int IntKind.u8 ↑y, Value.slice (some (Addr.mk g o none)) n cap, Value.int IntKind.i64 ↑k, Value.pointer (some (Addr.mk g (o + k * 4) none)), Value.pointer (some (Addr.mk g (o + k * 4) none)), Value.int IntKind.u8 ↑wh, Value.int IntKind.u8 (↑wh % 5), Value.bool true, Value.bool true, (if listed.getD 0 false = true then Value.int IntKind.u8 (x : Int) else u56), (if listed.getD 1 false = true then Value.pointer (some ⟨w.heap.size, x, none⟩) else u57), (if listed.getD 2 false = true then Value.pointer (some ⟨pa x, 0, none⟩) else u58), (if listed.getD 3 false = true then Value.slice (some ⟨g, o, none⟩) n cap else u59), (if listed.getD 4 false = true then Value.int IntKind.i64 (k : Int) else u60), (if listed.getD 5 false = true then Value.pointer (some ⟨g, (o + k * 4), none⟩) else u61), (if listed.getD 6 false = true then Value.pointer (some ⟨g, (o + k * 4 + 3), none⟩) else u62), (if listed.getD 7 false = true then Value.int IntKind.u64 (bi : Int) else u63), (if listed.getD 8 false = true then Value.int IntKind.i64 (resE (F x) (factsN bi)) else u64), (if listed.getD 9 false = true then Value.int IntKind.u8 (x : Int) else u65), (if listed.getD 10 false = true then Value.pointer (some ⟨(w.heap.size + 1), x, none⟩) else u66), (if listed.getD 11 false = true then Value.pointer (some ⟨pb x, 0, none⟩) else u67), (if listed.getD 12 false = true then Value.slice (some ⟨g, o, none⟩) n cap else u68), (if listed.getD 13 false = true then Value.int IntKind.i64 (k : Int) else u69), (if listed.getD 14 false = true then Value.pointer (some ⟨g, (o + k * 4), none⟩) else u70), (if listed.getD 15 false = true then Value.pointer (some ⟨g, (o + k * 4 + 3), none⟩) else u71), (if listed.getD 16 false = true then Value.int IntKind.u64 (bi : Int) else u72), (if listed.getD 17 false = true then Value.int IntKind.i64 (resE (F x) (factsN bi)) else u73), (if listed.getD 18 false = true then Value.bool false else u74), u75, u76, u77, u78, u79, u80, u81, u82, u83, u84, u85, u86, u87, u88, u89, u90, u91, u92, u93, u94, u95, u96, u97, u98, u99, u100, u101, u102, u103, u104, u105, u106, u107, u108, u109, u110, u111, u112, u113, u114, u115, u116, u117, u118, u119, u120, u121, u122, u123, u124, u125, u126, u127, u128, u129, u130, u131, u132, u133, u134, u135, u136, u137, u138, u139, u140, u141, u142, u143, u144, u145, u146, u147, u148, u149, u150, u151, u152, u153, u154, u155, u156, u157, u158, u159, u160, u161, u162, u163, u164, u165, u166, u167, u168, u169, u170, u171, u172, u173, u174, u175, u176, u177, u178, undef, undef, undef, undef, undef, undef, undef, undef, undef, undef, undef, undef, undef, undef, undef, undef, undef, undef, undef, undef, undef, undef, undef, undef], []⟩) (hup_check (by kernel_rfl)) ?h0 ?step ?fin
              case h0 => exact ⟨HB2.out.drew, HA2.out.keep (Below.refl _ _).drew, HC2.out.keep (Below.refl _ _).drew, rfl⟩
              case step =>
                intro listed a' w' i hs hbi hdep hi ⟨IB, IA, IC, ha⟩
                obtain ⟨ls⟩ := listed
                match ls, hs with
                | [x0, x1, x2, x3, x4, x5, x6, x7, x8, x9, x10, x11, x12, x13, x14, x15, x16, x17, x18], _ =>
                subst ha
                have hi' : i = 0 ∨ i = 1 ∨ i = 2 ∨ i = 3 ∨ i = 4 ∨ i = 5 ∨ i = 6 ∨ i = 7 ∨ i = 8 ∨ i = 9 ∨ i = 10 ∨ i = 11 ∨ i = 12 ∨ i = 13 ∨ i = 14 ∨ i = 15 ∨ i = 16 ∨ i = 17 ∨ i = 18 := by simp at hi; omega
                rcases hi' with rfl | rfl | rfl | rfl | rfl | rfl | rfl | rfl | rfl | rfl | rfl | rfl | rfl | rfl | rfl | rfl | rfl | rfl | rfl
                · obtain rfl : x0 = false := by simpa using hbi
                  refine wpOpIn_plain rfl rfl rfl ?_
                  exact ⟨IB, IA, IC, rfl⟩
                · obtain rfl : x1 = false := by simpa using hbi
                  obtain rfl : x0 = true := hdep _ rfl ⟨0, .data⟩ (by simp) rfl
                  refine wpOpIn_plain (v := Value.pointer (some ⟨w.heap.size, x, none⟩)) (w' := w') rfl rfl (by simp [Oper.semAt, execOp, go_sem, hx4, hxi4]) ?_
                  exact ⟨IB, IA, IC, rfl⟩
                · obtain rfl : x2 = false := by simpa using hbi
                  obtain rfl : x1 = true := hdep _ rfl ⟨1, .data⟩ (by simp) rfl
                  have c0 := IA.out.cell x hx4
                  refine wpOpIn_plain (v := Value.pointer (some ⟨pa x, 0, none⟩)) (w' := w') rfl rfl (by simp [Oper.semAt, execOp, go_sem, c0]) ?_
                  exact ⟨IB, IA, IC, rfl⟩
                · obtain rfl : x3 = false := by simpa using hbi
                  refine wpOpIn_plain rfl rfl rfl ?_
                  exact ⟨IB, IA, IC, rfl⟩
                · obtain rfl : x4 = false := by simpa using hbi
                  refine wpOpIn_plain rfl rfl rfl ?_
                  exact ⟨IB, IA, IC, rfl⟩
                · obtain rfl : x5 = false := by simpa using hbi
                  obtain rfl : x3 = true := hdep _ rfl ⟨3, .data⟩ (by simp) rfl
                  obtain rfl : x4 = true := hdep _ rfl ⟨4, .data⟩ (by simp) rfl
                  refine wpOpIn_plain (v := Value.pointer (some ⟨g, (o + k * 4), none⟩)) (w' := w') rfl rfl (by simp [Oper.semAt, execOp, go_sem, hkn, hkni]) ?_
                  exact ⟨IB, IA, IC, rfl⟩
                · obtain rfl : x6 = false := by simpa using hbi
                  obtain rfl : x5 = true := hdep _ rfl ⟨5, .data⟩ (by simp) rfl
                  refine wpOpIn_plain (v := Value.pointer (some ⟨g, (o + k * 4 + 3), none⟩)) (w' := w') rfl rfl (by simp [Oper.semAt, execOp, go_sem]) ?_
                  exact ⟨IB, IA, IC, rfl⟩
                · obtain rfl : x7 = false := by simpa using hbi
                  obtain rfl : x6 = true := hdep _ rfl ⟨6, .data⟩ (by simp) rfl
                  have e3 := kcell IB.out D3.out
                  refine wpOpIn_plain (v := Value.int IntKind.u64 (bi : Int)) (w' := w') rfl rfl (by simp [Oper.semAt, execOp, go_sem, e3]) ?_
                  exact ⟨IB, IA, IC, rfl⟩
                · obtain rfl : x8 = false := by simpa using hbi
                  obtain rfl : x2 = true := hdep _ rfl ⟨2, .data⟩ (by simp) rfl
                  obtain rfl : x7 = true := hdep _ rfl ⟨7, .data⟩ (by simp) rfl
                  have ia : SA w' w.heap.size pa F 4 := IA.out
                  refine wpOpIn_call (args := #[Value.pointer (some ⟨pa x, 0, none⟩), Value.int IntKind.u64 (bi : Int)]) rfl rfl (sem_call2 rfl rfl rfl (enters_of Tryz.func21 (by kernel_rfl) rfl)) (Add_any (ia.el x hx4) (HFT.out x hx4).ok bi HBI.out) ?_
                  rintro e V ⟨rfl, hA9, hS9⟩
                  exact ⟨_, rfl, (IB.out.trans (hS9.below (HLO.out x hx4).1 IB.out.size)), (ia.up hx4 hS9 hA9), (IC.out.otherA hS9 (ia.el x hx4)), rfl⟩
                · obtain rfl : x9 = false := by simpa using hbi
                  refine wpOpIn_plain rfl rfl rfl ?_
                  exact ⟨IB, IA, IC, rfl⟩
                · obtain rfl : x10 = false := by simpa using hbi
                  obtain rfl : x9 = true := hdep _ rfl ⟨9, .data⟩ (by simp) rfl
                  refine wpOpIn_plain (v := Value.pointer (some ⟨(w.heap.size + 1), x, none⟩)) (w' := w') rfl rfl (by simp [Oper.semAt, execOp, go_sem, hx4, hxi4]) ?_
                  exact ⟨IB, IA, IC, rfl⟩
                · obtain rfl : x11 = false := by simpa using hbi
                  obtain rfl : x10 = true := hdep _ rfl ⟨10, .data⟩ (by simp) rfl
                  have c0 := IC.out.cell x hx4
                  refine wpOpIn_plain (v := Value.pointer (some ⟨pb x, 0, none⟩)) (w' := w') rfl rfl (by simp [Oper.semAt, execOp, go_sem, c0]) ?_
                  exact ⟨IB, IA, IC, rfl⟩
                · obtain rfl : x12 = false := by simpa using hbi
                  refine wpOpIn_plain rfl rfl rfl ?_
                  exact ⟨IB, IA, IC, rfl⟩
                · obtain rfl : x13 = false := by simpa using hbi
                  refine wpOpIn_plain rfl rfl rfl ?_
                  exact ⟨IB, IA, IC, rfl⟩
                · obtain rfl : x14 = false := by simpa using hbi
                  obtain rfl : x12 = true := hdep _ rfl ⟨12, .data⟩ (by simp) rfl
                  obtain rfl : x13 = true := hdep _ rfl ⟨13, .data⟩ (by simp) rfl
                  refine wpOpIn_plain (v := Value.pointer (some ⟨g, (o + k * 4), none⟩)) (w' := w') rfl rfl (by simp [Oper.semAt, execOp, go_sem, hkn, hkni]) ?_
                  exact ⟨IB, IA, IC, rfl⟩
                · obtain rfl : x15 = false := by simpa using hbi
                  obtain rfl : x14 = true := hdep _ rfl ⟨14, .data⟩ (by simp) rfl
                  refine wpOpIn_plain (v := Value.pointer (some ⟨g, (o + k * 4 + 3), none⟩)) (w' := w') rfl rfl (by simp [Oper.semAt, execOp, go_sem]) ?_
                  exact ⟨IB, IA, IC, rfl⟩
                · obtain rfl : x16 = false := by simpa using hbi
                  obtain rfl : x15 = true := hdep _ rfl ⟨15, .data⟩ (by simp) rfl
                  have e3 := kcell IB.out D3.out
                  refine wpOpIn_plain (v := Value.int IntKind.u64 (bi : Int)) (w' := w') rfl rfl (by simp [Oper.semAt, execOp, go_sem, e3]) ?_
                  exact ⟨IB, IA, IC, rfl⟩
                · obtain rfl : x17 = false := by simpa using hbi
                  obtain rfl : x11 = true := hdep _ rfl ⟨11, .data⟩ (by simp) rfl
                  obtain rfl : x16 = true := hdep _ rfl ⟨16, .data⟩ (by simp) rfl
                  have ic : SB w' (w.heap.size + 1) pb F 4 := IC.out
                  refine wpOpIn_call (args := #[Value.pointer (some ⟨pb x, 0, none⟩), Value.int IntKind.u64 (bi : Int)]) rfl rfl (sem_call2 rfl rfl rfl (enters_of Tryz.func22 (by kernel_rfl) rfl)) (radd_res (ic.el x hx4) (HFT.out x hx4).ok HBI.out) ?_
                  rintro e V ⟨rfl, hA9, hS9⟩
                  exact ⟨_, rfl, (IB.out.trans (hS9.below (HLO.out x hx4).2 IB.out.size)), (IA.out.otherR hS9 (ic.el x hx4)), (ic.up hx4 hS9 hA9), rfl⟩
                · obtain rfl : x18 = false := by simpa using hbi
                  obtain rfl : x8 = true := hdep _ rfl ⟨8, .data⟩ (by simp) rfl
                  obtain rfl : x17 = true := hdep _ rfl ⟨17, .data⟩ (by simp) rfl
                  refine wpOpIn_plain (v := Value.bool false) (w' := w') rfl rfl (sem_bin (vx := Value.int IntKind.i64 (resE (F x) (factsN bi))) (vy := Value.int IntKind.i64 (resE (F x) (factsN bi))) rfl rfl rfl rfl (run_neqi _ w')) ?_
                  exact ⟨IB, IA, IC, rfl⟩
              case fin =>
              intro listed a' Z hs hall ⟨IB, IA, IC, ha⟩
              obtain ⟨ls⟩ := listed
              match ls, hs with
              | [x0, x1, x2, x3, x4, x5, x6, x7, x8, x9, x10, x11, x12, x13, x14, x15, x16, x17, x18], _ =>
              obtain rfl : x0 = true := hall 0 (by simp)
              obtain rfl : x1 = true := hall 1 (by simp)
              obtain rfl : x2 = true := hall 2 (by simp)
              obtain rfl : x3 = true := hall 3 (by simp)
              obtain rfl : x4 = true := hall 4 (by simp)
              obtain rfl : x5 = true := hall 5 (by simp)
              obtain rfl : x6 = true := hall 6 (by simp)
              obtain rfl : x7 = true := hall 7 (by simp)
              obtain rfl : x8 = true := hall 8 (by simp)
              obtain rfl : x9 = true := hall 9 (by simp)
              obtain rfl : x10 = true := hall 10 (by simp)
              obtain rfl : x11 = true := hall 11 (by simp)
              obtain rfl : x12 = true := hall 12 (by simp)
              obtain rfl : x13 = true := hall 13 (by simp)
              obtain rfl : x14 = true := hall 14 (by simp)
              obtain rfl : x15 = true := hall 15 (by simp)
              obtain rfl : x16 = true := hall 16 (by simp)
              obtain rfl : x17 = true := hall 17 (by simp)
              obtain rfl : x18 = true := hall 18 (by simp)
              subst ha
              have HZA : Hid (SA Z w.heap.size pa (setN F x (resF (F x) (factsN bi))) 4) := IA
              have HZC : Hid (SB Z (w.heap.size + 1) pb (setN F x (resF (F x) (factsN bi))) 4) := IC
              have HZB : Hid (Below w.heap.size w Z) := IB
              clear IA IB IC hall hs
              dsimp only [Exit.then, Exit.inBlock]
              go_wp2_with fail
              go_meet
              case rel =>
                exact ⟨pa, pb, _, HZA, HZC, fit_set HFT.out (fit_res (HFT.out x hx4) (fit_facts HBI.out)), HZB, HLO⟩
            · go_wp2_with fail
              refine (wpIn_wide (n := 0)).1 ?_
              refine region_det (by kernel_rfl) (I := fun listed a' w' => ∃ q : Nat, Hid (Below w.heap.size w w') ∧ Hid (SA w' w.heap.size pa (if listed.getD 6 false = true then setN F x (resF (F x) (F y)) else F) 4) ∧ Hid (SB w' (w.heap.size + 1) pb (if listed.getD 14 false = true then setN F x (resF (F x) (F y)) else F) 4) ∧ Hid (listed.getD 13 false = true → listed.getD 14 false = false → RAcc w' q (F y)) ∧ Hid (listed.getD 14 false = true → listed.getD 13 false = true) ∧ a' = ⟨#[Value.slice (some (Addr.mk g o none)) n cap, undef, u2, Value.pointer (some (⟨w.heap.size, 0, none⟩)), Value.pointer (some (Addr.mk (w.heap.size + 1) 0 none)), Value.int IntKind.i64 4, Value.int IntKind.i64 ↑k, Value.int IntKind.u8 ↑x, Value.int IntKind.u8 ↑y, u9, u10, u11, undef, undef, undef, Value.slice (some (Addr.mk g o none)) n cap, Value.int IntKind.i64 ↑n, Value.bool false, undef, Value.int IntKind.i64 4, Value.bool false, u21, u22, u23, u24, u25, u26, u27, u28, u29, Value.int IntKind.i64 ↑k, Value.slice (some (Addr.mk g o none)) n cap, Value.int IntKind.i64 ↑n, Value.bool true, u34, u35, Value.slice (some (Addr.mk g o none)) n cap, Value.int IntKind.i64 ↑k, Value.pointer (some (Addr.mk g (o + k * 4) none)), Value.pointer (some (Addr.mk g (o + k * 4 + 1) none)), Value.int IntKind.u8 ↑onn, Value.int IntKind.u8 ↑x, Value.slice (some (Addr.mk g o none)) n cap, Value.int IntKind.i64 ↑k, Value.pointer (some (Addr.mk g (o + k * 4) none)), Value.pointer (some (Addr.mk g (o + k * 4 + 2) none)), Value.int IntKind.u8 ↑ot, Value.int IntKind.u8 ↑y, Value.slice (some (Addr.mk g o none)) n cap, Value.int IntKind.i64 ↑k, Value.pointer (some (Addr.mk g (o + k * 4) none)), Value.pointer (some (Addr.mk g (o + k * 4) none)), Value.int IntKind.u8 ↑wh, Value.int IntKind.u8 (↑wh % 5), Value.bool false, Value.bool false, u56, u57, u58, u59, u60, u61, u62, u63, u64, u65, u66, u67, u68, u69, u70, u71, u72, u73, u74, Value.bool true, Value.bool true, (if listed.getD 0 false = true then Value.int IntKind.u8 (x : Int) else u77), (if listed.getD 1 false = true then Value.pointer (some ⟨w.heap.size, x, none⟩) else u78), (if listed.getD 2 false = true then Value.pointer (some ⟨pa x, 0, none⟩) else u79), (if listed.getD 3 false = true then Value.int IntKind.u8 (y : Int) else u80), (if listed.getD 4 false = true then Value.pointer (some ⟨w.heap.size, y, none⟩) else u81), (if listed.getD 5 false = true then Value.pointer (some ⟨pa y, 0, none⟩) else u82), (if listed.getD 6 false = true then Value.int IntKind.i64 (resE (F x) (F y)) else u83), (if listed.getD 7 false = true then Value.int IntKind.u8 (x : Int) else u84), (if listed.getD 8 false = true then Value.pointer (some ⟨(w.heap.size + 1), x, none⟩) else u85), (if listed.getD 9 false = true then Value.pointer (some ⟨pb x, 0, none⟩) else u86), (if listed.getD 10 false = true then Value.int IntKind.u8 (y : Int) else u87), (if listed.getD 11 false = true then Value.pointer (some ⟨(w.heap.size + 1), y, none⟩) else u88), (if listed.getD 12 false = true then Value.pointer (some ⟨pb y, 0, none⟩) else u89), (if listed.getD 13 false = true then Value.pointer (some ⟨q, 0, none⟩) else u90), (if listed.getD 14 false = true then Value.int IntKind.i64 (resE (F x) (F y)) else u91), (if listed.getD 15 false = true then Value.bool false else u92), u93, u94, u95, u96, u97, u98, u99, u100, u101, u102, u103, u104, u105, u106, u107, u108, u109, u110, u111, u112, u113, u114, u115, u116, u117, u118, u119, u120, u121, u122, u123, u124, u125, u126, u127, u128, u129, u130, u131, u132, u133, u134, u135, u136, u137, u138, u139, u140, u141, u142, u143, u144, u145, u146, u147, u148, u149, u150, u151, u152, u153, u154, u155, u156, u157, u158, u159, u160, u161, u162, u163, u164, u165, u166, u167, u168, u169, u170, u171, u172, u173, u174, u175, u176, u177, u178, undef, undef, undef, undef, undef, undef, undef, undef, undef, undef, undef, undef, undef, undef, undef, undef, undef, undef, undef, undef, undef, undef, undef, undef], []⟩) (hup_check (by kernel_rfl)) ?h0 ?step ?fin
              case h0 => exact ⟨0, HB2.out.drew, HA2.out.keep (Below.refl _ _).drew, HC2.out.keep (Below.refl _ _).drew, (fun h => by simp at h), (fun h => by simp at h), rfl⟩
              case step =>
                intro listed a' w' i hs hbi hdep hi ⟨q, IB, IA, IC, IQ, J14, ha⟩
                obtain ⟨ls⟩ := listed
                match ls, hs with
                | [x0, x1, x2, x3, x4, x5, x6, x7, x8, x9, x10, x11, x12, x13, x14, x15], _ =>
                subst ha
                have hi' : i = 0 ∨ i = 1 ∨ i = 2 ∨ i = 3 ∨ i = 4 ∨ i = 5 ∨ i = 6 ∨ i = 7 ∨ i = 8 ∨ i = 9 ∨ i = 10 ∨ i = 11 ∨ i = 12 ∨ i = 13 ∨ i = 14 ∨ i = 15 := by simp at hi; omega
                rcases hi' with rfl | rfl | rfl | rfl | rfl | rfl | rfl | rfl | rfl | rfl | rfl | rfl | rfl | rfl | rfl | rfl
                · obtain rfl : x0 = false := by simpa using hbi
                  refine wpOpIn_plain rfl rfl rfl ?_
                  exact ⟨q, IB, IA, IC, IQ, J14, rfl⟩
                · obtain rfl : x1 = false := by simpa using hbi
                  obtain rfl : x0 = true := hdep _ rfl ⟨0, .data⟩ (by simp) rfl
                  refine wpOpIn_plain (v := Value.pointer (some ⟨w.heap.size, x, none⟩)) (w' := w') rfl rfl (by simp [Oper.semAt, execOp, go_sem, hx4, hxi4]) ?_
                  exact ⟨q, IB, IA, IC, IQ, J14, rfl⟩
                · obtain rfl : x2 = false := by simpa using hbi
                  obtain rfl : x1 = true := hdep _ rfl ⟨1, .data⟩ (by simp) rfl
                  have c0 := IA.out.cell x hx4
                  refine wpOpIn_plain (v := Value.pointer (some ⟨pa x, 0, none⟩)) (w' := w') rfl rfl (by simp [Oper.semAt, execOp, go_sem, c0]) ?_
                  exact ⟨q, IB, IA, IC, IQ, J14, rfl⟩
                · obtain rfl : x3 = false := by simpa using hbi
                  refine wpOpIn_plain rfl rfl rfl ?_
                  exact ⟨q, IB, IA, IC, IQ, J14, rfl⟩
                · obtain rfl : x4 = false := by simpa using hbi
                  obtain rfl : x3 = true := hdep _ rfl ⟨3, .data⟩ (by simp) rfl
                  refine wpOpIn_plain (v := Value.pointer (some ⟨w.heap.size, y, none⟩)) (w' := w') rfl rfl (by simp [Oper.semAt, execOp, go_sem, hy4, hyi4]) ?_
                  exact ⟨q, IB, IA, IC, IQ, J14, rfl⟩
                · obtain rfl : x5 = false := by simpa using hbi
                  obtain rfl : x4 = true := hdep _ rfl ⟨4, .data⟩ (by simp) rfl
                  have c0 := IA.out.cell y hy4
                  refine wpOpIn_plain (v := Value.pointer (some ⟨pa y, 0, none⟩)) (w' := w') rfl rfl (by simp [Oper.semAt, execOp, go_sem, c0]) ?_
                  exact ⟨q, IB, IA, IC, IQ, J14, rfl⟩
                · obtain rfl : x6 = false := by simpa using hbi
                  obtain rfl : x2 = true := hdep _ rfl ⟨2, .data⟩ (by simp) rfl
                  obtain rfl : x5 = true := hdep _ rfl ⟨5, .data⟩ (by simp) rfl
                  have ia : SA w' w.heap.size pa F 4 := IA.out
                  refine wpOpIn_call (args := #[Value.pointer (some ⟨pa x, 0, none⟩), Value.pointer (some ⟨pa y, 0, none⟩)]) rfl rfl (sem_call2 rfl rfl rfl (enters_of Tryz.func23 (by kernel_rfl) rfl)) (Merge_any (ia.el x hx4) (ia.el y hy4) (HFT.out x hx4).ok (HFT.out y hy4).ok) ?_
                  rintro e V ⟨rfl, hA9, hS9⟩
                  exact ⟨_, rfl, q, (IB.out.trans (hS9.below (HLO.out x hx4).1 IB.out.size)), (ia.up hx4 hS9 hA9), (IC.out.otherA hS9 (ia.el x hx4)), (fun h1 h2 => (IQ.out h1 h2).otherA hS9 (ia.el x hx4)), J14, rfl⟩
                · obtain rfl : x7 = false := by simpa using hbi
                  refine wpOpIn_plain rfl rfl rfl ?_
                  exact ⟨q, IB, IA, IC, IQ, J14, rfl⟩
                · obtain rfl : x8 = false := by simpa using hbi
                  obtain rfl : x7 = true := hdep _ rfl ⟨7, .data⟩ (by simp) rfl
                  refine wpOpIn_plain (v := Value.pointer (some ⟨(w.heap.size + 1), x, none⟩)) (w' := w') rfl rfl (by simp [Oper.semAt, execOp, go_sem, hx4, hxi4]) ?_
                  exact ⟨q, IB, IA, IC, IQ, J14, rfl⟩
                · obtain rfl : x9 = false := by simpa using hbi
                  obtain rfl : x8 = true := hdep _ rfl ⟨8, .data⟩ (by simp) rfl
                  have c0 := IC.out.cell x hx4
                  refine wpOpIn_plain (v := Value.pointer (some ⟨pb x, 0, none⟩)) (w' := w') rfl rfl (by simp [Oper.semAt, execOp, go_sem, c0]) ?_
                  exact ⟨q, IB, IA, IC, IQ, J14, rfl⟩
                · obtain rfl : x10 = false := by simpa using hbi
                  refine wpOpIn_plain rfl rfl rfl ?_
                  exact ⟨q, IB, IA, IC, IQ, J14, rfl⟩
                · obtain rfl : x11 = false := by simpa using hbi
                  obtain rfl : x10 = true := hdep _ rfl ⟨10, .data⟩ (by simp) rfl
                  refine wpOpIn_plain (v := Value.pointer (some ⟨(w.heap.size + 1), y, none⟩)) (w' := w') rfl rfl (by simp [Oper.semAt, execOp, go_sem, hy4, hyi4]) ?_
                  exact ⟨q, IB, IA, IC, IQ, J14, rfl⟩
                · obtain rfl : x12 = false := by simpa using hbi
                  obtain rfl : x11 = true := hdep _ rfl ⟨11, .data⟩ (by simp) rfl
                  have c0 := IC.out.cell y hy4
                  refine wpOpIn_plain (v := Value.pointer (some ⟨pb y, 0, none⟩)) (w' := w') rfl rfl (by simp [Oper.semAt, execOp, go_sem, c0]) ?_
                  exact ⟨q, IB, IA, IC, IQ, J14, rfl⟩
                · obtain rfl : x13 = false := by simpa using hbi
                  obtain rfl : x12 = true := hdep _ rfl ⟨12, .data⟩ (by simp) rfl
                  obtain rfl : x14 = false := Bool.eq_false_iff.2 fun h => by have := J14.out h; cases this
                  have ic : SB w' (w.heap.size + 1) pb F 4 := IC.out
                  refine wpOpIn_call (args := #[Value.pointer (some ⟨pb y, 0, none⟩)]) rfl rfl (sem_call1 rfl rfl (enters_of Tryz.func25 (by kernel_rfl) rfl)) (rCopy_any (ic.el y hy4)) ?_
                  rintro e V ⟨rfl, hR9, hb9⟩
                  exact ⟨_, rfl, w'.heap.size, (IB.out.trans (hb9.mono IB.out.size)), (IA.out.keep hb9), (ic.keep hb9), (fun _ _ => hR9), (fun _ => rfl), rfl⟩
                · obtain rfl : x14 = false := by simpa using hbi
                  obtain rfl : x9 = true := hdep _ rfl ⟨9, .data⟩ (by simp) rfl
                  obtain rfl : x13 = true := hdep _ rfl ⟨13, .data⟩ (by simp) rfl
                  have ic : SB w' (w.heap.size + 1) pb F 4 := IC.out
                  refine wpOpIn_call (args := #[Value.pointer (some ⟨pb x, 0, none⟩), Value.pointer (some ⟨q, 0, none⟩)]) rfl rfl (sem_call2 rfl rfl rfl (enters_of Tryz.func24 (by kernel_rfl) rfl)) (rmerge_res (ic.el x hx4) (IQ.out rfl rfl) (HFT.out x hx4).ok (HFT.out y hy4).ok) ?_
                  rintro e V ⟨rfl, hA9, hS9⟩
                  exact ⟨_, rfl, q, (IB.out.trans (hS9.below (HLO.out x hx4).2 IB.out.size)), (IA.out.otherR hS9 (ic.el x hx4)), (ic.up hx4 hS9 hA9), (fun _ h => by cases h), (fun _ => rfl), rfl⟩
                · obtain rfl : x15 = false := by simpa using hbi
                  obtain rfl : x6 = true := hdep _ rfl ⟨6, .data⟩ (by simp) rfl
                  obtain rfl : x14 = true := hdep _ rfl ⟨14, .data⟩ (by simp) rfl
                  refine wpOpIn_plain (v := Value.bool false) (w' := w') rfl rfl (sem_bin (vx := Value.int IntKind.i64 (resE (F x) (F y))) (vy := Value.int IntKind.i64 (resE (F x) (F y))) rfl rfl rfl rfl (run_neqi _ w')) ?_
                  exact ⟨q, IB, IA, IC, IQ, J14, rfl⟩
              case fin =>
              intro listed a' Z hs hall ⟨q, IB, IA, IC, IQ, J14, ha⟩
              obtain ⟨ls⟩ := listed
              match ls, hs with
              | [x0, x1, x2, x3, x4, x5, x6, x7, x8, x9, x10, x11, x12, x13, x14, x15], _ =>
              obtain rfl : x0 = true := hall 0 (by simp)
              obtain rfl : x1 = true := hall 1 (by simp)
              obtain rfl : x2 = true := hall 2 (by simp)
              obtain rfl : x3 = true := hall 3 (by simp)
              obtain rfl : x4 = true := hall 4 (by simp)
              obtain rfl : x5 = true := hall 5 (by simp)
              obtain rfl : x6 = true := hall 6 (by simp)
              obtain rfl : x7 = true := hall 7 (by simp)
              obtain rfl : x8 = true := hall 8 (by simp)
              obtain rfl : x9 = true := hall 9 (by simp)
              obtain rfl : x10 = true := hall 10 (by simp)
              obtain rfl : x11 = true := hall 11 (by simp)
              obtain rfl : x12 = true := hall 12 (by simp)
              obtain rfl : x13 = true := hall 13 (by simp)
              obtain rfl : x14 = true := hall 14 (by simp)
              obtain rfl : x15 = true := hall 15 (by simp)
              subst ha
              have HZA : Hid (SA Z w.heap.size pa (setN F x (resF (F x) (F y))) 4) := IA
              have HZC : Hid (SB Z (w.heap.size + 1) pb (setN F x (resF (F x) (F y))) 4) := IC
              have HZB : Hid (Below w.heap.size w Z) := IB
              clear IA IB IC IQ J14 hall hs
              dsimp only [Exit.then, Exit.inBlock]
              go_wp2_with fail
              go_meet
              case rel =>
                exact ⟨pa, pb, _, HZA, HZC, fit_set HFT.out (fit_res (HFT.out x hx4) (HFT.out y hy4)), HZB, HLO⟩
            · go_wp2_with fail
              refine (wpIn_wide (n := 0)).1 ?_
              refine region_det (by kernel_rfl) (I := fun listed a' w' => ∃ p q : Nat, Hid (Below w.heap.size w w') ∧ Hid (SA w' w.heap.size (if listed.getD 11 false = true then setN pa x p else pa) (if listed.getD 11 false = true then setN F x (F y) else F) 4) ∧ Hid (SB w' (w.heap.size + 1) (if listed.getD 13 false = true then setN pb x q else pb) (if listed.getD 13 false = true then setN F x (F y) else F) 4) ∧ Hid (listed.getD 5 false = true → AAt w' p (F y) ∧ ∀ j, j < 4 → p ≠ pa j) ∧ Hid (listed.getD 9 false = true → RAcc w' q (F y) ∧ ∀ j, j < 4 → q ≠ pb j) ∧ Hid ((listed.getD 5 false = true → w.heap.size ≤ p) ∧ (listed.getD 9 false = true → w.heap.size ≤ q)) ∧ Hid (listed.getD 5 false = true → listed.getD 4 false = true) ∧ Hid (listed.getD 11 false = true → listed.getD 5 false = true) ∧ Hid (listed.getD 9 false = true → listed.getD 8 false = true) ∧ Hid (listed.getD 13 false = true → listed.getD 9 false = true) ∧ a' = ⟨#[Value.slice (some (Addr.mk g o none)) n cap, undef, u2, Value.pointer (some (⟨w.heap.size, 0, none⟩)), Value.pointer (some (Addr.mk (w.heap.size + 1) 0 none)), Value.int IntKind.i64 4, Value.int IntKind.i64 ↑k, Value.int IntKind.u8 ↑x, Value.int IntKind.u8 ↑y, u9, u10, u11, undef, undef, undef, Value.slice (some (Addr.mk g o none)) n cap, Value.int IntKind.i64 ↑n, Value.bool false, undef, Value.int IntKind.i64 4, Value.bool false, u21, u22, u23, u24, u25, u26, u27, u28, u29, Value.int IntKind.i64 ↑k, Value.slice (some (Addr.mk g o none)) n cap, Value.int IntKind.i64 ↑n, Value.bool true, u34, u35, Value.slice (some (Addr.mk g o none)) n cap, Value.int IntKind.i64 ↑k, Value.pointer (some (Addr.mk g (o + k * 4) none)), Value.pointer (some (Addr.mk g (o + k * 4 + 1) none)), Value.int IntKind.u8 ↑onn, Value.int IntKind.u8 ↑x, Value.slice (some (Addr.mk g o none)) n cap, Value.int IntKind.i64 ↑k, Value.pointer (some (Addr.mk g (o + k * 4) none)), Value.pointer (some (Addr.mk g (o + k * 4 + 2) none)), Value.int IntKind.u8 ↑ot, Value.int IntKind.u8 ↑y, Value.slice (some (Addr.mk g o none)) n cap, Value.int IntKind.i64 ↑k, Value.pointer (some (Addr.mk g (o + k * 4) none)), Value.pointer (some (Addr.mk g (o + k * 4) none)), Value.int IntKind.u8 ↑wh, Value.int IntKind.u8 (↑wh % 5), Value.bool false, Value.bool false, u56, u57, u58, u59, u60, u61, u62, u63, u64, u65, u66, u67, u68, u69, u70, u71, u72, u73, u74, Value.bool false, Value.bool false, u77, u78, u79, u80, u81, u82, u83, u84, u85, u86, u87, u88, u89, u90, u91, u92, Value.bool true, Value.bool true, (if listed.getD 0 false = true then Value.int IntKind.u8 (x : Int) else u95), (if listed.getD 1 false = true then Value.int IntKind.u8 (x : Int) else u96), (if listed.getD 2 false = true then Value.int IntKind.u8 (y : Int) else u97), (if listed.getD 3 false = true then Value.pointer (some ⟨w.heap.size, y, none⟩) else u98), (if listed.getD 4 false = true then Value.pointer (some ⟨pa y, 0, none⟩) else u99), (if listed.getD 5 false = true then Value.pointer (some ⟨p, 0, none⟩) else u100), (if listed.getD 6 false = true then Value.int IntKind.u8 (y : Int) else u101), (if listed.getD 7 false = true then Value.pointer (some ⟨(w.heap.size + 1), y, none⟩) else u102), (if listed.getD 8 false = true then Value.pointer (some ⟨pb y, 0, none⟩) else u103), (if listed.getD 9 false = true then Value.pointer (some ⟨q, 0, none⟩) else u104), (if listed.getD 10 false = true then Value.pointer (some ⟨w.heap.size, x, none⟩) else u105), (if listed.getD 12 false = true then Value.pointer (some ⟨(w.heap.size + 1), x, none⟩) else u106), u107, u108, u109, u110, u111, u112, u113, u114, u115, u116, u117, u118, u119, u120, u121, u122, u123, u124, u125, u126, u127, u128, u129, u130, u131, u132, u133, u134, u135, u136, u137, u138, u139, u140, u141, u142, u143, u144, u145, u146, u147, u148, u149, u150, u151, u152, u153, u154, u155, u156, u157, u158, u159, u160, u161, u162, u163, u164, u165, u166, u167, u168, u169, u170, u171, u172, u173, u174, u175, u176, u177, u178, undef, undef, undef, undef, undef, undef, undef, undef, undef, undef, undef, undef, undef, undef, undef, undef, undef, undef, undef, undef, undef, undef, undef, undef], []⟩) (hup_check (by kernel_rfl)) ?h0 ?step ?fin
              case h0 => exact ⟨0, 0, HB2.out.drew, HA2.out.keep (Below.refl _ _).drew, HC2.out.keep (Below.refl _ _).drew, (fun h => by simp at h), (fun h => by simp at h), ⟨(fun h => by simp at h), (fun h => by simp at h)⟩, (fun h => by simp at h), (fun h => by simp at h), (fun h => by simp at h), (fun h => by simp at h), rfl⟩
              case step =>
                intro listed a' w' i hs hbi hdep hi ⟨p, q, IB, IA, IC, IP, IQ, IL, J5, J11, J9, J13, ha⟩
                obtain ⟨ls⟩ := listed
                match ls, hs with
                | [x0, x1, x2, x3, x4, x5, x6, x7, x8, x9, x10, x11, x12, x13], _ =>
                subst ha
                have hi' : i = 0 ∨ i = 1 ∨ i = 2 ∨ i = 3 ∨ i = 4 ∨ i = 5 ∨ i = 6 ∨ i = 7 ∨ i = 8 ∨ i = 9 ∨ i = 10 ∨ i = 11 ∨ i = 12 ∨ i = 13 := by simp at hi; omega
                rcases hi' with rfl | rfl | rfl | rfl | rfl | rfl | rfl | rfl | rfl | rfl | rfl | rfl | rfl | rfl
                · obtain rfl : x0 = false := by simpa using hbi
                  refine wpOpIn_plain rfl rfl rfl ?_
                  exact ⟨p, q, IB, IA, IC, IP, IQ, IL, J5, J11, J9, J13, rfl⟩
                · obtain rfl : x1 = false := by simpa using hbi
                  refine wpOpIn_plain rfl rfl rfl ?_
                  exact ⟨p, q, IB, IA, IC, IP, IQ, IL, J5, J11, J9, J13, rfl⟩
                · obtain rfl : x2 = false := by simpa using hbi
                  refine wpOpIn_plain rfl rfl rfl ?_
                  exact ⟨p, q, IB, IA, IC, IP, IQ, IL, J5, J11, J9, J13, rfl⟩
                · obtain rfl : x3 = false := by simpa using hbi
                  obtain rfl : x2 = true := hdep _ rfl ⟨2, .data⟩ (by simp) rfl
                  refine wpOpIn_plain (v := Value.pointer (some ⟨w.heap.size, y, none⟩)) (w' := w') rfl rfl (by simp [Oper.semAt, execOp, go_sem, hy4, hyi4]) ?_
                  exact ⟨p, q, IB, IA, IC, IP, IQ, IL, J5, J11, J9, J13, rfl⟩
                · obtain rfl : x4 = false := by simpa using hbi
                  obtain rfl : x3 = true := hdep _ rfl ⟨3, .data⟩ (by simp) rfl
                  obtain rfl : x11 = false := Bool.eq_false_iff.2 fun h => by have := (J5.out (J11.out h)); cases this
                  have ia : SA w' w.heap.size pa F 4 := IA.out
                  have c0 := ia.cell y hy4
                  refine wpOpIn_plain (v := Value.pointer (some ⟨pa y, 0, none⟩)) (w' := w') rfl rfl (by simp [Oper.semAt, execOp, go_sem, c0]) ?_
                  exact ⟨p, q, IB, IA, IC, IP, IQ, IL, (fun _ => rfl), J11, J9, J13, rfl⟩
                · obtain rfl : x5 = false := by simpa using hbi
                  obtain rfl : x4 = true := hdep _ rfl ⟨4, .data⟩ (by simp) rfl
                  obtain rfl : x11 = false := Bool.eq_false_iff.2 fun h => by have := J11.out h; cases this
                  have ia : SA w' w.heap.size pa F 4 := IA.out
                  refine wpOpIn_call (args := #[Value.pointer (some ⟨pa y, 0, none⟩)]) rfl rfl (sem_call1 rfl rfl (enters_of Tryz.func26 (by kernel_rfl) rfl)) (Copy_any (ia.el y hy4)) ?_
                  rintro e V ⟨rfl, hR9, hb9⟩
                  exact ⟨_, rfl, w'.heap.size, q, (IB.out.trans (hb9.mono IB.out.size)), (ia.keep hb9), (IC.out.keep hb9), (fun _ => ⟨hR9, ia.fresh (Nat.le_refl _)⟩), (fun h => ⟨(IQ.out h).1.keep hb9, (IQ.out h).2⟩), ⟨fun _ => IB.out.size, IL.out.2⟩, (fun _ => rfl), (fun _ => rfl), J9, J13, rfl⟩
                · obtain rfl : x6 = false := by simpa using hbi
                  refine wpOpIn_plain rfl rfl rfl ?_
                  exact ⟨p, q, IB, IA, IC, IP, IQ, IL, J5, J11, J9, J13, rfl⟩
                · obtain rfl : x7 = false := by simpa using hbi
                  obtain rfl : x6 = true := hdep _ rfl ⟨6, .data⟩ (by simp) rfl
                  refine wpOpIn_plain (v := Value.pointer (some ⟨(w.heap.size + 1), y, none⟩)) (w' := w') rfl rfl (by simp [Oper.semAt, execOp, go_sem, hy4, hyi4]) ?_
                  exact ⟨p, q, IB, IA, IC, IP, IQ, IL, J5, J11, J9, J13, rfl⟩
                · obtain rfl : x8 = false := by simpa using hbi
                  obtain rfl : x7 = true := hdep _ rfl ⟨7, .data⟩ (by simp) rfl
                  obtain rfl : x13 = false := Bool.eq_false_iff.2 fun h => by have := (J9.out (J13.out h)); cases this
                  have ic : SB w' (w.heap.size + 1) pb F 4 := IC.out
                  have c0 := ic.cell y hy4
                  refine wpOpIn_plain (v := Value.pointer (some ⟨pb y, 0, none⟩)) (w' := w') rfl rfl (by simp [Oper.semAt, execOp, go_sem, c0]) ?_
                  exact ⟨p, q, IB, IA, IC, IP, IQ, IL, J5, J11, (fun _ => rfl), J13, rfl⟩
                · obtain rfl : x9 = false := by simpa using hbi
                  obtain rfl : x8 = true := hdep _ rfl ⟨8, .data⟩ (by simp) rfl
                  obtain rfl : x13 = false := Bool.eq_false_iff.2 fun h => by have := J13.out h; cases this
                  have ic : SB w' (w.heap.size + 1) pb F 4 := IC.out
                  refine wpOpIn_call (args := #[Value.pointer (some ⟨pb y, 0, none⟩)]) rfl rfl (sem_call1 rfl rfl (enters_of Tryz.func25 (by kernel_rfl) rfl)) (rCopy_any (ic.el y hy4)) ?_
                  rintro e V ⟨rfl, hR9, hb9⟩
                  exact ⟨_, rfl, p, w'.heap.size, (IB.out.trans (hb9.mono IB.out.size)), (IA.out.keep hb9), (ic.keep hb9), (fun h => ⟨(IP.out h).1.keep hb9, (IP.out h).2⟩), (fun _ => ⟨hR9, ic.fresh (Nat.le_refl _)⟩), ⟨IL.out.1, fun _ => IB.out.size⟩, J5, J11, (fun _ => rfl), (fun _ => rfl), rfl⟩
                · obtain rfl : x10 = false := by simpa using hbi
                  obtain rfl : x0 = true := hdep _ rfl ⟨0, .data⟩ (by simp) rfl
                  refine wpOpIn_plain (v := Value.pointer (some ⟨w.heap.size, x, none⟩)) (w' := w') rfl rfl (by simp [Oper.semAt, execOp, go_sem, hx4, hxi4]) ?_
                  exact ⟨p, q, IB, IA, IC, IP, IQ, IL, J5, J11, J9, J13, rfl⟩
                · obtain rfl : x11 = false := by simpa using hbi
                  obtain rfl : x10 = true := hdep _ rfl ⟨10, .data⟩ (by simp) rfl
                  obtain rfl : x5 = true := hdep _ rfl ⟨5, .data⟩ (by simp) rfl
                  have ia : SA w' w.heap.size pa F 4 := IA.out
                  have c0 := ia.cell x hx4
                  have f0 := ia.open_ x
                  have l0 := ia.lt
                  have hs9 : Sole w.heap.size w' (w'.setCell ⟨w.heap.size, x, none⟩ (Value.pointer (some ⟨p, 0, none⟩))) := Sole.set _
                  refine wpOpIn_skip (w' := w'.setCell ⟨w.heap.size, x, none⟩ (Value.pointer (some ⟨p, 0, none⟩))) rfl rfl (by simp [Oper.semAt, execOp, go_sem, c0, f0, l0]) ?_
                  exact ⟨p, q, (IB.out.setCell (Nat.le_refl w.heap.size) _), (ia.put (x := x) (m := 4) (f := F y) (fun j hj _ => hj) (by omega) (IP.out rfl).1 (IP.out rfl).2), (IC.out.otherRow hs9 ia), (fun h => ⟨(IP.out h).1.otherRow hs9 ia, (IP.out h).2⟩), (fun h => ⟨(IQ.out h).1.otherRow hs9 ia, (IQ.out h).2⟩), IL, J5, (fun _ => rfl), J9, J13, rfl⟩
                · obtain rfl : x12 = false := by simpa using hbi
                  obtain rfl : x1 = true := hdep _ rfl ⟨1, .data⟩ (by simp) rfl
                  refine wpOpIn_plain (v := Value.pointer (some ⟨(w.heap.size + 1), x, none⟩)) (w' := w') rfl rfl (by simp [Oper.semAt, execOp, go_sem, hx4, hxi4]) ?_
                  exact ⟨p, q, IB, IA, IC, IP, IQ, IL, J5, J11, J9, J13, rfl⟩
                · obtain rfl : x13 = false := by simpa using hbi
                  obtain rfl : x12 = true := hdep _ rfl ⟨12, .data⟩ (by simp) rfl
                  obtain rfl : x9 = true := hdep _ rfl ⟨9, .data⟩ (by simp) rfl
                  have ic : SB w' (w.heap.size + 1) pb F 4 := IC.out
                  have c0 := ic.cell x hx4
                  have f0 := ic.open_ x
                  have l0 := ic.lt
                  have hs9 : Sole (w.heap.size + 1) w' (w'.setCell ⟨w.heap.size + 1, x, none⟩ (Value.pointer (some ⟨q, 0, none⟩))) := Sole.set _
                  refine wpOpIn_skip (w' := w'.setCell ⟨w.heap.size + 1, x, none⟩ (Value.pointer (some ⟨q, 0, none⟩))) rfl rfl (by simp [Oper.semAt, execOp, go_sem, c0, f0, l0]) ?_
                  exact ⟨p, q, (IB.out.setCell (Nat.le_succ w.heap.size) _), (IA.out.otherRowB hs9 ic), (ic.put (x := x) (m := 4) (f := F y) (fun j hj _ => hj) (by omega) (IQ.out rfl).1 (IQ.out rfl).2), (fun h => ⟨(IP.out h).1.otherRowB hs9 ic, (IP.out h).2⟩), (fun h => ⟨(IQ.out h).1.otherRowB hs9 ic, (IQ.out h).2⟩), IL, J5, J11, J9, (fun _ => rfl), rfl⟩
              case fin =>
              intro listed a' Z hs hall ⟨p, q, IB, IA, IC, IP, IQ, IL, J5, J11, J9, J13, ha⟩
              obtain ⟨ls⟩ := listed
              match ls, hs with
              | [x0, x1, x2, x3, x4, x5, x6, x7, x8, x9, x10, x11, x12, x13], _ =>
              obtain rfl : x0 = true := hall 0 (by simp)
              obtain rfl : x1 = true := hall 1 (by simp)
              obtain rfl : x2 = true := hall 2 (by simp)
              obtain rfl : x3 = true := hall 3 (by simp)
              obtain rfl : x4 = true := hall 4 (by simp)
              obtain rfl : x5 = true := hall 5 (by simp)
              obtain rfl : x6 = true := hall 6 (by simp)
              obtain rfl : x7 = true := hall 7 (by simp)
              obtain rfl : x8 = true := hall 8 (by simp)
              obtain rfl : x9 = true := hall 9 (by simp)
              obtain rfl : x10 = true := hall 10 (by simp)
              obtain rfl : x11 = true := hall 11 (by simp)
              obtain rfl : x12 = true := hall 12 (by simp)
              obtain rfl : x13 = true := hall 13 (by simp)
              subst ha
              have HZA : Hid (SA Z w.heap.size (setN pa x p) (setN F x (F y)) 4) := IA
              have HZC : Hid (SB Z (w.heap.size + 1) (setN pb x q) (setN F x (F y)) 4) := IC
              have HZB : Hid (Below w.heap.size w Z) := IB
              have HZL : Hid (∀ j, j < 4 → w.heap.size ≤ setN pa x p j ∧ w.heap.size ≤ setN pb x q j) := lo_set HLO.out (IL.out.1 rfl) (IL.out.2 rfl)
              clear IA IB IC IP IQ IL J5 J11 J9 J13 hall hs
              dsimp only [Exit.then, Exit.inBlock]
              go_wp2_with fail
              go_meet
              case rel =>
                exact ⟨_, _, _, HZA, HZC, fit_set HFT.out (HFT.out y hy4), HZB, HZL⟩
            · have cy := HA2.out.cell y hy4
              have hfy := HFT.out y hy4
              have HE := Lib.hid (Encode_any (HA2.out.el y hy4) hfy.ok.saw (by have := hfy.ok.zero; omega) hfy.ok.V)
              have HSM := Lib.hid (encN_small hfy.ok.saw (show (F y).zero < 32 by have := hfy.ok.zero; omega))
              have HEL := Lib.hid (enc_len hfy.ok hfy.lim)
              have HNE : Hid (encN (F y) ≠ []) := by show _ ≠ _; unfold encN; simp
              have HDK : Hid (decN (encN (F y)) = F y) := dec_enc hfy.ok
              have HDO : Hid (decOk (encN (F y))) := dec_ok hfy.ok hfy.poss
              have HRE : Hid (∀ W, RAcc W (pb y) (F y) → Calls Tryz.prog 28 #[.pointer (some ⟨pb y, 0, none⟩)] W fun e w' => ∃ v, e = .returned v ∧ NewBs W.heap.size w' v (encN (F y)) ∧ Below W.heap.size W w') := fun W h => rEncode_any h hfy.ok
              clear hfy
              generalize encN (F y) = L at *
              go_wp2_with fail
              refine HE.out.mono ?_
              rintro e w3 ⟨v, rfl, hv, hb3⟩
              obtain ⟨va, vc, rfl, hbs⟩ := hv.bs HNE.out HSM.out
              have HBS := Lib.hid hbs
              have HCP := Lib.hid hv.capOk
              have HA3 := Lib.hid (HA2.out.keep hb3)
              have HC3 := Lib.hid (HC2.out.keep hb3)
              have HB3 := Lib.hid (HB2.out.trans (hb3.mono HB2.out.size))
              clear hv hb3 hbs HE cy
              clear HA2 HC2 HB2
              go_wp2_with fail
              refine (wpIn_wide (n := 0)).1 ?_
              refine region_det (by kernel_rfl) (I := fun listed a' w' => ∃ (vs : Option Addr) (vd : Nat), Hid (Below w3.heap.size w3 w') ∧ Hid (listed.getD 8 false = true → Bs w' vs L) ∧ a' = ⟨#[Value.slice (some (Addr.mk g o none)) n cap, undef, u2, Value.pointer (some (⟨w.heap.size, 0, none⟩)), Value.pointer (some (Addr.mk (w.heap.size + 1) 0 none)), Value.int IntKind.i64 4, Value.int IntKind.i64 ↑k, Value.int IntKind.u8 ↑x, Value.int IntKind.u8 ↑y, Value.slice va L.length vc, Value.int IntKind.i64 0, u11, undef, undef, undef, Value.slice (some (Addr.mk g o none)) n cap, Value.int IntKind.i64 ↑n, Value.bool false, undef, Value.int IntKind.i64 4, Value.bool false, u21, u22, u23, u24, u25, u26, u27, u28, u29, Value.int IntKind.i64 ↑k, Value.slice (some (Addr.mk g o none)) n cap, Value.int IntKind.i64 ↑n, Value.bool true, u34, u35, Value.slice (some (Addr.mk g o none)) n cap, Value.int IntKind.i64 ↑k, Value.pointer (some (Addr.mk g (o + k * 4) none)), Value.pointer (some (Addr.mk g (o + k * 4 + 1) none)), Value.int IntKind.u8 ↑onn, Value.int IntKind.u8 ↑x, Value.slice (some (Addr.mk g o none)) n cap, Value.int IntKind.i64 ↑k, Value.pointer (some (Addr.mk g (o + k * 4) none)), Value.pointer (some (Addr.mk g (o + k * 4 + 2) none)), Value.int IntKind.u8 ↑ot, Value.int IntKind.u8 ↑y, Value.slice (some (Addr.mk g o none)) n cap, Value.int IntKind.i64 ↑k, Value.pointer (some (Addr.mk g (o + k * 4) none)), Value.pointer (some (Addr.mk g (o + k * 4) none)), Value.int IntKind.u8 ↑wh, Value.int IntKind.u8 3, Value.bool false, Value.bool false, u56, u57, u58, u59, u60, u61, u62, u63, u64, u65, u66, u67, u68, u69, u70, u71, u72, u73, u74, Value.bool false, Value.bool false, u77, u78, u79, u80, u81, u82, u83, u84, u85, u86, u87, u88, u89, u90, u91, u92, Value.bool false, Value.bool false, u95, u96, u97, u98, u99, u100, u101, u102, u103, u104, u105, u106, Value.bool true, Value.bool true, Value.tuple #[Value.slice va L.length vc, Value.int IntKind.i64 0], Value.int IntKind.u8 ↑y, Value.pointer (some (Addr.mk w.heap.size y none)), Value.pointer (some (Addr.mk (pa y) 0 none)), Value.tuple #[Value.slice va L.length vc, Value.int IntKind.i64 0], Value.slice va L.length vc, Value.int IntKind.i64 0, (if listed.getD 0 false = true then Value.int IntKind.i64 0 else u116), (if listed.getD 1 false = true then Value.bool false else u117), (if listed.getD 2 false = true then Value.bool false else u118), (if listed.getD 3 false = true then Value.slice va L.length vc else u119), (if listed.getD 4 false = true then Value.string (strN L) else u120), (if listed.getD 5 false = true then Value.int IntKind.u8 (y : Int) else u121), (if listed.getD 6 false = true then Value.pointer (some ⟨(w.heap.size + 1), y, none⟩) else u122), (if listed.getD 7 false = true then Value.pointer (some ⟨pb y, 0, none⟩) else u123), (if listed.getD 8 false = true then Value.slice vs L.length vd else u124), (if listed.getD 9 false = true then Value.string (strN L) else u125), (if listed.getD 10 false = true then Value.bool false else u126), (if listed.getD 11 false = true then Value.bool false else u127), u128, u129, u130, u131, u132, u133, u134, u135, u136, u137, u138, u139, u140, u141, u142, u143, u144, u145, u146, u147, u148, u149, u150, u151, u152, u153, u154, u155, u156, u157, u158, u159, u160, u161, u162, u163, u164, u165, u166, u167, u168, u169, u170, u171, u172, u173, u174, u175, u176, u177, u178, undef, undef, undef, undef, undef, undef, undef, undef, undef, undef, undef, undef, undef, undef, undef, undef, undef, undef, undef, undef, undef, undef, undef, undef], []⟩) (hup_check (by kernel_rfl)) ?h0 ?step ?fin
              case h0 => exact ⟨none, 0, (Below.refl _ _).drew, (fun h => by simp at h), rfl⟩
              case step =>
                intro listed a' w' i hs hbi hdep hi ⟨vs, vd, IB, IS, ha⟩
                obtain ⟨ls⟩ := listed
                match ls, hs with
                | [x0, x1, x2, x3, x4, x5, x6, x7, x8, x9, x10, x11], _ =>
                subst ha
                have hi' : i = 0 ∨ i = 1 ∨ i = 2 ∨ i = 3 ∨ i = 4 ∨ i = 5 ∨ i = 6 ∨ i = 7 ∨ i = 8 ∨ i = 9 ∨ i = 10 ∨ i = 11 := by simp at hi; omega
                rcases hi' with rfl | rfl | rfl | rfl | rfl | rfl | rfl | rfl | rfl | rfl | rfl | rfl
                · obtain rfl : x0 = false := by simpa using hbi
                  refine wpOpIn_plain rfl rfl rfl ?_
                  exact ⟨vs, vd, IB, IS, rfl⟩
                · obtain rfl : x1 = false := by simpa using hbi
                  obtain rfl : x0 = true := hdep _ rfl ⟨0, .data⟩ (by simp) rfl
                  refine wpOpIn_plain (v := Value.bool false) (w' := w') rfl rfl (by simp [Oper.semAt, execOp, go_sem]) ?_
                  exact ⟨vs, vd, IB, IS, rfl⟩
                · obtain rfl : x2 = false := by simpa using hbi
                  obtain rfl : x1 = true := hdep _ rfl ⟨1, .data⟩ (by simp) rfl
                  refine wpOpIn_plain rfl rfl rfl ?_
                  exact ⟨vs, vd, IB, IS, rfl⟩
                · obtain rfl : x3 = false := by simpa using hbi
                  obtain rfl : x2 = true := hdep _ rfl ⟨2, .guard⟩ (by simp) rfl
                  refine wpOpIn_guard (v := Value.slice va L.length vc) (w' := w') rfl rfl rfl (by simp [Oper.semAt, execOp, go_sem]) ?_
                  exact ⟨vs, vd, IB, IS, rfl⟩
                · obtain rfl : x4 = false := by simpa using hbi
                  obtain rfl : x3 = true := hdep _ rfl ⟨3, .data⟩ (by simp) rfl
                  obtain rfl : x2 = true := hdep _ rfl ⟨2, .guard⟩ (by simp) rfl
                  have hc9 := conv_str (HBS.out.keep IB.out) HNE.out vc
                  refine wpOpIn_guard (v := Value.string (strN L)) (w' := w') rfl rfl rfl (sem_conv rfl rfl hc9) ?_
                  exact ⟨vs, vd, IB, IS, rfl⟩
                · obtain rfl : x5 = false := by simpa using hbi
                  obtain rfl : x2 = true := hdep _ rfl ⟨2, .guard⟩ (by simp) rfl
                  refine wpOpIn_guard (v := Value.int IntKind.u8 (y : Int)) (w' := w') rfl rfl rfl (by simp [Oper.semAt, execOp, go_sem]) ?_
                  exact ⟨vs, vd, IB, IS, rfl⟩
                · obtain rfl : x6 = false := by simpa using hbi
                  obtain rfl : x5 = true := hdep _ rfl ⟨5, .data⟩ (by simp) rfl
                  obtain rfl : x2 = true := hdep _ rfl ⟨2, .guard⟩ (by simp) rfl
                  refine wpOpIn_guard (v := Value.pointer (some ⟨(w.heap.size + 1), y, none⟩)) (w' := w') rfl rfl rfl (by simp [Oper.semAt, execOp, go_sem, hy4, hyi4]) ?_
                  exact ⟨vs, vd, IB, IS, rfl⟩
                · obtain rfl : x7 = false := by simpa using hbi
                  obtain rfl : x6 = true := hdep _ rfl ⟨6, .data⟩ (by simp) rfl
                  obtain rfl : x2 = true := hdep _ rfl ⟨2, .guard⟩ (by simp) rfl
                  have c9 := (HC3.out.keep IB.out).cell y hy4
                  refine wpOpIn_guard (v := Value.pointer (some ⟨pb y, 0, none⟩)) (w' := w') rfl rfl rfl (by simp [Oper.semAt, execOp, go_sem, c9]) ?_
                  exact ⟨vs, vd, IB, IS, rfl⟩
                · obtain rfl : x8 = false := by simpa using hbi
                  obtain rfl : x7 = true := hdep _ rfl ⟨7, .data⟩ (by simp) rfl
                  obtain rfl : x2 = true := hdep _ rfl ⟨2, .guard⟩ (by simp) rfl
                  refine wpOpIn_callg (args := #[Value.pointer (some ⟨pb y, 0, none⟩)]) rfl rfl rfl (sem_call1 rfl rfl (enters_of Tryz.func28 (by kernel_rfl) rfl)) (HRE.out w' ((HC3.out.keep IB.out).el y hy4)) ?_
                  rintro e V ⟨v9, rfl, hv9, hb9⟩
                  obtain ⟨vs9, vd9, rfl, hbs9⟩ := hv9.bs HNE.out HSM.out
                  exact ⟨_, rfl, vs9, vd9, (IB.out.trans (hb9.mono IB.out.size)), (fun _ => hbs9), rfl⟩
                · obtain rfl : x9 = false := by simpa using hbi
                  obtain rfl : x8 = true := hdep _ rfl ⟨8, .data⟩ (by simp) rfl
                  obtain rfl : x2 = true := hdep _ rfl ⟨2, .guard⟩ (by simp) rfl
                  have hc9 := conv_str (IS.out rfl) HNE.out vd
                  refine wpOpIn_guard (v := Value.string (strN L)) (w' := w') rfl rfl rfl (sem_conv rfl rfl hc9) ?_
                  exact ⟨vs, vd, IB, IS, rfl⟩
                · obtain rfl : x10 = false := by simpa using hbi
                  obtain rfl : x4 = true := hdep _ rfl ⟨4, .data⟩ (by simp) rfl
                  obtain rfl : x9 = true := hdep _ rfl ⟨9, .data⟩ (by simp) rfl
                  obtain rfl : x2 = true := hdep _ rfl ⟨2, .guard⟩ (by simp) rfl
                  refine wpOpIn_guard (v := Value.bool false) (w' := w') rfl rfl rfl (sem_bin (vx := Value.string (strN L)) (vy := Value.string (strN L)) rfl rfl rfl rfl (run_neqs _ w')) ?_
                  exact ⟨vs, vd, IB, IS, rfl⟩
                · obtain rfl : x11 = false := by simpa using hbi
                  obtain rfl : x2 = true := hdep _ rfl ⟨2, .data⟩ (by simp) rfl
                  obtain rfl : x10 = true := hdep _ rfl ⟨10, .data⟩ (by simp) rfl
                  refine wpOpIn_plain (v := Value.bool false) (w' := w') rfl rfl (by simp [Oper.semAt, execOp, go_sem]) ?_
                  exact ⟨vs, vd, IB, IS, rfl⟩
              case fin =>
              intro listed a' Z hs hall ⟨vs, vd, IB, IS, ha⟩
              obtain ⟨ls⟩ := listed
              match ls, hs with
              | [x0, x1, x2, x3, x4, x5, x6, x7, x8, x9, x10, x11], _ =>
              obtain rfl : x0 = true := hall 0 (by simp)
              obtain rfl : x1 = true := hall 1 (by simp)
              obtain rfl : x2 = true := hall 2 (by simp)
              obtain rfl : x3 = true := hall 3 (by simp)
              obtain rfl : x4 = true := hall 4 (by simp)
              obtain rfl : x5 = true := hall 5 (by simp)
              obtain rfl : x6 = true := hall 6 (by simp)
              obtain rfl : x7 = true := hall 7 (by simp)
              obtain rfl : x8 = true := hall 8 (by simp)
              obtain rfl : x9 = true := hall 9 (by simp)
              obtain rfl : x10 = true := hall 10 (by simp)
              obtain rfl : x11 = true := hall 11 (by simp)
              subst ha
              have HZ : Hid (Below w3.heap.size w3 Z) := IB
              clear IB IS hall hs HRE
              dsimp only [Exit.then, Exit.inBlock]
              have HD := Lib.hid (Decode_any (HBS.out.keep HZ.out) HEL.out.1 HEL.out.2 vc HCP.out)
              have HA4 := Lib.hid (HA3.out.keep HZ.out)
              have HC4 := Lib.hid (HC3.out.keep HZ.out)
              have HB4 := Lib.hid (HB3.out.trans (HZ.out.mono HB3.out.size))
              clear HA3 HC3 HB3 HZ HBS HCP HSM HNE HEL
              go_wp2_with fail
              refine HD.out.mono ?_
              rintro e w4 ⟨hb4, hcase⟩
              rw [if_pos HDO.out] at hcase
              obtain ⟨d, rfl, hdlo, hdA⟩ := hcase
              rw [HDK.out] at hdA
              have HDA := Lib.hid hdA
              have HDF := Lib.hid (HA4.out.fresh hdlo)
              have HDL : Hid (w.heap.size ≤ d) := Nat.le_trans HB4.out.size hdlo
              have HA5 := Lib.hid (HA4.out.keep hb4)
              have HC5 := Lib.hid (HC4.out.keep hb4)
              have HB5 := Lib.hid (HB4.out.trans (hb4.mono HB4.out.size))
              clear HA4 HC4 HB4 hb4 hdA hdlo HD HDK HDO
              go_wp2_with fail
              refine (wpIn_wide (n := 0)).1 ?_
              refine region_det (by kernel_rfl) (I := fun listed a' w' => ∃ q : Nat, Hid (Below w.heap.size w w') ∧ Hid (SA w' w.heap.size (if listed.getD 8 false = true then setN pa x d else pa) (if listed.getD 8 false = true then setN F x (F y) else F) 4) ∧ Hid (SB w' (w.heap.size + 1) (if listed.getD 10 false = true then setN pb x q else pb) (if listed.getD 10 false = true then setN F x (F y) else F) 4) ∧ Hid (listed.getD 2 false = true → AAt w' d (F y) ∧ ∀ j, j < 4 → d ≠ pa j) ∧ Hid (listed.getD 6 false = true → RAcc w' q (F y) ∧ ∀ j, j < 4 → q ≠ pb j) ∧ Hid (listed.getD 6 false = true → w.heap.size ≤ q) ∧ Hid (listed.getD 2 false = false → AAt w' d (F y)) ∧ Hid (listed.getD 6 false = true → listed.getD 5 false = true) ∧ Hid (listed.getD 10 false = true → listed.getD 6 false = true) ∧ a' = ⟨#[Value.slice (some (Addr.mk g o none)) n cap, undef, u2, Value.pointer (some (⟨w.heap.size, 0, none⟩)), Value.pointer (some (Addr.mk (w.heap.size + 1) 0 none)), Value.int IntKind.i64 4, Value.int IntKind.i64 ↑k, Value.int IntKind.u8 ↑x, Value.int IntKind.u8 ↑y, Value.slice va L.length vc, Value.int IntKind.i64 0, Value.pointer (some (Addr.mk d 0 none)), undef, undef, undef, Value.slice (some (Addr.mk g o none)) n cap, Value.int IntKind.i64 ↑n, Value.bool false, undef, Value.int IntKind.i64 4, Value.bool false, u21, u22, u23, u24, u25, u26, u27, u28, u29, Value.int IntKind.i64 ↑k, Value.slice (some (Addr.mk g o none)) n cap, Value.int IntKind.i64 ↑n, Value.bool true, u34, u35, Value.slice (some (Addr.mk g o none)) n cap, Value.int IntKind.i64 ↑k, Value.pointer (some (Addr.mk g (o + k * 4) none)), Value.pointer (some (Addr.mk g (o + k * 4 + 1) none)), Value.int IntKind.u8 ↑onn, Value.int IntKind.u8 ↑x, Value.slice (some (Addr.mk g o none)) n cap, Value.int IntKind.i64 ↑k, Value.pointer (some (Addr.mk g (o + k * 4) none)), Value.pointer (some (Addr.mk g (o + k * 4 + 2) none)), Value.int IntKind.u8 ↑ot, Value.int IntKind.u8 ↑y, Value.slice (some (Addr.mk g o none)) n cap, Value.int IntKind.i64 ↑k, Value.pointer (some (Addr.mk g (o + k * 4) none)), Value.pointer (some (Addr.mk g (o + k * 4) none)), Value.int IntKind.u8 ↑wh, Value.int IntKind.u8 3, Value.bool false, Value.bool false, u56, u57, u58, u59, u60, u61, u62, u63, u64, u65, u66, u67, u68, u69, u70, u71, u72, u73, u74, Value.bool false, Value.bool false, u77, u78, u79, u80, u81, u82, u83, u84, u85, u86, u87, u88, u89, u90, u91, u92, Value.bool false, Value.bool false, u95, u96, u97, u98, u99, u100, u101, u102, u103, u104, u105, u106, Value.bool true, Value.bool true, Value.tuple #[Value.slice va L.length vc, Value.int IntKind.i64 0], Value.int IntKind.u8 ↑y, Value.pointer (some (Addr.mk w.heap.size y none)), Value.pointer (some (Addr.mk (pa y) 0 none)), Value.tuple #[Value.slice va L.length vc, Value.int IntKind.i64 0], Value.slice va L.length vc, Value.int IntKind.i64 0, Value.int IntKind.i64 0, Value.bool false, Value.bool false, Value.slice va L.length vc, Value.string (strN L), Value.int IntKind.u8 ↑y, Value.pointer (some (Addr.mk (w.heap.size + 1) y none)), Value.pointer (some (Addr.mk (pb y) 0 none)), Value.slice vs L.length vd, Value.string (strN L), Value.bool false, Value.bool false, Value.tuple #[Value.pointer (some (Addr.mk d 0 none)), Value.int IntKind.i64 0], Value.slice va L.length vc, Value.tuple #[Value.pointer (some (Addr.mk d 0 none)), Value.int IntKind.i64 0], Value.pointer (some (Addr.mk d 0 none)), Value.int IntKind.i64 0, Value.int IntKind.i64 0, Value.bool false, (if listed.getD 0 false = true then Value.int IntKind.u8 (x : Int) else u135), (if listed.getD 1 false = true then Value.int IntKind.u8 (x : Int) else u136), (if listed.getD 2 false = true then Value.pointer (some ⟨d, 0, none⟩) else u137), (if listed.getD 3 false = true then Value.int IntKind.u8 (y : Int) else u138), (if listed.getD 4 false = true then Value.pointer (some ⟨(w.heap.size + 1), y, none⟩) else u139), (if listed.getD 5 false = true then Value.pointer (some ⟨pb y, 0, none⟩) else u140), (if listed.getD 6 false = true then Value.pointer (some ⟨q, 0, none⟩) else u141), (if listed.getD 7 false = true then Value.pointer (some ⟨w.heap.size, x, none⟩) else u142), (if listed.getD 9 false = true then Value.pointer (some ⟨(w.heap.size + 1), x, none⟩) else u143), u144, u145, u146, u147, u148, u149, u150, u151, u152, u153, u154, u155, u156, u157, u158, u159, u160, u161, u162, u163, u164, u165, u166, u167, u168, u169, u170, u171, u172, u173, u174, u175, u176, u177, u178, undef, undef, undef, undef, undef, undef, undef, undef, undef, undef, undef, undef, undef, undef, undef, undef, undef, undef, undef, undef, undef, undef, undef, undef], []⟩) (hup_check (by kernel_rfl)) ?h0 ?step ?fin
              case h0 => exact ⟨0, HB5.out.drew, HA5.out.keep (Below.refl _ _).drew, HC5.out.keep (Below.refl _ _).drew, (fun h => by simp at h), (fun h => by simp at h), (fun h => by simp at h), (fun _ => HDA.out.keep (Below.refl _ _).drew), (fun h => by simp at h), (fun h => by simp at h), rfl⟩
              case step =>
                intro listed a' w' i hs hbi hdep hi ⟨q, IB, IA, IC, IP, IQ, IL, ID, J6, J10, ha⟩
                obtain ⟨ls⟩ := listed
                match ls, hs with
                | [x0, x1, x2, x3, x4, x5, x6, x7, x8, x9, x10], _ =>
                subst ha
                have hi' : i = 0 ∨ i = 1 ∨ i = 2 ∨ i = 3 ∨ i = 4 ∨ i = 5 ∨ i = 6 ∨ i = 7 ∨ i = 8 ∨ i = 9 ∨ i = 10 := by simp at hi; omega
                rcases hi' with rfl | rfl | rfl | rfl | rfl | rfl | rfl | rfl | rfl | rfl | rfl
                · obtain rfl : x0 = false := by simpa using hbi
                  refine wpOpIn_plain rfl rfl rfl ?_
                  exact ⟨q, IB, IA, IC, IP, IQ, IL, ID, J6, J10, rfl⟩
                · obtain rfl : x1 = false := by simpa using hbi
                  refine wpOpIn_plain rfl rfl rfl ?_
                  exact ⟨q, IB, IA, IC, IP, IQ, IL, ID, J6, J10, rfl⟩
                · obtain rfl : x2 = false := by simpa using hbi
                  have id9 := ID.out rfl
                  refine wpOpIn_plain rfl rfl rfl ?_
                  exact ⟨q, IB, IA, IC, (fun _ => ⟨id9, HDF.out⟩), IQ, IL, (fun h => by cases h), J6, J10, rfl⟩
                · obtain rfl : x3 = false := by simpa using hbi
                  refine wpOpIn_plain rfl rfl rfl ?_
                  exact ⟨q, IB, IA, IC, IP, IQ, IL, ID, J6, J10, rfl⟩
                · obtain rfl : x4 = false := by simpa using hbi
                  obtain rfl : x3 = true := hdep _ rfl ⟨3, .data⟩ (by simp) rfl
                  refine wpOpIn_plain (v := Value.pointer (some ⟨(w.heap.size + 1), y, none⟩)) (w' := w') rfl rfl (by simp [Oper.semAt, execOp, go_sem, hy4, hyi4]) ?_
                  exact ⟨q, IB, IA, IC, IP, IQ, IL, ID, J6, J10, rfl⟩
                · obtain rfl : x5 = false := by simpa using hbi
                  obtain rfl : x4 = true := hdep _ rfl ⟨4, .data⟩ (by simp) rfl
                  obtain rfl : x10 = false := Bool.eq_false_iff.2 fun h => by have := (J6.out (J10.out h)); cases this
                  have ic : SB w' (w.heap.size + 1) pb F 4 := IC.out
                  have c0 := ic.cell y hy4
                  refine wpOpIn_plain (v := Value.pointer (some ⟨pb y, 0, none⟩)) (w' := w') rfl rfl (by simp [Oper.semAt, execOp, go_sem, c0]) ?_
                  exact ⟨q, IB, IA, IC, IP, IQ, IL, ID, (fun _ => rfl), J10, rfl⟩
                · obtain rfl : x6 = false := by simpa using hbi
                  obtain rfl : x5 = true := hdep _ rfl ⟨5, .data⟩ (by simp) rfl
                  obtain rfl : x10 = false := Bool.eq_false_iff.2 fun h => by have := J10.out h; cases this
                  have ic : SB w' (w.heap.size + 1) pb F 4 := IC.out
                  refine wpOpIn_call (args := #[Value.pointer (some ⟨pb y, 0, none⟩)]) rfl rfl (sem_call1 rfl rfl (enters_of Tryz.func25 (by kernel_rfl) rfl)) (rCopy_any (ic.el y hy4)) ?_
                  rintro e V ⟨rfl, hR9, hb9⟩
                  exact ⟨_, rfl, w'.heap.size, (IB.out.trans (hb9.mono IB.out.size)), (IA.out.keep hb9), (ic.keep hb9), (fun h => ⟨(IP.out h).1.keep hb9, (IP.out h).2⟩), (fun _ => ⟨hR9, ic.fresh (Nat.le_refl _)⟩), (fun _ => IB.out.size), (fun h => (ID.out h).keep hb9), (fun _ => rfl), (fun _ => rfl), rfl⟩
                · obtain rfl : x7 = false := by simpa using hbi
                  obtain rfl : x0 = true := hdep _ rfl ⟨0, .data⟩ (by simp) rfl
                  refine wpOpIn_plain (v := Value.pointer (some ⟨w.heap.size, x, none⟩)) (w' := w') rfl rfl (by simp [Oper.semAt, execOp, go_sem, hx4, hxi4]) ?_
                  exact ⟨q, IB, IA, IC, IP, IQ, IL, ID, J6, J10, rfl⟩
                · obtain rfl : x8 = false := by simpa using hbi
                  obtain rfl : x7 = true := hdep _ rfl ⟨7, .data⟩ (by simp) rfl
                  obtain rfl : x2 = true := hdep _ rfl ⟨2, .data⟩ (by simp) rfl
                  have ia : SA w' w.heap.size pa F 4 := IA.out
                  have c0 := ia.cell x hx4
                  have f0 := ia.open_ x
                  have l0 := ia.lt
                  have hs9 : Sole w.heap.size w' (w'.setCell ⟨w.heap.size, x, none⟩ (Value.pointer (some ⟨d, 0, none⟩))) := Sole.set _
                  refine wpOpIn_skip (w' := w'.setCell ⟨w.heap.size, x, none⟩ (Value.pointer (some ⟨d, 0, none⟩))) rfl rfl (by simp [Oper.semAt, execOp, go_sem, c0, f0, l0]) ?_
                  exact ⟨q, (IB.out.setCell (Nat.le_refl w.heap.size) _), (ia.put (x := x) (m := 4) (f := F y) (fun j hj _ => hj) (by omega) (IP.out rfl).1 (IP.out rfl).2), (IC.out.otherRow hs9 ia), (fun h => ⟨(IP.out h).1.otherRow hs9 ia, (IP.out h).2⟩), (fun h => ⟨(IQ.out h).1.otherRow hs9 ia, (IQ.out h).2⟩), IL, (fun h => (ID.out h).otherRow hs9 ia), J6, J10, rfl⟩
                · obtain rfl : x9 = false := by simpa using hbi
                  obtain rfl : x1 = true := hdep _ rfl ⟨1, .data⟩ (by simp) rfl
                  refine wpOpIn_plain (v := Value.pointer (some ⟨(w.heap.size + 1), x, none⟩)) (w' := w') rfl rfl (by simp [Oper.semAt, execOp, go_sem, hx4, hxi4]) ?_
                  exact ⟨q, IB, IA, IC, IP, IQ, IL, ID, J6, J10, rfl⟩
                · obtain rfl : x10 = false := by simpa using hbi
                  obtain rfl : x9 = true := hdep _ rfl ⟨9, .data⟩ (by simp) rfl
                  obtain rfl : x6 = true := hdep _ rfl ⟨6, .data⟩ (by simp) rfl
                  have ic : SB w' (w.heap.size + 1) pb F 4 := IC.out
                  have c0 := ic.cell x hx4
                  have f0 := ic.open_ x
                  have l0 := ic.lt
                  have hs9 : Sole (w.heap.size + 1) w' (w'.setCell ⟨w.heap.size + 1, x, none⟩ (Value.pointer (some ⟨q, 0, none⟩))) := Sole.set _
                  refine wpOpIn_skip (w' := w'.setCell ⟨w.heap.size + 1, x, none⟩ (Value.pointer (some ⟨q, 0, none⟩))) rfl rfl (by simp [Oper.semAt, execOp, go_sem, c0, f0, l0]) ?_
                  exact ⟨q, (IB.out.setCell (Nat.le_succ w.heap.size) _), (IA.out.otherRowB hs9 ic), (ic.put (x := x) (m := 4) (f := F y) (fun j hj _ => hj) (by omega) (IQ.out rfl).1 (IQ.out rfl).2), (fun h => ⟨(IP.out h).1.otherRowB hs9 ic, (IP.out h).2⟩), (fun h => ⟨(IQ.out h).1.otherRowB hs9 ic, (IQ.out h).2⟩), IL, (fun h => (ID.out h).otherRowB hs9 ic), J6, (fun _ => rfl), rfl⟩
              case fin =>
              intro listed a' Z hs hall ⟨q, IB, IA, IC, IP, IQ, IL, ID, J6, J10, ha⟩
              obtain ⟨ls⟩ := listed
              match ls, hs with
              | [x0, x1, x2, x3, x4, x5, x6, x7, x8, x9, x10], _ =>
              obtain rfl : x0 = true := hall 0 (by simp)
              obtain rfl : x1 = true := hall 1 (by simp)
              obtain rfl : x2 = true := hall 2 (by simp)
              obtain rfl : x3 = true := hall 3 (by simp)
              obtain rfl : x4 = true := hall 4 (by simp)
              obtain rfl : x5 = true := hall 5 (by simp)
              obtain rfl : x6 = true := hall 6 (by simp)
              obtain rfl : x7 = true := hall 7 (by simp)
              obtain rfl : x8 = true := hall 8 (by simp)
              obtain rfl : x9 = true := hall 9 (by simp)
              obtain rfl : x10 = true := hall 10 (by simp)
              subst ha
              have HZA : Hid (SA Z w.heap.size (setN pa x d) (setN F x (F y)) 4) := IA
              have HZC : Hid (SB Z (w.heap.size + 1) (setN pb x q) (setN F x (F y)) 4) := IC
              have HZB : Hid (Below w.heap.size w Z) := IB
              have HZL : Hid (∀ j, j < 4 → w.heap.size ≤ setN pa x d j ∧ w.heap.size ≤ setN pb x q j) := lo_set HLO.out HDL.out (IL.out rfl)
              clear IA IB IC IP IQ IL ID J6 J10 hall hs
              dsimp only [Exit.then, Exit.inBlock]
              go_wp2_with fail
              go_meet
              case rel =>
                exact ⟨_, _, _, HZA, HZC, fit_set HFT.out (HFT.out y hy4), HZB, HZL⟩
            · have HNW := Lib.hid (fun W => New_any W)
              go_wp2_with fail
              refine (HNW.out _).mono ?_
              rintro e w2 ⟨rfl, hacc, hb2⟩
              have hA2 := HA2.out.keep hb2
              have hC2 := HC2.out.keep hb2
              have hbq : Below w2.heap.size w2 (w2.alloc (.cells #[.bool false, .slice none 0 0, .bool false, .bool false, .bool false, .int .i64 0] 48)) := (Below.refl _ _).alloc (Nat.le_refl _) _
              have hA3 := hA2.keep hbq
              have hC3 := hC2.keep hbq
              have hacc3 := hacc.keep hbq
              have hr3 : RAcc (w2.alloc (.cells #[.bool false, .slice none 0 0, .bool false, .bool false, .bool false, .int .i64 0] 48)) w2.heap.size zeroF := racc_new w2
              have HB3 := Lib.hid ((HB2.out.trans (hb2.mono HB2.out.size)).trans (hbq.mono (Nat.le_trans HB2.out.size hb2.size)))
              obtain ⟨va, ca⟩ := hA3.cell4 x hx4
              obtain ⟨vb, cb⟩ := hC3.cell4 x hx4
              have fa := hA3.open_ x
              have fb := hC3.open_ x
              have la := hA3.lt
              have lb := hC3.lt
              have pfr := HA2.out.fresh (Nat.le_refl wq.heap.size)
              have qfr := hC2.fresh (Nat.le_refl w2.heap.size)
              have HA4 := Lib.hid (hA3.put (x := x) (m := 4) (f := zeroF) (fun j hj hne => hj) (by omega) hacc3 pfr)
              have hAs : Sole w.heap.size (w2.alloc (.cells #[.bool false, .slice none 0 0, .bool false, .bool false, .bool false, .int .i64 0] 48)) ((w2.alloc (.cells #[.bool false, .slice none 0 0, .bool false, .bool false, .bool false, .int .i64 0] 48)).setCell ⟨w.heap.size, x, none⟩ (.pointer (some ⟨wq.heap.size, 0, none⟩))) := Sole.set _
              have HC4 := Lib.hid ((hC3.otherRow hAs hA3).put (x := x) (m := 4) (f := zeroF) (fun j hj hne => hj) (by omega) (hr3.otherRow hAs hA3) qfr)
              have HA5 := Lib.hid (HA4.out.otherRowB (Sole.set (b := w.heap.size + 1) (o := x) (.pointer (some ⟨w2.heap.size, 0, none⟩))) (hC3.otherRow hAs hA3))
              have HLO2 : Hid (∀ j, j < 4 → w.heap.size ≤ setN pa x wq.heap.size j ∧ w.heap.size ≤ setN pb x w2.heap.size j) := lo_set HLO.out HB2.out.size (Nat.le_trans HB2.out.size hb2.size)
              clear hA2 hC2 hA3 hC3 hacc3 hacc hr3 hb2 hbq pfr qfr hAs HA2 HC2 HB2 HNW HA4 hd
              go_wp2_with fail
              go_meet
              case rel =>
                exact ⟨_, _, _, HA5, HC4, fit_set HFT.out fit_zero, (HB3.out.setCell (Nat.le_refl w.heap.size) _).setCell (Nat.le_succ w.heap.size) _, HLO2⟩
          case rest =>
            clear HA2 HC2 HB2 D3 HLO HFT
            obtain ⟨pa2, pb2, F2, HA, HC, HFT, HB, HLO⟩ := hcut
            clear pa pb F
            skip
            go_wp2_with fail
            refine (wpIn_wide (n := 0)).1 ?_
            refine region_det (by kernel_rfl) (I := fun listed a' w' => Hid (Below wc.heap.size wc w') ∧ a' = ⟨#[Value.slice (some (Addr.mk g o none)) n cap, undef, u2, Value.pointer (some (⟨w.heap.size, 0, none⟩)), Value.pointer (some (Addr.mk (w.heap.size + 1) 0 none)), Value.int IntKind.i64 4, Value.int IntKind.i64 ↑k, Value.int IntKind.u8 ↑x, Value.int IntKind.u8 ↑y, u9, u10, u11, undef, undef, undef, Value.slice (some (Addr.mk g o none)) n cap, Value.int IntKind.i64 ↑n, Value.bool false, undef, Value.int IntKind.i64 4, Value.bool false, u21, u22, u23, u24, u25, u26, u27, u28, u29, u30, u31, u32, u33, u34, u35, u36, u37, u38, u39, u40, u41, u42, u43, u44, u45, u46, u47, u48, u49, u50, u51, u52, u53, u54, u55, u56, u57, u58, u59, u60, u61, u62, u63, u64, u65, u66, u67, u68, u69, u70, u71, u72, u73, u74, u75, u76, u77, u78, u79, u80, u81, u82, u83, u84, u85, u86, u87, u88, u89, u90, u91, u92, u93, u94, u95, u96, u97, u98, u99, u100, u101, u102, u103, u104, u105, u106, u107, u108, u109, u110, u111, u112, u113, u114, u115, u116, u117, u118, u119, u120, u121, u122, u123, u124, u125, u126, u127, u128, u129, u130, u131, u132, u133, u134, u135, u136, u137, u138, u139, u140, u141, u142, u143, u144, u145, u146, u147, u148, u149, u150, u151, u152, (if listed.getD 0 false = true then Value.int IntKind.u8 (x : Int) else u153), (if listed.getD 1 false = true then Value.pointer (some ⟨w.heap.size, x, none⟩) else u154), (if listed.getD 2 false = true then Value.pointer (some ⟨pa2 x, 0, none⟩) else u155), (if listed.getD 3 false = true then Value.int IntKind.u64 ((valueN (F2 x) : Nat) : Int) else u156), (if listed.getD 4 false = true then Value.int IntKind.u8 (x : Int) else u157), (if listed.getD 5 false = true then Value.pointer (some ⟨(w.heap.size + 1), x, none⟩) else u158), (if listed.getD 6 false = true then Value.pointer (some ⟨pb2 x, 0, none⟩) else u159), (if listed.getD 7 false = true then Value.int IntKind.u64 ((valueN (F2 x) : Nat) : Int) else u160), (if listed.getD 8 false = true then Value.bool false else u161), (if listed.getD 9 false = true then Value.bool false else u162), (if listed.getD 10 false = true then Value.int IntKind.u8 (x : Int) else u163), (if listed.getD 11 false = true then Value.pointer (some ⟨w.heap.size, x, none⟩) else u164), (if listed.getD 12 false = true then Value.pointer (some ⟨pa2 x, 0, none⟩) else u165), (if listed.getD 13 false = true then Value.int IntKind.u8 (y : Int) else u166), (if listed.getD 14 false = true then Value.pointer (some ⟨w.heap.size, y, none⟩) else u167), (if listed.getD 15 false = true then Value.pointer (some ⟨pa2 y, 0, none⟩) else u168), (if listed.getD 16 false = true then Value.bool (decide ((F2 x).V = (F2 y).V ∧ (F2 x).saw = (F2 y).saw ∧ (F2 x).zero = (F2 y).zero)) else u169), (if listed.getD 17 false = true then Value.int IntKind.u8 (x : Int) else u170), (if listed.getD 18 false = true then Value.pointer (some ⟨(w.heap.size + 1), x, none⟩) else u171), (if listed.getD 19 false = true then Value.pointer (some ⟨pb2 x, 0, none⟩) else u172), (if listed.getD 20 false = true then Value.int IntKind.u8 (y : Int) else u173), (if listed.getD 21 false = true then Value.pointer (some ⟨(w.heap.size + 1), y, none⟩) else u174), (if listed.getD 22 false = true then Value.pointer (some ⟨pb2 y, 0, none⟩) else u175), (if listed.getD 23 false = true then Value.bool (decide ((F2 x).V = (F2 y).V ∧ (F2 x).saw = (F2 y).saw ∧ (F2 x).zero = (F2 y).zero)) else u176), (if listed.getD 24 false = true then Value.bool false else u177), (if listed.getD 25 false = true then Value.bool false else u178), undef, undef, undef, undef, undef, undef, undef, undef, undef, undef, undef, undef, undef, undef, undef, undef, undef, undef, undef, undef, undef, undef, undef, undef], []⟩) (hup_check (by kernel_rfl)) ?h0 ?step ?fin
            case h0 => exact ⟨(Below.refl _ _).drew, rfl⟩
            case step =>
              intro listed a' w' i hs hbi hdep hi ⟨IB, ha⟩
              obtain ⟨ls⟩ := listed
              match ls, hs with
              | [x0, x1, x2, x3, x4, x5, x6, x7, x8, x9, x10, x11, x12, x13, x14, x15, x16, x17, x18, x19, x20, x21, x22, x23, x24, x25], _ =>
              subst ha
              have hi' : i = 0 ∨ i = 1 ∨ i = 2 ∨ i = 3 ∨ i = 4 ∨ i = 5 ∨ i = 6 ∨ i = 7 ∨ i = 8 ∨ i = 9 ∨ i = 10 ∨ i = 11 ∨ i = 12 ∨ i = 13 ∨ i = 14 ∨ i = 15 ∨ i = 16 ∨ i = 17 ∨ i = 18 ∨ i = 19 ∨ i = 20 ∨ i = 21 ∨ i = 22 ∨ i = 23 ∨ i = 24 ∨ i = 25 := by simp at hi; omega
              rcases hi' with rfl | rfl | rfl | rfl | rfl | rfl | rfl | rfl | rfl | rfl | rfl | rfl | rfl | rfl | rfl | rfl | rfl | rfl | rfl | rfl | rfl | rfl | rfl | rfl | rfl | rfl
              · obtain rfl : x0 = false := by simpa using hbi
                refine wpOpIn_plain rfl rfl rfl ?_
                exact ⟨IB, rfl⟩
              · obtain rfl : x1 = false := by simpa using hbi
                obtain rfl : x0 = true := hdep _ rfl ⟨0, .data⟩ (by simp) rfl
                refine wpOpIn_plain (v := Value.pointer (some ⟨w.heap.size, x, none⟩)) (w' := w') rfl rfl (by simp [Oper.semAt, execOp, go_sem, hx4, hxi4]) ?_
                exact ⟨IB, rfl⟩
              · obtain rfl : x2 = false := by simpa using hbi
                obtain rfl : x1 = true := hdep _ rfl ⟨1, .data⟩ (by simp) rfl
                have c9 := (HA.out.keep IB.out).cell x hx4
                refine wpOpIn_plain (v := Value.pointer (some ⟨pa2 x, 0, none⟩)) (w' := w') rfl rfl (by simp [Oper.semAt, execOp, go_sem, c9]) ?_
                exact ⟨IB, rfl⟩
              · obtain rfl : x3 = false := by simpa using hbi
                obtain rfl : x2 = true := hdep _ rfl ⟨2, .data⟩ (by simp) rfl
                refine wpOpIn_call (args := #[Value.pointer (some ⟨pa2 x, 0, none⟩)]) rfl rfl (sem_call1 rfl rfl (enters_of Tryz.func30 (by kernel_rfl) rfl)) (Value_any ((HA.out.keep IB.out).el x hx4) (HFT.out x hx4).ok.saw (HFT.out x hx4).ok.V (by rw [← top_eq]; exact (HFT.out x hx4).lim)) ?_
                rintro e V ⟨rfl, hb9⟩
                exact ⟨_, rfl, (IB.out.trans (hb9.mono IB.out.size)), rfl⟩
              · obtain rfl : x4 = false := by simpa using hbi
                refine wpOpIn_plain rfl rfl rfl ?_
                exact ⟨IB, rfl⟩
              · obtain rfl : x5 = false := by simpa using hbi
                obtain rfl : x4 = true := hdep _ rfl ⟨4, .data⟩ (by simp) rfl
                refine wpOpIn_plain (v := Value.pointer (some ⟨(w.heap.size + 1), x, none⟩)) (w' := w') rfl rfl (by simp [Oper.semAt, execOp, go_sem, hx4, hxi4]) ?_
                exact ⟨IB, rfl⟩
              · obtain rfl : x6 = false := by simpa using hbi
                obtain rfl : x5 = true := hdep _ rfl ⟨5, .data⟩ (by simp) rfl
                have c9 := (HC.out.keep IB.out).cell x hx4
                refine wpOpIn_plain (v := Value.pointer (some ⟨pb2 x, 0, none⟩)) (w' := w') rfl rfl (by simp [Oper.semAt, execOp, go_sem, c9]) ?_
                exact ⟨IB, rfl⟩
              · obtain rfl : x7 = false := by simpa using hbi
                obtain rfl : x6 = true := hdep _ rfl ⟨6, .data⟩ (by simp) rfl
                refine wpOpIn_call (args := #[Value.pointer (some ⟨pb2 x, 0, none⟩)]) rfl rfl (sem_call1 rfl rfl (enters_of Tryz.func31 (by kernel_rfl) rfl)) (rvalue22_any ((HC.out.keep IB.out).el x hx4) (HFT.out x hx4).ok (HFT.out x hx4).poss) ?_
                rintro e V ⟨rfl, rfl⟩
                exact ⟨_, rfl, IB, rfl⟩
              · obtain rfl : x8 = false := by simpa using hbi
                obtain rfl : x3 = true := hdep _ rfl ⟨3, .data⟩ (by simp) rfl
                obtain rfl : x7 = true := hdep _ rfl ⟨7, .data⟩ (by simp) rfl
                refine wpOpIn_plain (v := Value.bool false) (w' := w') rfl rfl (sem_bin (vx := Value.int IntKind.u64 ((valueN (F2 x) : Nat) : Int)) (vy := Value.int IntKind.u64 ((valueN (F2 x) : Nat) : Int)) rfl rfl rfl rfl (run_neqx _ w')) ?_
                exact ⟨IB, rfl⟩
              · obtain rfl : x9 = false := by simpa using hbi
                obtain rfl : x8 = true := hdep _ rfl ⟨8, .data⟩ (by simp) rfl
                refine wpOpIn_plain rfl rfl rfl ?_
                exact ⟨IB, rfl⟩
              · obtain rfl : x10 = false := by simpa using hbi
                obtain rfl : x9 = true := hdep _ rfl ⟨9, .guard⟩ (by simp) rfl
                refine wpOpIn_guard (v := Value.int IntKind.u8 (x : Int)) (w' := w') rfl rfl rfl (by simp [Oper.semAt, execOp, go_sem]) ?_
                exact ⟨IB, rfl⟩
              · obtain rfl : x11 = false := by simpa using hbi
                obtain rfl : x10 = true := hdep _ rfl ⟨10, .data⟩ (by simp) rfl
                obtain rfl : x9 = true := hdep _ rfl ⟨9, .guard⟩ (by simp) rfl
                refine wpOpIn_guard (v := Value.pointer (some ⟨w.heap.size, x, none⟩)) (w' := w') rfl rfl rfl (by simp [Oper.semAt, execOp, go_sem, hx4, hxi4]) ?_
                exact ⟨IB, rfl⟩
              · obtain rfl : x12 = false := by simpa using hbi
                obtain rfl : x11 = true := hdep _ rfl ⟨11, .data⟩ (by simp) rfl
                obtain rfl : x9 = true := hdep _ rfl ⟨9, .guard⟩ (by simp) rfl
                have c9 := (HA.out.keep IB.out).cell x hx4
                refine wpOpIn_guard (v := Value.pointer (some ⟨pa2 x, 0, none⟩)) (w' := w') rfl rfl rfl (by simp [Oper.semAt, execOp, go_sem, c9]) ?_
                exact ⟨IB, rfl⟩
              · obtain rfl : x13 = false := by simpa using hbi
                obtain rfl : x9 = true := hdep _ rfl ⟨9, .guard⟩ (by simp) rfl
                refine wpOpIn_guard (v := Value.int IntKind.u8 (y : Int)) (w' := w') rfl rfl rfl (by simp [Oper.semAt, execOp, go_sem]) ?_
                exact ⟨IB, rfl⟩
              · obtain rfl : x14 = false := by simpa using hbi
                obtain rfl : x13 = true := hdep _ rfl ⟨13, .data⟩ (by simp) rfl
                obtain rfl : x9 = true := hdep _ rfl ⟨9, .guard⟩ (by simp) rfl
                refine wpOpIn_guard (v := Value.pointer (some ⟨w.heap.size, y, none⟩)) (w' := w') rfl rfl rfl (by simp [Oper.semAt, execOp, go_sem, hy4, hyi4]) ?_
                exact ⟨IB, rfl⟩
              · obtain rfl : x15 = false := by simpa using hbi
                obtain rfl : x14 = true := hdep _ rfl ⟨14, .data⟩ (by simp) rfl
                obtain rfl : x9 = true := hdep _ rfl ⟨9, .guard⟩ (by simp) rfl
                have c9 := (HA.out.keep IB.out).cell y hy4
                refine wpOpIn_guard (v := Value.pointer (some ⟨pa2 y, 0, none⟩)) (w' := w') rfl rfl rfl (by simp [Oper.semAt, execOp, go_sem, c9]) ?_
                exact ⟨IB, rfl⟩
              · obtain rfl : x16 = false := by simpa using hbi
                obtain rfl : x12 = true := hdep _ rfl ⟨12, .data⟩ (by simp) rfl
                obtain rfl : x15 = true := hdep _ rfl ⟨15, .data⟩ (by simp) rfl
                obtain rfl : x9 = true := hdep _ rfl ⟨9, .guard⟩ (by simp) rfl
                refine wpOpIn_callg (args := #[Value.pointer (some ⟨pa2 x, 0, none⟩), Value.pointer (some ⟨pa2 y, 0, none⟩)]) rfl rfl rfl (sem_call2 rfl rfl rfl (enters_of Tryz.func32 (by kernel_rfl) rfl)) (Same_any ((HA.out.keep IB.out).el x hx4) ((HA.out.keep IB.out).el y hy4) (HFT.out x hx4).ok.V (HFT.out y hy4).ok.V) ?_
                rintro e V ⟨rfl, hb9⟩
                exact ⟨_, rfl, (IB.out.trans (hb9.mono IB.out.size)), rfl⟩
              · obtain rfl : x17 = false := by simpa using hbi
                obtain rfl : x9 = true := hdep _ rfl ⟨9, .guard⟩ (by simp) rfl
                refine wpOpIn_guard (v := Value.int IntKind.u8 (x : Int)) (w' := w') rfl rfl rfl (by simp [Oper.semAt, execOp, go_sem]) ?_
                exact ⟨IB, rfl⟩
              · obtain rfl : x18 = false := by simpa using hbi
                obtain rfl : x17 = true := hdep _ rfl ⟨17, .data⟩ (by simp) rfl
                obtain rfl : x9 = true := hdep _ rfl ⟨9, .guard⟩ (by simp) rfl
                refine wpOpIn_guard (v := Value.pointer (some ⟨(w.heap.size + 1), x, none⟩)) (w' := w') rfl rfl rfl (by simp [Oper.semAt, execOp, go_sem, hx4, hxi4]) ?_
                exact ⟨IB, rfl⟩
              · obtain rfl : x19 = false := by simpa using hbi
                obtain rfl : x18 = true := hdep _ rfl ⟨18, .data⟩ (by simp) rfl
                obtain rfl : x9 = true := hdep _ rfl ⟨9, .guard⟩ (by simp) rfl
                have c9 := (HC.out.keep IB.out).cell x hx4
                refine wpOpIn_guard (v := Value.pointer (some ⟨pb2 x, 0, none⟩)) (w' := w') rfl rfl rfl (by simp [Oper.semAt, execOp, go_sem, c9]) ?_
                exact ⟨IB, rfl⟩
              · obtain rfl : x20 = false := by simpa using hbi
                obtain rfl : x9 = true := hdep _ rfl ⟨9, .guard⟩ (by simp) rfl
                refine wpOpIn_guard (v := Value.int IntKind.u8 (y : Int)) (w' := w') rfl rfl rfl (by simp [Oper.semAt, execOp, go_sem]) ?_
                exact ⟨IB, rfl⟩
              · obtain rfl : x21 = false := by simpa using hbi
                obtain rfl : x20 = true := hdep _ rfl ⟨20, .data⟩ (by simp) rfl
                obtain rfl : x9 = true := hdep _ rfl ⟨9, .guard⟩ (by simp) rfl
                refine wpOpIn_guard (v := Value.pointer (some ⟨(w.heap.size + 1), y, none⟩)) (w' := w') rfl rfl rfl (by simp [Oper.semAt, execOp, go_sem, hy4, hyi4]) ?_
                exact ⟨IB, rfl⟩
              · obtain rfl : x22 = false := by simpa using hbi
                obtain rfl : x21 = true := hdep _ rfl ⟨21, .data⟩ (by simp) rfl
                obtain rfl : x9 = true := hdep _ rfl ⟨9, .guard⟩ (by simp) rfl
                have c9 := (HC.out.keep IB.out).cell y hy4
                refine wpOpIn_guard (v := Value.pointer (some ⟨pb2 y, 0, none⟩)) (w' := w') rfl rfl rfl (by simp [Oper.semAt, execOp, go_sem, c9]) ?_
                exact ⟨IB, rfl⟩
              · obtain rfl : x23 = false := by simpa using hbi
                obtain rfl : x19 = true := hdep _ rfl ⟨19, .data⟩ (by simp) rfl
                obtain rfl : x22 = true := hdep _ rfl ⟨22, .data⟩ (by simp) rfl
                obtain rfl : x9 = true := hdep _ rfl ⟨9, .guard⟩ (by simp) rfl
                refine wpOpIn_callg (args := #[Value.pointer (some ⟨pb2 x, 0, none⟩), Value.pointer (some ⟨pb2 y, 0, none⟩)]) rfl rfl rfl (sem_call2 rfl rfl rfl (enters_of Tryz.func33 (by kernel_rfl) rfl)) (rSame_any ((HC.out.keep IB.out).el x hx4) ((HC.out.keep IB.out).el y hy4) (HFT.out x hx4).ok (HFT.out y hy4).ok) ?_
                rintro e V ⟨rfl, hb9⟩
                exact ⟨_, rfl, (IB.out.trans (hb9.mono IB.out.size)), rfl⟩
              · obtain rfl : x24 = false := by simpa using hbi
                obtain rfl : x16 = true := hdep _ rfl ⟨16, .data⟩ (by simp) rfl
                obtain rfl : x23 = true := hdep _ rfl ⟨23, .data⟩ (by simp) rfl
                obtain rfl : x9 = true := hdep _ rfl ⟨9, .guard⟩ (by simp) rfl
                refine wpOpIn_guard (v := Value.bool false) (w' := w') rfl rfl rfl (sem_bin (vx := Value.bool (decide ((F2 x).V = (F2 y).V ∧ (F2 x).saw = (F2 y).saw ∧ (F2 x).zero = (F2 y).zero))) (vy := Value.bool (decide ((F2 x).V = (F2 y).V ∧ (F2 x).saw = (F2 y).saw ∧ (F2 x).zero = (F2 y).zero))) rfl rfl rfl rfl (run_neqb _ w')) ?_
                exact ⟨IB, rfl⟩
              · obtain rfl : x25 = false := by simpa using hbi
                obtain rfl : x9 = true := hdep _ rfl ⟨9, .data⟩ (by simp) rfl
                obtain rfl : x24 = true := hdep _ rfl ⟨24, .data⟩ (by simp) rfl
                refine wpOpIn_plain (v := Value.bool false) (w' := w') rfl rfl (by simp [Oper.semAt, execOp, go_sem]) ?_
                exact ⟨IB, rfl⟩
            case fin =>
            intro listed a' Z hs hall ⟨IB, ha⟩
            obtain ⟨ls⟩ := listed
            match ls, hs with
            | [x0, x1, x2, x3, x4, x5, x6, x7, x8, x9, x10, x11, x12, x13, x14, x15, x16, x17, x18, x19, x20, x21, x22, x23, x24, x25], _ =>
            obtain rfl : x0 = true := hall 0 (by simp)
            obtain rfl : x1 = true := hall 1 (by simp)
            obtain rfl : x2 = true := hall 2 (by simp)
            obtain rfl : x3 = true := hall 3 (by simp)
            obtain rfl : x4 = true := hall 4 (by simp)
            obtain rfl : x5 = true := hall 5 (by simp)
            obtain rfl : x6 = true := hall 6 (by simp)
            obtain rfl : x7 = true := hall 7 (by simp)
            obtain rfl : x8 = true := hall 8 (by simp)
            obtain rfl : x9 = true := hall 9 (by simp)
            obtain rfl : x10 = true := hall 10 (by simp)
            obtain rfl : x11 = true := hall 11 (by simp)
            obtain rfl : x12 = true := hall 12 (by simp)
            obtain rfl : x13 = true := hall 13 (by simp)
            obtain rfl : x14 = true := hall 14 (by simp)
            obtain rfl : x15 = true := hall 15 (by simp)
            obtain rfl : x16 = true := hall 16 (by simp)
            obtain rfl : x17 = true := hall 17 (by simp)
            obtain rfl : x18 = true := hall 18 (by simp)
            obtain rfl : x19 = true := hall 19 (by simp)
            obtain rfl : x20 = true := hall 20 (by simp)
            obtain rfl : x21 = true := hall 21 (by simp)
            obtain rfl : x22 = true := hall 22 (by simp)
            obtain rfl : x23 = true := hall 23 (by simp)
            obtain rfl : x24 = true := hall 24 (by simp)
            obtain rfl : x25 = true := hall 25 (by simp)
            subst ha
            have HZA := Lib.hid (HA.out.keep IB.out)
            have HZC := Lib.hid (HC.out.keep IB.out)
            have HZB := Lib.hid (HB.out.trans (IB.out.mono HB.out.size))
            clear IB hall hs HA HC HB
            dsimp only [Exit.then, Exit.inBlock]
            go_wp2_with fail
            go_roundw
            case rel =>
              first
                | exact ⟨k + 1, pa2, pb2, F2, by omega, by go_num, HZA, HZC, HFT, HZB, HLO⟩
                | (repeat apply Exists.intro; exact ⟨⟨k + 1, pa2, pb2, F2, by omega, by go_num, HZA, HZC, HFT, HZB, HLO⟩, rfl⟩)
            case measure => simp [intOf]; omega
        · have hkn2 : k = n := by omega
          subst hkn2
          go_wp2_with fail
          obtain ⟨wo, hwo⟩ : ∃ wo : World, wo = wr := ⟨_, rfl⟩
          rw [← hwo] at HA HC HB ⊢
          clear hwo wr
          go_loopw [12] (fun i wr => ∃ j : Nat, j ≤ 4 ∧ i = .int .i64 j ∧ Hid (SA wr w.heap.size pa F 4) ∧ Hid (SB wr (w.heap.size + 1) pb F 4) ∧ Hid (Below w.heap.size w wr)) (fun i _ => 4 - (intOf i).toNat)
          case atStart => exact ⟨0, Nat.zero_le _, rfl, HA, HC, HB⟩
          case round =>
            clear HA HC HB
            obtain ⟨j, hj, rfl, HA, HC, HB⟩ := hrel
            by_cases hj4 : j < 4
            · have hji4 : (j : Int) < 4 := by omega
              have cy := HA.out.cell j hj4
              have hfy := HFT.out j hj4
              have HE := Lib.hid (Encode_any (HA.out.el j hj4) hfy.ok.saw (by have := hfy.ok.zero; omega) hfy.ok.V)
              have HSM := Lib.hid (encN_small hfy.ok.saw (show (F j).zero < 32 by have := hfy.ok.zero; omega))
              have HEL := Lib.hid (enc_len hfy.ok hfy.lim)
              have HNE : Hid (encN (F j) ≠ []) := by show _ ≠ _; unfold encN; simp
              have HDK : Hid (decN (encN (F j)) = F j) := dec_enc hfy.ok
              have HDO : Hid (decOk (encN (F j))) := dec_ok hfy.ok hfy.poss
              have HRE : Hid (∀ W, RAcc W (pb j) (F j) → Calls Tryz.prog 28 #[.pointer (some ⟨pb j, 0, none⟩)] W fun e w' => ∃ v, e = .returned v ∧ NewBs W.heap.size w' v (encN (F j)) ∧ Below W.heap.size W w') := fun W h => rEncode_any h hfy.ok
              clear hfy
              generalize encN (F j) = L at *
              go_wp2_with fail
              refine HE.out.mono ?_
              rintro e w3 ⟨v, rfl, hv, hb3⟩
              obtain ⟨va, vc, rfl, hbs⟩ := hv.bs HNE.out HSM.out
              have HBS := Lib.hid hbs
              have HCP := Lib.hid hv.capOk
              have HA3 := Lib.hid (HA.out.keep hb3)
              have HC3 := Lib.hid (HC.out.keep hb3)
              have HB3 := Lib.hid (HB.out.trans (hb3.mono HB.out.size))
              clear hv hb3 hbs HE cy
              clear HA HC HB
              go_wp2_with fail
              refine (wpIn_wide (n := 0)).1 ?_
              refine region_det (by kernel_rfl) (I := fun listed a' w' => ∃ (vs : Option Addr) (vd : Nat), Hid (Below w3.heap.size w3 w') ∧ Hid (listed.getD 8 false = true → Bs w' vs L) ∧ a' = ⟨#[Value.slice a k cap, undef, u2, Value.pointer (some (⟨w.heap.size, 0, none⟩)), Value.pointer (some (Addr.mk (w.heap.size + 1) 0 none)), Value.int IntKind.i64 4, Value.int IntKind.i64 ↑k, u7, u8, u9, u10, u11, Value.int IntKind.i64 ↑j, Value.slice va L.length vc, Value.int IntKind.i64 0, Value.slice a k cap, Value.int IntKind.i64 ↑k, Value.bool false, undef, Value.int IntKind.i64 4, Value.bool false, u21, u22, u23, u24, u25, u26, u27, u28, u29, Value.int IntKind.i64 ↑k, Value.slice a k cap, Value.int IntKind.i64 ↑k, Value.bool false, u34, u35, u36, u37, u38, u39, u40, u41, u42, u43, u44, u45, u46, u47, u48, u49, u50, u51, u52, u53, u54, u55, u56, u57, u58, u59, u60, u61, u62, u63, u64, u65, u66, u67, u68, u69, u70, u71, u72, u73, u74, u75, u76, u77, u78, u79, u80, u81, u82, u83, u84, u85, u86, u87, u88, u89, u90, u91, u92, u93, u94, u95, u96, u97, u98, u99, u100, u101, u102, u103, u104, u105, u106, u107, u108, u109, u110, u111, u112, u113, u114, u115, u116, u117, u118, u119, u120, u121, u122, u123, u124, u125, u126, u127, u128, u129, u130, u131, u132, u133, u134, u135, u136, u137, u138, u139, u140, u141, u142, u143, u144, u145, u146, u147, u148, u149, u150, u151, u152, u153, u154, u155, u156, u157, u158, u159, u160, u161, u162, u163, u164, u165, u166, u167, u168, u169, u170, u171, u172, u173, u174, u175, u176, u177, u178, Value.int IntKind.i64 ↑j, Value.bool true, u181, u182, Value.tuple #[Value.slice va L.length vc, Value.int IntKind.i64 0], Value.int IntKind.i64 ↑j, Value.pointer (some (Addr.mk w.heap.size j none)), Value.pointer (some (Addr.mk (pa j) 0 none)), Value.tuple #[Value.slice va L.length vc, Value.int IntKind.i64 0], Value.slice va L.length vc, Value.int IntKind.i64 0, (if listed.getD 0 false = true then Value.int IntKind.i64 0 else u190), (if listed.getD 1 false = true then Value.bool false else u191), (if listed.getD 2 false = true then Value.bool false else u192), (if listed.getD 3 false = true then Value.slice va L.length vc else u193), (if listed.getD 4 false = true then Value.string (strN L) else u194), (if listed.getD 5 false = true then Value.int IntKind.i64 (j : Int) else u195), (if listed.getD 6 false = true then Value.pointer (some ⟨(w.heap.size + 1), j, none⟩) else u196), (if listed.getD 7 false = true then Value.pointer (some ⟨pb j, 0, none⟩) else u197), (if listed.getD 8 false = true then Value.slice vs L.length vd else u198), (if listed.getD 9 false = true then Value.string (strN L) else u199), (if listed.getD 10 false = true then Value.bool false else u200), (if listed.getD 11 false = true then Value.bool false else u201), undef], []⟩) (hup_check (by kernel_rfl)) ?h0 ?step ?fin
              case h0 => exact ⟨none, 0, (Below.refl _ _).drew, (fun h => by simp at h), rfl⟩
              case step =>
                intro listed a' w' i hs hbi hdep hi ⟨vs, vd, IB, IS, ha⟩
                obtain ⟨ls⟩ := listed
                match ls, hs with
                | [x0, x1, x2, x3, x4, x5, x6, x7, x8, x9, x10, x11], _ =>
                subst ha
                have hi' : i = 0 ∨ i = 1 ∨ i = 2 ∨ i = 3 ∨ i = 4 ∨ i = 5 ∨ i = 6 ∨ i = 7 ∨ i = 8 ∨ i = 9 ∨ i = 10 ∨ i = 11 := by simp at hi; omega
                rcases hi' with rfl | rfl | rfl | rfl | rfl | rfl | rfl | rfl | rfl | rfl | rfl | rfl
                · obtain rfl : x0 = false := by simpa using hbi
                  refine wpOpIn_plain rfl rfl rfl ?_
                  exact ⟨vs, vd, IB, IS, rfl⟩
                · obtain rfl : x1 = false := by simpa using hbi
                  obtain rfl : x0 = true := hdep _ rfl ⟨0, .data⟩ (by simp) rfl
                  refine wpOpIn_plain (v := Value.bool false) (w' := w') rfl rfl (by simp [Oper.semAt, execOp, go_sem]) ?_
                  exact ⟨vs, vd, IB, IS, rfl⟩
                · obtain rfl : x2 = false := by simpa using hbi
                  obtain rfl : x1 = true := hdep _ rfl ⟨1, .data⟩ (by simp) rfl
                  refine wpOpIn_plain rfl rfl rfl ?_
                  exact ⟨vs, vd, IB, IS, rfl⟩
                · obtain rfl : x3 = false := by simpa using hbi
                  obtain rfl : x2 = true := hdep _ rfl ⟨2, .guard⟩ (by simp) rfl
                  refine wpOpIn_guard (v := Value.slice va L.length vc) (w' := w') rfl rfl rfl (by simp [Oper.semAt, execOp, go_sem]) ?_
                  exact ⟨vs, vd, IB, IS, rfl⟩
                · obtain rfl : x4 = false := by simpa using hbi
                  obtain rfl : x3 = true := hdep _ rfl ⟨3, .data⟩ (by simp) rfl
                  obtain rfl : x2 = true := hdep _ rfl ⟨2, .guard⟩ (by simp) rfl
                  have hc9 := conv_str (HBS.out.keep IB.out) HNE.out vc
                  refine wpOpIn_guard (v := Value.string (strN L)) (w' := w') rfl rfl rfl (sem_conv rfl rfl hc9) ?_
                  exact ⟨vs, vd, IB, IS, rfl⟩
                · obtain rfl : x5 = false := by simpa using hbi
                  obtain rfl : x2 = true := hdep _ rfl ⟨2, .guard⟩ (by simp) rfl
                  refine wpOpIn_guard (v := Value.int IntKind.i64 (j : Int)) (w' := w') rfl rfl rfl (by simp [Oper.semAt, execOp, go_sem]) ?_
                  exact ⟨vs, vd, IB, IS, rfl⟩
                · obtain rfl : x6 = false := by simpa using hbi
                  obtain rfl : x5 = true := hdep _ rfl ⟨5, .data⟩ (by simp) rfl
                  obtain rfl : x2 = true := hdep _ rfl ⟨2, .guard⟩ (by simp) rfl
                  refine wpOpIn_guard (v := Value.pointer (some ⟨(w.heap.size + 1), j, none⟩)) (w' := w') rfl rfl rfl (by simp [Oper.semAt, execOp, go_sem, hj4, hji4]) ?_
                  exact ⟨vs, vd, IB, IS, rfl⟩
                · obtain rfl : x7 = false := by simpa using hbi
                  obtain rfl : x6 = true := hdep _ rfl ⟨6, .data⟩ (by simp) rfl
                  obtain rfl : x2 = true := hdep _ rfl ⟨2, .guard⟩ (by simp) rfl
                  have c9 := (HC3.out.keep IB.out).cell j hj4
                  refine wpOpIn_guard (v := Value.pointer (some ⟨pb j, 0, none⟩)) (w' := w') rfl rfl rfl (by simp [Oper.semAt, execOp, go_sem, c9]) ?_
                  exact ⟨vs, vd, IB, IS, rfl⟩
                · obtain rfl : x8 = false := by simpa using hbi
                  obtain rfl : x7 = true := hdep _ rfl ⟨7, .data⟩ (by simp) rfl
                  obtain rfl : x2 = true := hdep _ rfl ⟨2, .guard⟩ (by simp) rfl
                  refine wpOpIn_callg (args := #[Value.pointer (some ⟨pb j, 0, none⟩)]) rfl rfl rfl (sem_call1 rfl rfl (enters_of Tryz.func28 (by kernel_rfl) rfl)) (HRE.out w' ((HC3.out.keep IB.out).el j hj4)) ?_
                  rintro e V ⟨v9, rfl, hv9, hb9⟩
                  obtain ⟨vs9, vd9, rfl, hbs9⟩ := hv9.bs HNE.out HSM.out
                  exact ⟨_, rfl, vs9, vd9, (IB.out.trans (hb9.mono IB.out.size)), (fun _ => hbs9), rfl⟩
                · obtain rfl : x9 = false := by simpa using hbi
                  obtain rfl : x8 = true := hdep _ rfl ⟨8, .data⟩ (by simp) rfl
                  obtain rfl : x2 = true := hdep _ rfl ⟨2, .guard⟩ (by simp) rfl
                  have hc9 := conv_str (IS.out rfl) HNE.out vd
                  refine wpOpIn_guard (v := Value.string (strN L)) (w' := w') rfl rfl rfl (sem_conv rfl rfl hc9) ?_
                  exact ⟨vs, vd, IB, IS, rfl⟩
                · obtain rfl : x10 = false := by simpa using hbi
                  obtain rfl : x4 = true := hdep _ rfl ⟨4, .data⟩ (by simp) rfl
                  obtain rfl : x9 = true := hdep _ rfl ⟨9, .data⟩ (by simp) rfl
                  obtain rfl : x2 = true := hdep _ rfl ⟨2, .guard⟩ (by simp) rfl
                  refine wpOpIn_guard (v := Value.bool false) (w' := w') rfl rfl rfl (sem_bin (vx := Value.string (strN L)) (vy := Value.string (strN L)) rfl rfl rfl rfl (run_neqs _ w')) ?_
                  exact ⟨vs, vd, IB, IS, rfl⟩
                · obtain rfl : x11 = false := by simpa using hbi
                  obtain rfl : x2 = true := hdep _ rfl ⟨2, .data⟩ (by simp) rfl
                  obtain rfl : x10 = true := hdep _ rfl ⟨10, .data⟩ (by simp) rfl
                  refine wpOpIn_plain (v := Value.bool false) (w' := w') rfl rfl (by simp [Oper.semAt, execOp, go_sem]) ?_
                  exact ⟨vs, vd, IB, IS, rfl⟩
              case fin =>
              intro listed a' Z hs hall ⟨vs, vd, IB, IS, ha⟩
              obtain ⟨ls⟩ := listed
              match ls, hs with
              | [x0, x1, x2, x3, x4, x5, x6, x7, x8, x9, x10, x11], _ =>
              obtain rfl : x0 = true := hall 0 (by simp)
              obtain rfl : x1 = true := hall 1 (by simp)
              obtain rfl : x2 = true := hall 2 (by simp)
              obtain rfl : x3 = true := hall 3 (by simp)
              obtain rfl : x4 = true := hall 4 (by simp)
              obtain rfl : x5 = true := hall 5 (by simp)
              obtain rfl : x6 = true := hall 6 (by simp)
              obtain rfl : x7 = true := hall 7 (by simp)
              obtain rfl : x8 = true := hall 8 (by simp)
              obtain rfl : x9 = true := hall 9 (by simp)
              obtain rfl : x10 = true := hall 10 (by simp)
              obtain rfl : x11 = true := hall 11 (by simp)
              subst ha
              have HZ : Hid (Below w3.heap.size w3 Z) := IB
              clear IB IS hall hs HRE
              dsimp only [Exit.then, Exit.inBlock]
              have HA4 := Lib.hid (HA3.out.keep HZ.out)
              have HC4 := Lib.hid (HC3.out.keep HZ.out)
              have HB4 := Lib.hid (HB3.out.trans (HZ.out.mono HB3.out.size))
              clear HA3 HC3 HB3 HZ HBS HCP HSM HNE HEL
              go_wp2_with fail
              go_round
              case rel => exact ⟨j + 1, by omega, by go_num, HA4, HC4, HB4⟩
              case measure => simp [intOf]; omega
            · have hj44 : j = 4 := by omega
              subst hj44
              go_wp2_with fail
              refine (HW.out _).mono ?_
              rintro e w9 ⟨rfl, hb9⟩
              have HB9 := HB.out.trans (hb9.mono HB.out.size)
              go_wp2_with fail
              go_ret
              exact ⟨rfl, HB9⟩
end Go.Proofs.YtjcdnaandbockaaGreat
