import Derived.Test.YtoloiingodigpaaG
namespace Go.Proofs.Ytoloiingodigpaa
open Go.RowKit Go.Shelf
attribute [local go_sem] Oper.semAt_some litE

theorem NewInts.nil (B : Nat) (w : World) : NewInts B w (.slice none 0 0) [] := ⟨World.ownsRow_nil _ _ _ _, by simp⟩
theorem NewInts.mono {B B' : Nat} {w : World} {v : Value} {l : List Int} (h : NewInts B w v l) (hb : B' ≤ B) : NewInts B' w v l := by
  refine ⟨⟨h.own.1, ?_⟩, h.len⟩
  rcases h.own.2 with h2 | ⟨g, cap, cur, h1, h2, h3⟩
  · exact .inl h2
  · exact .inr ⟨g, cap, cur, h1, by omega, h3⟩

theorem NewInts.cap_of {B : Nat} {w : World} {a : Option Addr} {cap n : Nat} {l : List Int} (h : NewInts B w (.slice a n cap) l) : a = none → cap = 0 := by
  intro e
  subst e
  rcases h.own.2 with ⟨h2, _⟩ | ⟨g, c, cur, h1, _⟩
  · cases h2; rfl
  · cases h1

/-- what an operation on two groups returns -/
def pairL (a b r : List Int) : List Int := if pairErr a b = 0 then r else []
def unionL (a b : List Int) : List Int := pairL a b (a ++ pickF (fun i => !inS a (b.getD i 0).toNat) 0 b)
def interL (a b : List Int) : List Int := pairL a b (pickF (fun i => inS b (a.getD i 0).toNat) 0 a)
def diffL (a b : List Int) : List Int := pairL a b (pickF (fun i => !inS b (a.getD i 0).toNat) 0 a)

theorem pairErr_zero {a b : List Int} (h : pairErr a b = 0) : chkErr a = 0 ∧ chkErr b = 0 := by
  unfold pairErr at h
  split at h
  · exact ⟨by assumption, h⟩
  · contradiction
theorem pairF_ok {a b l : List Int} (h : pairErr a b = 0) : pairF a b l = inS l := by funext j; simp [pairF, h]

theorem two_sets (X : World) (s t : Nat → Bool) : SetAt ((((X.alloc (.cells setE 83)).alloc (.cells setE 83)).setRow X.heap.size (setA s)).setRow (X.heap.size + 1) (setA t)) X.heap.size s ∧ SetAt ((((X.alloc (.cells setE 83)).alloc (.cells setE 83)).setRow X.heap.size (setA s)).setRow (X.heap.size + 1) (setA t)) (X.heap.size + 1) t
    ∧ Below X.heap.size X ((((X.alloc (.cells setE 83)).alloc (.cells setE 83)).setRow X.heap.size (setA s)).setRow (X.heap.size + 1) (setA t))
    ∧ ((((X.alloc (.cells setE 83)).alloc (.cells setE 83)).setRow X.heap.size (setA s)).setRow (X.heap.size + 1) (setA t)).heap.size = X.heap.size + 2 := by
  have n0 : SetAt ((X.alloc (.cells setE 83)).alloc (.cells setE 83)) X.heap.size (fun _ => false) := (SetAt.new X).alloc _
  have n1 : SetAt ((X.alloc (.cells setE 83)).alloc (.cells setE 83)) (X.heap.size + 1) (fun _ => false) := by have := SetAt.new (X.alloc (.cells setE 83)); simpa using this
  refine ⟨(n0.setRow s).setRow_other _ (by omega), (n1.setRow_other _ (by omega)).setRow t, ?_, by simp⟩
  exact ((((Below.refl _ _).alloc (Nat.le_refl _) _).alloc (by simp) _).trans (below_setRow (Nat.le_refl _) _)).trans (below_setRow (by omega) _)

set_option maxHeartbeats 1000000 in
set_option maxRecDepth 100000 in
theorem inter_any {w : World} {a b : Option Addr} {l m : List Int} (h : Ints w a l) (hm : Ints w b m) (cap cap' : Nat) :
    Calls Try.prog 20 #[.slice a l.length cap, .slice b m.length cap'] w fun e w' => ∃ v, e = .returned (.tuple #[v, .int .i64 (pairErr l m)]) ∧ NewInts w.heap.size w' v (interL l m) ∧ Below w.heap.size w w' := by
  have hlen := h.len
  have hlen2 := hm.len
  have h0 := (Below.refl w.heap.size w).alloc (Nat.le_refl _) (.cells #[.slice a l.length cap] 22)
  have hs0 : (w.alloc (.cells #[.slice a l.length cap] 22)).heap.size = w.heap.size + 1 := by simp
  have hc : (w.alloc (.cells #[.slice a l.length cap] 22)).cell? ⟨w.heap.size, 0, none⟩ = some (.slice a l.length cap) := by simp
  have A0 := h.keep h0
  have A1 := hm.keep h0
  by_cases he : pairErr l m = 0
  · have HL : Hid (interL l m = pickF (fun i => inS m (l.getD i 0).toNat) 0 l) := by show _ = _; unfold interL pairL; rw [if_pos he]
    have hpr := chkErr_procs (pairErr_zero he).1
    have hl64 := chkErr_len (pairErr_zero he).1
    have hm64 := chkErr_len (pairErr_zero he).2
    go_enter Try.func20, Try.ntmps20
    go_wp2_with fail
    refine (groupSets_any A0 A1 cap cap').mono ?_
    generalize w.alloc (.cells #[.slice a l.length cap] 22) = w0 at *
    rintro e X ⟨rfl, hb⟩
    have hc' := pred_cells hb hc
    have A0' := A0.keep hb
    have A1' := A1.keep hb
    have hzX := hb.size
    have hb0 := h0.trans (hb.mono (by omega))
    rw [he, pairF_ok he, pairF_ok he]
    obtain ⟨S0, S1, hb1, hs1⟩ := two_sets X (inS l) (inS m)
    have HE := Lib.hid he
    clear hb A0 A1 hc he
    have N0 : SetAt ((X.alloc (.cells setE 83)).alloc (.cells setE 83)) X.heap.size (fun _ => false) := (SetAt.new X).alloc _
    have N1 : SetAt ((((X.alloc (.cells setE 83)).alloc (.cells setE 83)).setRow X.heap.size (setA (inS l)))) (X.heap.size + 1) (fun _ => false) := by
      have := SetAt.new (X.alloc (.cells setE 83)); rw [show (X.alloc (.cells setE 83)).heap.size = X.heap.size + 1 by simp] at this; exact this.setRow_other _ (by omega)
    have S0 := Lib.hid S0
    have S1 := Lib.hid S1
    have N0 := Lib.hid N0
    have N1 := Lib.hid N1
    have HC := pred_cells hb1 hc'
    go_wp2_with (first
      | (refine wpList_store_row rfl 83 _ _ rfl X.heap.size (setA (inS l)) rfl rfl 83 _ N0.out (by rw [setA_size]; exact Try.info83) (by simp) (setA_one _) ?_)
      | (refine wpList_store_row rfl 83 _ _ rfl (X.heap.size + 1) (setA (inS m)) rfl rfl 83 _ N1.out (by rw [setA_size]; exact Try.info83) (by simp) (setA_one _) ?_))
    generalize (((X.alloc (.cells setE 83)).alloc (.cells setE 83)).setRow X.heap.size (setA (inS l))).setRow (X.heap.size + 1) (setA (inS m)) = Y at *
    have A0'' := A0'.keep hb1
    have A1'' := A1'.keep hb1
    refine (choose_any A0'' cap (fun i => inS m (l.getD i 0).toNat) 67 #[.pointer (some ⟨X.heap.size + 1, 0, none⟩), .pointer (some ⟨w.heap.size, 0, none⟩)] (enters_of Try.func67 (by kernel_rfl) rfl)
      (fun i hi W hW => inter1 A0'' hpr cap _ _ _ S1.out HC i hi W hW)).mono ?_
    rintro e Z ⟨v, rfl, hv, hbz⟩
    go_wp2
    go_ret2
    refine ⟨v, by rw [HE.out]; rfl, ?_, ?_⟩
    · rw [HL.out]; exact hv.mono (by omega)
    · exact (hb0.trans (hb1.mono (by omega))).trans (hbz.mono (by omega))
  · have HL : Hid (interL l m = []) := by show _ = _; unfold interL pairL; rw [if_neg he]
    go_enter Try.func20, Try.ntmps20
    go_wp2_with fail
    refine (groupSets_any A0 A1 cap cap').mono ?_
    generalize w.alloc (.cells #[.slice a l.length cap] 22) = w0 at *
    rintro e X ⟨rfl, hb⟩
    have hzX := hb.size
    have hb0 := h0.trans (hb.mono (by omega))
    obtain ⟨S0, S1, hb1, hs1⟩ := two_sets X (pairF l m l) (pairF l m m)
    clear hb A0 A1 hc
    have N0 : SetAt ((X.alloc (.cells setE 83)).alloc (.cells setE 83)) X.heap.size (fun _ => false) := (SetAt.new X).alloc _
    have N1 : SetAt ((((X.alloc (.cells setE 83)).alloc (.cells setE 83)).setRow X.heap.size (setA (pairF l m l)))) (X.heap.size + 1) (fun _ => false) := by
      have := SetAt.new (X.alloc (.cells setE 83)); rw [show (X.alloc (.cells setE 83)).heap.size = X.heap.size + 1 by simp] at this; exact this.setRow_other _ (by omega)
    clear S0 S1
    have N0 := Lib.hid N0
    have N1 := Lib.hid N1
    go_wp2_with (first
      | (refine wpList_store_row rfl 83 _ _ rfl X.heap.size (setA (pairF l m l)) rfl rfl 83 _ N0.out (by rw [setA_size]; exact Try.info83) (by simp) (setA_one _) ?_)
      | (refine wpList_store_row rfl 83 _ _ rfl (X.heap.size + 1) (setA (pairF l m m)) rfl rfl 83 _ N1.out (by rw [setA_size]; exact Try.info83) (by simp) (setA_one _) ?_))
    go_ret2
    refine ⟨_, rfl, ?_, hb0.trans (hb1.mono (by omega))⟩
    rw [HL.out]; exact NewInts.nil _ _

set_option maxHeartbeats 1000000 in
set_option maxRecDepth 100000 in
theorem diff_any {w : World} {a b : Option Addr} {l m : List Int} (h : Ints w a l) (hm : Ints w b m) (cap cap' : Nat) :
    Calls Try.prog 22 #[.slice a l.length cap, .slice b m.length cap'] w fun e w' => ∃ v, e = .returned (.tuple #[v, .int .i64 (pairErr l m)]) ∧ NewInts w.heap.size w' v (diffL l m) ∧ Below w.heap.size w w' := by
  have hlen := h.len
  have hlen2 := hm.len
  have h0 := (Below.refl w.heap.size w).alloc (Nat.le_refl _) (.cells #[.slice a l.length cap] 22)
  have hs0 : (w.alloc (.cells #[.slice a l.length cap] 22)).heap.size = w.heap.size + 1 := by simp
  have hc : (w.alloc (.cells #[.slice a l.length cap] 22)).cell? ⟨w.heap.size, 0, none⟩ = some (.slice a l.length cap) := by simp
  have A0 := h.keep h0
  have A1 := hm.keep h0
  by_cases he : pairErr l m = 0
  · have HL : Hid (diffL l m = pickF (fun i => !inS m (l.getD i 0).toNat) 0 l) := by show _ = _; unfold diffL pairL; rw [if_pos he]
    have hpr := chkErr_procs (pairErr_zero he).1
    have hl64 := chkErr_len (pairErr_zero he).1
    have hm64 := chkErr_len (pairErr_zero he).2
    go_enter Try.func22, Try.ntmps22
    go_wp2_with fail
    refine (groupSets_any A0 A1 cap cap').mono ?_
    generalize w.alloc (.cells #[.slice a l.length cap] 22) = w0 at *
    rintro e X ⟨rfl, hb⟩
    have hc' := pred_cells hb hc
    have A0' := A0.keep hb
    have A1' := A1.keep hb
    have hzX := hb.size
    have hb0 := h0.trans (hb.mono (by omega))
    rw [he, pairF_ok he, pairF_ok he]
    obtain ⟨S0, S1, hb1, hs1⟩ := two_sets X (inS l) (inS m)
    have HE := Lib.hid he
    clear hb A0 A1 hc he
    have N0 : SetAt ((X.alloc (.cells setE 83)).alloc (.cells setE 83)) X.heap.size (fun _ => false) := (SetAt.new X).alloc _
    have N1 : SetAt ((((X.alloc (.cells setE 83)).alloc (.cells setE 83)).setRow X.heap.size (setA (inS l)))) (X.heap.size + 1) (fun _ => false) := by
      have := SetAt.new (X.alloc (.cells setE 83)); rw [show (X.alloc (.cells setE 83)).heap.size = X.heap.size + 1 by simp] at this; exact this.setRow_other _ (by omega)
    have S0 := Lib.hid S0
    have S1 := Lib.hid S1
    have N0 := Lib.hid N0
    have N1 := Lib.hid N1
    have HC := pred_cells hb1 hc'
    go_wp2_with (first
      | (refine wpList_store_row rfl 83 _ _ rfl X.heap.size (setA (inS l)) rfl rfl 83 _ N0.out (by rw [setA_size]; exact Try.info83) (by simp) (setA_one _) ?_)
      | (refine wpList_store_row rfl 83 _ _ rfl (X.heap.size + 1) (setA (inS m)) rfl rfl 83 _ N1.out (by rw [setA_size]; exact Try.info83) (by simp) (setA_one _) ?_))
    generalize (((X.alloc (.cells setE 83)).alloc (.cells setE 83)).setRow X.heap.size (setA (inS l))).setRow (X.heap.size + 1) (setA (inS m)) = Y at *
    have A0'' := A0'.keep hb1
    have A1'' := A1'.keep hb1
    refine (choose_any A0'' cap (fun i => !inS m (l.getD i 0).toNat) 68 #[.pointer (some ⟨X.heap.size + 1, 0, none⟩), .pointer (some ⟨w.heap.size, 0, none⟩)] (enters_of Try.func68 (by kernel_rfl) rfl)
      (fun i hi W hW => diff1 A0'' hpr cap _ _ _ S1.out HC i hi W hW)).mono ?_
    rintro e Z ⟨v, rfl, hv, hbz⟩
    go_wp2
    go_ret2
    refine ⟨v, by rw [HE.out]; rfl, ?_, ?_⟩
    · rw [HL.out]; exact hv.mono (by omega)
    · exact (hb0.trans (hb1.mono (by omega))).trans (hbz.mono (by omega))
  · have HL : Hid (diffL l m = []) := by show _ = _; unfold diffL pairL; rw [if_neg he]
    go_enter Try.func22, Try.ntmps22
    go_wp2_with fail
    refine (groupSets_any A0 A1 cap cap').mono ?_
    generalize w.alloc (.cells #[.slice a l.length cap] 22) = w0 at *
    rintro e X ⟨rfl, hb⟩
    have hzX := hb.size
    have hb0 := h0.trans (hb.mono (by omega))
    obtain ⟨S0, S1, hb1, hs1⟩ := two_sets X (pairF l m l) (pairF l m m)
    clear hb A0 A1 hc
    have N0 : SetAt ((X.alloc (.cells setE 83)).alloc (.cells setE 83)) X.heap.size (fun _ => false) := (SetAt.new X).alloc _
    have N1 : SetAt ((((X.alloc (.cells setE 83)).alloc (.cells setE 83)).setRow X.heap.size (setA (pairF l m l)))) (X.heap.size + 1) (fun _ => false) := by
      have := SetAt.new (X.alloc (.cells setE 83)); rw [show (X.alloc (.cells setE 83)).heap.size = X.heap.size + 1 by simp] at this; exact this.setRow_other _ (by omega)
    clear S0 S1
    have N0 := Lib.hid N0
    have N1 := Lib.hid N1
    go_wp2_with (first
      | (refine wpList_store_row rfl 83 _ _ rfl X.heap.size (setA (pairF l m l)) rfl rfl 83 _ N0.out (by rw [setA_size]; exact Try.info83) (by simp) (setA_one _) ?_)
      | (refine wpList_store_row rfl 83 _ _ rfl (X.heap.size + 1) (setA (pairF l m m)) rfl rfl 83 _ N1.out (by rw [setA_size]; exact Try.info83) (by simp) (setA_one _) ?_))
    go_ret2
    refine ⟨_, rfl, ?_, hb0.trans (hb1.mono (by omega))⟩
    rw [HL.out]; exact NewInts.nil _ _

set_option maxHeartbeats 1000000 in
set_option maxRecDepth 100000 in
theorem union_any {w : World} {a b : Option Addr} {l m : List Int} (h : Ints w a l) (hm : Ints w b m) (cap cap' : Nat) (hcap : a = none → cap = 0) (_ : b = none → cap' = 0) :
    Calls Try.prog 15 #[.slice a l.length cap, .slice b m.length cap'] w fun e w' => ∃ v, e = .returned (.tuple #[v, .int .i64 (pairErr l m)]) ∧ NewInts w.heap.size w' v (unionL l m) ∧ Below w.heap.size w w' := by
  have hlen := h.len
  have hlen2 := hm.len
  have h0 := (Below.refl w.heap.size w).alloc (Nat.le_refl _) (.cells #[.slice b m.length cap'] 22)
  have hs0 : (w.alloc (.cells #[.slice b m.length cap'] 22)).heap.size = w.heap.size + 1 := by simp
  have hc : (w.alloc (.cells #[.slice b m.length cap'] 22)).cell? ⟨w.heap.size, 0, none⟩ = some (.slice b m.length cap') := by simp
  have A0 := h.keep h0
  have A1 := hm.keep h0
  by_cases he : pairErr l m = 0
  · have HL : Hid (unionL l m = l ++ pickF (fun i => !inS l (m.getD i 0).toNat) 0 m) := by show _ = _; unfold unionL pairL; rw [if_pos he]
    have hpr := chkErr_procs (pairErr_zero he).2
    have hl64 := chkErr_len (pairErr_zero he).1
    have hm64 := chkErr_len (pairErr_zero he).2
    go_enter Try.func15, Try.ntmps15
    go_wp2_with fail
    refine (groupSets_any A0 A1 cap cap').mono ?_
    generalize w.alloc (.cells #[.slice b m.length cap'] 22) = w0 at *
    rintro e X ⟨rfl, hb⟩
    have hc' := pred_cells hb hc
    have A0' := A0.keep hb
    have A1' := A1.keep hb
    have hzX := hb.size
    have hb0 := h0.trans (hb.mono (by omega))
    rw [he, pairF_ok he, pairF_ok he]
    obtain ⟨S0, S1, hb1, hs1⟩ := two_sets X (inS l) (inS m)
    have HE := Lib.hid he
    clear hb A0 A1 hc he
    have N0 : SetAt ((X.alloc (.cells setE 83)).alloc (.cells setE 83)) X.heap.size (fun _ => false) := (SetAt.new X).alloc _
    have N1 : SetAt ((((X.alloc (.cells setE 83)).alloc (.cells setE 83)).setRow X.heap.size (setA (inS l)))) (X.heap.size + 1) (fun _ => false) := by
      have := SetAt.new (X.alloc (.cells setE 83)); rw [show (X.alloc (.cells setE 83)).heap.size = X.heap.size + 1 by simp] at this; exact this.setRow_other _ (by omega)
    have S0 := Lib.hid S0
    have S1 := Lib.hid S1
    have N0 := Lib.hid N0
    have N1 := Lib.hid N1
    have HC := pred_cells hb1 hc'
    go_wp2_with (first
      | (refine wpList_store_row rfl 83 _ _ rfl X.heap.size (setA (inS l)) rfl rfl 83 _ N0.out (by rw [setA_size]; exact Try.info83) (by simp) (setA_one _) ?_)
      | (refine wpList_store_row rfl 83 _ _ rfl (X.heap.size + 1) (setA (inS m)) rfl rfl 83 _ N1.out (by rw [setA_size]; exact Try.info83) (by simp) (setA_one _) ?_))
    generalize (((X.alloc (.cells setE 83)).alloc (.cells setE 83)).setRow X.heap.size (setA (inS l))).setRow (X.heap.size + 1) (setA (inS m)) = Y at *
    have A0'' := A0'.keep hb1
    have A1'' := A1'.keep hb1
    refine (choose_any A1'' cap' (fun i => !inS l (m.getD i 0).toNat) 61 #[.pointer (some ⟨X.heap.size, 0, none⟩), .pointer (some ⟨w.heap.size, 0, none⟩)] (enters_of Try.func61 (by kernel_rfl) rfl)
      (fun i hi W hW => union1 A1'' hpr cap' _ _ _ S0.out HC i hi W hW)).mono ?_
    rintro e Z ⟨v, rfl, hv, hbz⟩
    obtain ⟨va, vc, rfl, hvi⟩ := hv.ints
    have hvl := hvi.len
    have hpl := pickF_len (fun i => !inS l (m.getD i 0).toNat) m 0
    have A0z := A0''.keep hbz
    have hvn : va = none → vc = 0 := hv.cap_of
    generalize hr : pickF (fun i => !inS l (m.getD i 0).toNat) 0 m = r at *
    go_wp2_with fail
    have hb2 : Below Z.heap.size Z (Z.alloc (.cells #[.slice a l.length cap, .slice va r.length vc] 22)) := (Below.refl _ _).alloc (Nat.le_refl _) _
    have hs2 : (Z.alloc (.cells #[.slice a l.length cap, .slice va r.length vc] 22)).heap.size = Z.heap.size + 1 := by simp
    have HR := Lib.hid hr
    have q0 : (Z.alloc (.cells #[.slice a l.length cap, .slice va r.length vc] 22)).cell? ⟨Z.heap.size, 0, none⟩ = some (.slice a l.length cap) := by simp
    have q1 : (Z.alloc (.cells #[.slice a l.length cap, .slice va r.length vc] 22)).cell? ⟨Z.heap.size, 1, none⟩ = some (.slice va r.length vc) := by simp
    clear hr hv
    refine (concat_two (A0z.keep hb2) (hvi.keep hb2) cap vc hcap hvn (by omega) Z.heap.size q0 q1).mono ?_
    generalize Z.alloc (.cells #[.slice a l.length cap, .slice va r.length vc] 22) = V at *
    rintro e U ⟨vv, rfl, hvv, hbu⟩
    have hz1 := hbz.size
    go_wp2
    go_ret2
    refine ⟨vv, by rw [HE.out]; rfl, ?_, ?_⟩
    · rw [HL.out]; exact hvv.mono (by omega)
    · exact (((hb0.trans (hb1.mono (by omega))).trans (hbz.mono (by omega))).trans (hb2.mono (by omega))).trans (hbu.mono (by omega))
  · have HL : Hid (unionL l m = []) := by show _ = _; unfold unionL pairL; rw [if_neg he]
    go_enter Try.func15, Try.ntmps15
    go_wp2_with fail
    refine (groupSets_any A0 A1 cap cap').mono ?_
    generalize w.alloc (.cells #[.slice b m.length cap'] 22) = w0 at *
    rintro e X ⟨rfl, hb⟩
    have hzX := hb.size
    have hb0 := h0.trans (hb.mono (by omega))
    obtain ⟨S0, S1, hb1, hs1⟩ := two_sets X (pairF l m l) (pairF l m m)
    clear hb A0 A1 hc
    have N0 : SetAt ((X.alloc (.cells setE 83)).alloc (.cells setE 83)) X.heap.size (fun _ => false) := (SetAt.new X).alloc _
    have N1 : SetAt ((((X.alloc (.cells setE 83)).alloc (.cells setE 83)).setRow X.heap.size (setA (pairF l m l)))) (X.heap.size + 1) (fun _ => false) := by
      have := SetAt.new (X.alloc (.cells setE 83)); rw [show (X.alloc (.cells setE 83)).heap.size = X.heap.size + 1 by simp] at this; exact this.setRow_other _ (by omega)
    clear S0 S1
    have N0 := Lib.hid N0
    have N1 := Lib.hid N1
    go_wp2_with (first
      | (refine wpList_store_row rfl 83 _ _ rfl X.heap.size (setA (pairF l m l)) rfl rfl 83 _ N0.out (by rw [setA_size]; exact Try.info83) (by simp) (setA_one _) ?_)
      | (refine wpList_store_row rfl 83 _ _ rfl (X.heap.size + 1) (setA (pairF l m m)) rfl rfl 83 _ N1.out (by rw [setA_size]; exact Try.info83) (by simp) (setA_one _) ?_))
    go_ret2
    refine ⟨_, rfl, ?_, hb0.trans (hb1.mono (by omega))⟩
    rw [HL.out]; exact NewInts.nil _ _

end Go.Proofs.Ytoloiingodigpaa
