import Derived.Test.YtoloiingodigpaaGH
namespace Go.Proofs.Ytoloiingodigpaa
open Go.RowKit Go.Shelf
attribute [local go_sem] Oper.semAt_some litE
set_option maxRecDepth 100000
set_option maxHeartbeats 2000000

theorem one_set (X : World) (s : Nat → Bool) : SetAt ((X.alloc (.cells setE 83)).setRow X.heap.size (setA s)) X.heap.size s
    ∧ Below X.heap.size X ((X.alloc (.cells setE 83)).setRow X.heap.size (setA s)) :=
  ⟨(SetAt.new X).setRow s, ((Below.refl _ _).alloc (Nat.le_refl _) _).trans (below_setRow (Nat.le_refl _) _)⟩

def inclL (g rs : List Int) : List Int := if rankErr g rs = 0 then takeL g rs else []
def exclL (g rs : List Int) : List Int := if rankErr g rs = 0 then pickF (fun i => !inS rs i) 0 g else []

theorem rank_facts {g rs : List Int} (h : rankErr g rs = 0) : chkErr g = 0 ∧ rs.Nodup ∧ (∀ x ∈ rs, 0 ≤ x ∧ x < g.length) ∧ g.length ≤ 64 := by
  unfold rankErr at h
  split at h
  · rename_i hc
    obtain ⟨h1, _, h3⟩ := setErr_nodup rs [] h
    exact ⟨hc, h1, h3, chkErr_len hc⟩
  · contradiction
theorem rankF_ok {g rs : List Int} (h : rankErr g rs = 0) : rankF g rs = inS rs := by funext j; simp [rankF, h]

theorem Incl_any {w : World} {a b : Option Addr} {l r : List Int} (h : Ints w a l) (hr : Ints w b r) (cap cap' : Nat) :
    Calls Try.prog 26 #[.slice a l.length cap, .slice b r.length cap'] w fun e w' => ∃ v, e = .returned (.tuple #[v, .int .i64 (rankErr l r)]) ∧ NewInts w.heap.size w' v (inclL l r) ∧ Below w.heap.size w w' := by
  by_cases he : rankErr l r = 0
  · have HL : Hid (inclL l r = takeL l r) := by show _ = _; unfold inclL; rw [if_pos he]
    obtain ⟨_, hnd, hin, hl64⟩ := rank_facts he
    have hr64 : r.length ≤ 64 := by
      have := hr.len
      unfold rankErr at he
      split at he
      · exact setErr_len (by omega) he
      · contradiction
    rw [HL.out]
    have HE := Lib.hid he
    have HIN := Lib.hid hin
    clear he hin hnd
    go_enter Try.func26, Try.ntmps26
    go_wp2_with fail
    refine (rankSet_any h hr cap cap').mono ?_
    rintro e X ⟨rfl, hb⟩
    have A0 := h.keep hb
    have A1 := hr.keep hb
    have hzX := hb.size
    rw [HE.out]
    have N0 := Lib.hid (SetAt.new X)
    obtain ⟨S0, hb1⟩ := one_set X (rankF l r)
    have hwr := with_ranks (A0.keep hb1) (A1.keep hb1) cap cap' HIN.out
    clear h hr A0 A1 S0
    go_wp2_with (first
      | (refine wpList_store_row rfl 83 _ _ rfl X.heap.size (setA (rankF l r)) rfl rfl 83 _ N0.out (by rw [setA_size]; exact Try.info83) (by simp) (setA_one _) ?_))
    generalize (X.alloc (.cells setE 83)).setRow X.heap.size (setA (rankF l r)) = Y at *
    refine hwr.mono ?_
    rintro e Z ⟨g, rfl, hg, hR, hbz⟩
    have hNI := hR.own hg (by simp; omega)
    rw [takeL_len] at hNI
    have HNI := Lib.hid hNI
    have hz1 := hb1.size
    clear hwr hR hNI
    go_wp2_with fail
    go_ret2
    rw [HE.out]
    refine ⟨_, rfl, NewInts.mono ⟨by have := HNI.out.own; simpa using this, HNI.out.len⟩ (by omega), (hb.trans (hb1.mono hzX)).trans (hbz.mono (by omega))⟩
  · have HL : Hid (inclL l r = []) := by show _ = _; unfold inclL; rw [if_neg he]
    rw [HL.out]
    have hne2 : (rankErr l r != 0) = true := by rw [bne_iff_ne]; exact he
    have hne : (rankErr l r == 0) = false := beq_eq_false_iff_ne.2 he
    have hrs := rankSet_any h hr cap cap'
    generalize rankErr l r = x at *
    go_enter Try.func26, Try.ntmps26
    go_wp2_with fail
    refine hrs.mono ?_
    rintro e X ⟨rfl, hb⟩
    have hzX := hb.size
    have N0 := Lib.hid (SetAt.new X)
    obtain ⟨S0, hb1⟩ := one_set X (rankF l r)
    clear S0 hrs h hr
    go_wp2_with (first
      | (refine wpList_store_row rfl 83 _ _ rfl X.heap.size (setA (rankF l r)) rfl rfl 83 _ N0.out (by rw [setA_size]; exact Try.info83) (by simp) (setA_one _) ?_))
    go_ret2
    exact ⟨_, rfl, NewInts.nil _ _, hb.trans (hb1.mono hzX)⟩

theorem Excl_any {w : World} {a b : Option Addr} {l r : List Int} (h : Ints w a l) (hr : Ints w b r) (cap cap' : Nat) :
    Calls Try.prog 28 #[.slice a l.length cap, .slice b r.length cap'] w fun e w' => ∃ v, e = .returned (.tuple #[v, .int .i64 (rankErr l r)]) ∧ NewInts w.heap.size w' v (exclL l r) ∧ Below w.heap.size w w' := by
  by_cases he : rankErr l r = 0
  · have HL : Hid (exclL l r = pickF (fun i => !inS r i) 0 l) := by show _ = _; unfold exclL; rw [if_pos he]
    obtain ⟨_, _, _, hl64⟩ := rank_facts he
    rw [HL.out]
    have HE := Lib.hid he
    have HF := Lib.hid (rankF_ok he)
    clear he
    go_enter Try.func28, Try.ntmps28
    go_wp2_with fail
    refine (rankSet_any h hr cap cap').mono ?_
    rintro e X ⟨rfl, hb⟩
    have A0 := h.keep hb
    have hzX := hb.size
    rw [HE.out, HF.out]
    have N0 := Lib.hid (SetAt.new X)
    obtain ⟨S0, hb1⟩ := one_set X (inS r)
    have hch := choose_any (A0.keep hb1) cap (fun i => !inS r i) 73 #[.pointer (some ⟨X.heap.size, 0, none⟩)] (enters_of Try.func73 (by kernel_rfl) rfl) (fun i hi W hW => excl1 _ _ S0 i (by omega) W hW)
    clear h hr A0 S0
    go_wp2_with (first
      | (refine wpList_store_row rfl 83 _ _ rfl X.heap.size (setA (inS r)) rfl rfl 83 _ N0.out (by rw [setA_size]; exact Try.info83) (by simp) (setA_one _) ?_))
    generalize (X.alloc (.cells setE 83)).setRow X.heap.size (setA (inS r)) = Y at *
    refine hch.mono ?_
    rintro e Z ⟨v, rfl, hv, hbz⟩
    have HV := Lib.hid hv
    have hz1 := hb1.size
    clear hch hv
    go_wp2_with fail
    go_ret2
    rw [HE.out]
    exact ⟨_, rfl, HV.out.mono (by omega), (hb.trans (hb1.mono hzX)).trans (hbz.mono (by omega))⟩
  · have HL : Hid (exclL l r = []) := by show _ = _; unfold exclL; rw [if_neg he]
    rw [HL.out]
    have hne2 : (rankErr l r != 0) = true := by rw [bne_iff_ne]; exact he
    have hne : (rankErr l r == 0) = false := beq_eq_false_iff_ne.2 he
    have hrs := rankSet_any h hr cap cap'
    generalize rankErr l r = x at *
    go_enter Try.func28, Try.ntmps28
    go_wp2_with fail
    refine hrs.mono ?_
    rintro e X ⟨rfl, hb⟩
    have hzX := hb.size
    have N0 := Lib.hid (SetAt.new X)
    obtain ⟨S0, hb1⟩ := one_set X (rankF l r)
    clear S0 hrs h hr
    go_wp2_with (first
      | (refine wpList_store_row rfl 83 _ _ rfl X.heap.size (setA (rankF l r)) rfl rfl 83 _ N0.out (by rw [setA_size]; exact Try.info83) (by simp) (setA_one _) ?_))
    go_ret2
    exact ⟨_, rfl, NewInts.nil _ _, hb.trans (hb1.mono hzX)⟩

theorem ranked_ref {w : World} {a b : Option Addr} {l r : List Int} (h : Ints w a l) (hr : Ints w b r) (cap cap' : Nat) (hcap : l.length ≤ cap) (hcap' : r.length ≤ cap') :
    Calls Try.prog 72 #[.slice a l.length cap, .slice b r.length cap'] w fun e w' => e = .returned (.int .i64 (rankErr l r)) ∧ Below w.heap.size w w' := by
  have hd := check_ref h cap hcap
  have HM := Lib.hid hr
  have hlen := h.len
  clear hr
  by_cases hl : chkErr l = 0
  · have HN : Hid (rankErr l r = setErr [] r l.length) := by show _ = _; unfold rankErr; rw [if_pos hl]
    rw [HN.out]
    rw [hl] at hd
    clear hl
    go_enter Try.func72, Try.ntmps72
    go_wp2_with fail
    refine hd.mono ?_
    rintro e w1 ⟨rfl, hb⟩
    have hd2 := different_ref (HM.out.keep hb) cap' hcap' l.length
    go_wp2_with fail
    refine hd2.mono ?_
    rintro e w2 ⟨rfl, hb2⟩
    go_wp2_with fail
    go_ret
    exact ⟨rfl, hb.trans (hb2.mono hb.size)⟩
  · have HN : Hid (rankErr l r = chkErr l) := by show _ = _; unfold rankErr; rw [if_neg hl]
    rw [HN.out]
    have hne : (chkErr l == 0) = false := beq_eq_false_iff_ne.2 hl
    have hne2 : (chkErr l != 0) = true := by rw [bne_iff_ne]; exact hl
    generalize chkErr l = x at *
    go_enter Try.func72, Try.ntmps72
    go_wp2_with (refine hd.mono ?_; rintro e w1 ⟨rfl, hb⟩)
    go_ret
    exact ⟨rfl, hb⟩
end Go.Proofs.Ytoloiingodigpaa
