import Derived.Test.YtoloiingodigpaaGQ
import Derived.BigQuiet
namespace Go.Proofs.Ytoloiingodigpaa
open Go.RowKit Go.Shelf
attribute [local go_sem] Oper.semAt_some litE
set_option maxRecDepth 100000
set_option maxHeartbeats 4000000

theorem CommSets_walk {w : World} {a b : Option Addr} {l m : List Int} (h : Ints w a l) (cap : Nat) (hc : l.length ≤ cap) (hn : a = none → cap = 0) (_ : ∀ n ∈ l, (Lit.int .i64 n).wf = true) (hm : Ints w b m) (cap' : Nat) (hc' : m.length ≤ cap') (hn' : b = none → cap' = 0) (_ : ∀ n ∈ m, (Lit.int .i64 n).wf = true) :
    Calls Try.prog 9 #[.slice a l.length cap, .slice b m.length cap'] w fun e w' => e = .returned (.bool true) ∧ Below w.heap.size w w' := by
  have hlen := h.len
  have hlen2 := hm.len
  have hk1 := check_any h cap
  by_cases hl : chkErr l = 0
  · by_cases hl2 : chkErr m = 0
    · have hp : pairErr l m = 0 := by unfold pairErr; rw [if_pos hl]; exact hl2
      have hp2 : pairErr m l = 0 := by unfold pairErr; rw [if_pos hl2]; exact hl
      obtain ⟨nd1, rg1⟩ := chk_facts hl
      obtain ⟨nd2, rg2⟩ := chk_facts hl2
      have HL1 := Lib.hid hl
      have HL2 := Lib.hid hl2
      have HP1 := Lib.hid hp
      have HP2 := Lib.hid hp2
      have HND1 := Lib.hid nd1
      have HND2 := Lib.hid nd2
      have hl64 := chkErr_len hl
      have hm64 := chkErr_len hl2
      have HEI : Hid (interL l m = chosenL l m true) := by show _ = _; rw [inter_eq]; unfold refL; rw [if_pos hp]
      have HED : Hid (diffL l m = chosenL l m false) := by show _ = _; rw [diff_eq]; unfold refL; rw [if_pos hp]
      have HEU : Hid (unionL l m = unL l m) := by show _ = _; rw [union_eq]; unfold refL; rw [if_pos hp]; rfl
      have HEB : Hid (unionL m l = unL m l) := by show _ = _; rw [union_eq]; unfold refL; rw [if_pos hp2]; rfl
      have hUc : chkErr (unL l m) = 0 := chk_none (un_nodup nd1 nd2) (fun x hx => by rcases un_mem.1 hx with hx | hx; exact rg1 x hx; exact rg2 x hx)
      have hBc : chkErr (unL m l) = 0 := chk_none (un_nodup nd2 nd1) (fun x hx => by rcases un_mem.1 hx with hx | hx; exact rg2 x hx; exact rg1 x hx)
      have HPUB : Hid (pairErr (unL l m) (unL m l) = 0) := by show _ = _; unfold pairErr; rw [if_pos hUc]; exact hBc
      have HPUM : Hid (pairErr (unL l m) m = 0) := by show _ = _; unfold pairErr; rw [if_pos hUc]; exact hl2
      have HEM : Hid (diffL (unL l m) m = chosenL l m false) := by show _ = _; rw [diff_eq]; unfold refL; rw [if_pos HPUM.out]; exact more_eq
      have HC3 : Hid ((if pairErr (unL l m) (unL m l) = 0 then cmpC (unL l m) (unL m l) else 0) ≠ 3) := by
        show _ ≠ _
        rw [if_pos HPUB.out]
        rcases cmp_un nd1 nd2 HPUB.out with e | e <;> rw [e] <;> decide
      have HF1 : Hid (((chosenL l m true).length : Int) + (chosenL l m false).length = l.length) := by show _ = _; have := chosen_len2 l m; omega
      have HF2 : Hid (((chosenL l m false).length : Int) + m.length = (unL l m).length) := by show _ = _; have := un_len nd1 nd2; omega
      have HRI : Hid (rankErr l (iotaL l.length) = 0) := rank_iota hl
      have HRN : Hid (rankErr l [] = 0) := rank_nil hl
      have HLI : Hid (inclL l (iotaL l.length) = l) := by show _ = _; unfold inclL; rw [if_pos HRI.out]; exact take_iota l
      have HLE : Hid (exclL l [] = l) := by show _ = _; unfold exclL; rw [if_pos HRN.out]; exact excl_nil l 0
      have HTO := Lib.hid (to_ok hp)
      have HFR := Lib.hid (from_ok hp2)
      have HA := Lib.hid h
      have HB := Lib.hid hm
      rw [hl] at hk1
      clear h hm hl hl2 hp hp2 nd1 nd2 rg1 rg2 hUc hBc
      have HQ : Hid (Below w.heap.size w w) := Below.refl _ _
      go_enter Try.func9, Try.ntmps9
      go_wp2_with fail
      refine hk1.mono ?_
      rintro e W0 ⟨rfl, b1⟩
      replace HQ := Lib.hid (HQ.out.trans (b1.mono HQ.out.size))
      replace HA := Lib.hid (HA.out.keep b1)
      replace HB := Lib.hid (HB.out.keep b1)
      clear b1 hk1
      have hk2 := check_any HB.out cap'
      rw [HL2.out] at hk2
      go_wp2_with fail
      refine hk2.mono ?_
      rintro e W1 ⟨rfl, b1⟩
      replace HQ := Lib.hid (HQ.out.trans (b1.mono HQ.out.size))
      replace HA := Lib.hid (HA.out.keep b1)
      replace HB := Lib.hid (HB.out.keep b1)
      clear b1 hk2
      go_wp2_with fail
      refine (inter_any HA.out HB.out cap cap').mono ?_
      rintro e W2 ⟨vi, rfl, n1, b1⟩
      replace HQ := Lib.hid (HQ.out.trans (b1.mono HQ.out.size))
      replace HA := Lib.hid (HA.out.keep b1)
      replace HB := Lib.hid (HB.out.keep b1)
      rw [HP1.out]
      rw [HEI.out] at n1
      obtain ⟨ai, ci, rfl, j1⟩ := n1.ints
      have Hi := Lib.hid j1
      clear n1 j1 b1
      go_wp2_with fail
      refine (diff_any HA.out HB.out cap cap').mono ?_
      rintro e W3 ⟨vd, rfl, n1, b1⟩
      replace HQ := Lib.hid (HQ.out.trans (b1.mono HQ.out.size))
      replace HA := Lib.hid (HA.out.keep b1)
      replace HB := Lib.hid (HB.out.keep b1)
      replace Hi := Lib.hid (Hi.out.keep b1)
      rw [HP1.out]
      rw [HED.out] at n1
      obtain ⟨ad, cd, rfl, j1⟩ := n1.ints
      have Hd := Lib.hid j1
      clear n1 j1 b1
      go_wp2_with fail
      refine (union_any HA.out HB.out cap cap' hn hn').mono ?_
      rintro e W4 ⟨vu, rfl, n1, b1⟩
      replace HQ := Lib.hid (HQ.out.trans (b1.mono HQ.out.size))
      replace HA := Lib.hid (HA.out.keep b1)
      replace HB := Lib.hid (HB.out.keep b1)
      replace Hi := Lib.hid (Hi.out.keep b1)
      replace Hd := Lib.hid (Hd.out.keep b1)
      rw [HP1.out]
      rw [HEU.out] at n1
      obtain ⟨au, cu, rfl, j1⟩ := n1.ints
      have Hu := Lib.hid j1
      clear n1 j1 b1
      go_wp2_with fail
      refine (union_any HB.out HA.out cap' cap hn' hn).mono ?_
      rintro e W5 ⟨vk, rfl, n1, b1⟩
      replace HQ := Lib.hid (HQ.out.trans (b1.mono HQ.out.size))
      replace HA := Lib.hid (HA.out.keep b1)
      replace HB := Lib.hid (HB.out.keep b1)
      replace Hi := Lib.hid (Hi.out.keep b1)
      replace Hd := Lib.hid (Hd.out.keep b1)
      replace Hu := Lib.hid (Hu.out.keep b1)
      rw [HP2.out]
      rw [HEB.out] at n1
      obtain ⟨ak, ck, rfl, j1⟩ := n1.ints
      have Hk := Lib.hid j1
      clear n1 j1 b1
      have hf1 := HF1.out
      have hf2 := HF2.out
      have HMI : Hid (∀ x ∈ l, decide (x ∈ chosenL l m true) = decide (x ∈ m) ∧ decide (x ∈ chosenL l m false) = !decide (x ∈ m) ∧ decide (x ∈ unL l m) = true) := fun x hx => by
        refine ⟨?_, ?_, ?_⟩
        · rw [decide_eq_decide, chosen_mem]; simp [hx]
        · by_cases h9 : x ∈ m <;> simp [chosen_mem, hx, h9]
        · rw [decide_eq_true_iff]; exact un_mem.2 (.inl hx)
      have HMU : Hid (∀ x ∈ m, decide (x ∈ unL l m) = true) := fun x hx => by rw [decide_eq_true_iff]; exact un_mem.2 (.inr hx)
      obtain ⟨A, hA⟩ : ∃ A, A = chosenL l m true := ⟨_, rfl⟩
      obtain ⟨D, hD⟩ : ∃ D, D = chosenL l m false := ⟨_, rfl⟩
      obtain ⟨U, hU⟩ : ∃ U, U = unL l m := ⟨_, rfl⟩
      obtain ⟨K, hK⟩ : ∃ K, K = unL m l := ⟨_, rfl⟩
      rw [← hA, ← hD] at hf1
      rw [← hD, ← hU] at hf2
      rw [← hA, ← hD, ← hU] at HMI
      rw [← hU] at HMU HPUM
      rw [← hU, ← hK] at HPUB HC3
      rw [← hU, ← hD] at HEM
      rw [← hA] at Hi
      rw [← hD] at Hd
      rw [← hU] at Hu
      rw [← hK] at Hk
      rw [← hA, ← hD, ← hU, ← hK]
      have HAe := Lib.hid hA
      clear hA hD hU hK HF1 HF2 HEI HED HEU HEB
      go_wp2_with fail
      go_loop [95] (fun i => ∃ k : Nat, k ≤ l.length ∧ i = .int .i64 k) (fun i => l.length - (intOf i).toNat)
      case atStart => exact ⟨0, Nat.zero_le _, rfl⟩
      case round =>
        obtain ⟨k, hk, rfl⟩ := hrel
        by_cases hlt : k < l.length
        · obtain ⟨ga, oa, rfl, hca⟩ := HA.out.at_ (ne_nil_of_lt hlt)
          have c0 := hca k hlt
          obtain ⟨e1, e2, e3⟩ := HMI.out l[k] (List.getElem_mem hlt)
          have g1 := member_any Hi.out ci l[k]
          have g2 := member_any Hd.out cd l[k]
          have g3 := member_any HB.out cap' l[k]
          have g4 := member_any Hu.out cu l[k]
          rw [e1] at g1
          rw [e2] at g2
          rw [e3] at g4
          generalize l[k] = x at *
          clear hca e1 e2 e3
          cases hd : decide (x ∈ m) with
          | true =>
            rw [hd] at g1 g2 g3
            clear hd
            go_wp2_with (first
              | (with_reducible refine g1.mono ?_; rintro e w' ⟨rfl, rfl⟩)
              | (with_reducible refine g2.mono ?_; rintro e w' ⟨rfl, rfl⟩)
              | (with_reducible refine g3.mono ?_; rintro e w' ⟨rfl, rfl⟩)
              | (with_reducible refine g4.mono ?_; rintro e w' ⟨rfl, rfl⟩))
            go_round
            case rel => exact ⟨k + 1, by omega, by go_num⟩
            case measure => simp [intOf]; omega
          | false =>
            rw [hd] at g1 g2 g3
            clear hd
            go_wp2_with (first
              | (with_reducible refine g1.mono ?_; rintro e w' ⟨rfl, rfl⟩)
              | (with_reducible refine g2.mono ?_; rintro e w' ⟨rfl, rfl⟩)
              | (with_reducible refine g3.mono ?_; rintro e w' ⟨rfl, rfl⟩)
              | (with_reducible refine g4.mono ?_; rintro e w' ⟨rfl, rfl⟩))
            go_round
            case rel => exact ⟨k + 1, by omega, by go_num⟩
            case measure => simp [intOf]; omega
        · clear HMI
          go_wp2_with fail
          go_loop [124] (fun i => ∃ k : Nat, k ≤ m.length ∧ i = .int .i64 k) (fun i => m.length - (intOf i).toNat)
          case atStart => exact ⟨0, Nat.zero_le _, rfl⟩
          case round =>
            obtain ⟨k2, hk2, rfl⟩ := hrel
            by_cases hlt2 : k2 < m.length
            · obtain ⟨gb, ob, rfl, hcb⟩ := HB.out.at_ (ne_nil_of_lt hlt2)
              have c0 := hcb k2 hlt2
              have e1 := HMU.out m[k2] (List.getElem_mem hlt2)
              have g1 := member_any Hu.out cu m[k2]
              rw [e1] at g1
              generalize m[k2] = x at *
              clear hcb e1
              go_wp2_with (with_reducible refine g1.mono ?_; rintro e w' ⟨rfl, rfl⟩)
              go_round
              case rel => exact ⟨k2 + 1, by omega, by go_num⟩
              case measure => simp [intOf]; omega
            · clear HMU
              go_wp2_with fail
              have hcm := Compare_any Hu.out Hk.out cu ck
              have hdf := diff_any Hu.out HB.out cu cap'
              rw [HPUB.out] at hcm
              rw [HPUM.out, HEM.out] at hdf
              have hc3 := HC3.out
              rw [HPUB.out] at hc3
              generalize (if (0 : Int) = 0 then cmpC U K else 0) = cv at *
              have hcb3 : (cv == 3) = false := beq_eq_false_iff_ne.2 hc3
              refine hcm.mono ?_
              clear hcm hc3
              rintro e W6 ⟨rfl, b1⟩
              replace HQ := Lib.hid (HQ.out.trans (b1.mono HQ.out.size))
              replace HA := Lib.hid (HA.out.keep b1)
              replace HB := Lib.hid (HB.out.keep b1)
              replace Hi := Lib.hid (Hi.out.keep b1)
              replace Hd := Lib.hid (Hd.out.keep b1)
              replace Hu := Lib.hid (Hu.out.keep b1)
              replace Hk := Lib.hid (Hk.out.keep b1)
              clear b1 hdf
              have hdf := diff_any Hu.out HB.out cu cap'
              rw [HPUM.out, HEM.out] at hdf
              go_wp2_with fail
              refine hdf.mono ?_
              clear hdf
              rintro e W7 ⟨v5, rfl, n1, b1⟩
              replace HQ := Lib.hid (HQ.out.trans (b1.mono HQ.out.size))
              replace HA := Lib.hid (HA.out.keep b1)
              replace HB := Lib.hid (HB.out.keep b1)
              replace Hi := Lib.hid (Hi.out.keep b1)
              replace Hd := Lib.hid (Hd.out.keep b1)
              replace Hu := Lib.hid (Hu.out.keep b1)
              replace Hk := Lib.hid (Hk.out.keep b1)
              obtain ⟨a5, c5, rfl, j1⟩ := n1.ints
              have heq := equal_law j1 Hd.out c5 cd
              rw [show decide (D = D) = true by simp] at heq
              clear n1 j1 b1
              go_wp2_with fail
              refine heq.mono ?_
              clear heq
              rintro e W8 ⟨rfl, b1⟩
              replace HQ := Lib.hid (HQ.out.trans (b1.mono HQ.out.size))
              replace HA := Lib.hid (HA.out.keep b1)
              replace HB := Lib.hid (HB.out.keep b1)
              replace Hd := Lib.hid (Hd.out.keep b1)
              replace Hu := Lib.hid (Hu.out.keep b1)
              clear b1 Hk Hi Hd Hu hf1 hf2 hcb3
              go_wp2_with fail
              have hb0 : Below W8.heap.size W8 (W8.alloc (.cells #[] 3)) := (Below.refl _ _).alloc (Nat.le_refl _) _
              have hown : Hid ((W8.alloc (.cells #[] 3)).ownsRow W8.heap.size 3 1 (.slice (some ⟨W8.heap.size, 0, none⟩) 0 0) 0 []) :=
                ⟨rfl, .inr ⟨W8.heap.size, 0, #[], rfl, Nat.le_refl _, heap_alloc_new W8 _, Nat.le_refl _, Nat.zero_le _, rfl, rfl⟩⟩
              obtain ⟨i0, hi, hz0, hz1, hz2⟩ := info_parts Try.info3
              generalize W8.alloc (.cells #[] 3) = Wn at *
              go_loopw [19, 164] (fun t i wr => ∃ k : Nat, k ≤ l.length ∧ i = .int .i64 k ∧ Hid (wr.ownsRow W8.heap.size 3 1 t (iotaL k).length ((iotaL k).map (Value.int .i64))) ∧ Below W8.heap.size W8 wr) (fun _ i _ => l.length - (intOf i).toNat)
              case atStart => exact ⟨0, Nat.zero_le _, rfl, hown, hb0⟩
              case round =>
                obtain ⟨k3, hk3, rfl, HO3, hb3⟩ := hrel
                have hz3 := hb3.size
                by_cases hlt3 : k3 < l.length
                · have hil := iotaL_len k3
                  have HN3 : Hid (iotaL (k3 + 1) = iotaL k3 ++ [(k3 : Int)]) := by show _ = _; simp [iotaL, List.range_succ]
                  go_wp2_with (at_builtin; refine wpList_append_own _ rfl (.tmp 167) (.tmp 169) 22 rfl W8.heap.size 3 i0 (.int .i64 0) 1 8 Try.underlying22 hi hz0 hz1 hz2 rfl (by decide) _ _ _ rfl (HO3.out.alloc _) ⟨_, 0, none⟩ 1 1 [.int .i64 (k3 : Int)] rfl rfl (fun j u hj => by match j, hj with | 0, hj => simp at hj; subst hj; simp [Addr.add]) (by intro u hu; simp at hu; subst hu; rfl) (by unfold maxLen; omega) (by omega) (by simp; omega) ?_; intro v' w2 hown' hgrow _)
                  have hb4 : Below W8.heap.size W8 w2 := grow_below (hb3.alloc hz3 _) (HO3.out.alloc _) hgrow (by simp; omega)
                  go_roundw
                  case rel =>
                    refine ⟨k3 + 1, by omega, by go_num, ?_, hb4⟩
                    show World.ownsRow _ _ _ _ _ _ _
                    rw [HN3.out]
                    simpa using hown'
                  case measure => simp [intOf]; omega
                · have hk4 : k3 = l.length := by omega
                  have HNI := Lib.hid (NewInts.mk (l := iotaL k3) HO3.out (by simp; omega))
                  rw [hk4] at HNI
                  obtain ⟨a6, c6, rfl, j6⟩ := HNI.out.ints
                  have Hr := Lib.hid j6
                  have b1 := hb3
                  clear j6 hk4
                  replace HQ := Lib.hid (HQ.out.trans (b1.mono HQ.out.size))
                  replace HA := Lib.hid (HA.out.keep b1)
                  replace HB := Lib.hid (HB.out.keep b1)
                  have hil := iotaL_len l.length
                  clear b1
                  rw [hil]
                  have hin := Incl_any HA.out Hr.out cap c6
                  rw [HRI.out, HLI.out, hil] at hin
                  go_wp2_with fail
                  refine hin.mono ?_
                  clear hin
                  rintro e W9 ⟨v7, rfl, n1, b1⟩
                  replace HQ := Lib.hid (HQ.out.trans (b1.mono HQ.out.size))
                  replace HA := Lib.hid (HA.out.keep b1)
                  replace HB := Lib.hid (HB.out.keep b1)
                  replace Hr := Lib.hid (Hr.out.keep b1)
                  obtain ⟨a7, c7, rfl, j1⟩ := n1.ints
                  have H7 := Lib.hid j1
                  clear n1 j1 b1
                  have hex := Excl_any HA.out (b := none) (r := []) ⟨by simp, fun e => absurd rfl e⟩ cap 0
                  rw [HRN.out, HLE.out] at hex
                  go_wp2_with fail
                  refine hex.mono ?_
                  clear hex
                  rintro e W10 ⟨v8, rfl, n1, b1⟩
                  replace HQ := Lib.hid (HQ.out.trans (b1.mono HQ.out.size))
                  replace HA := Lib.hid (HA.out.keep b1)
                  replace HB := Lib.hid (HB.out.keep b1)
                  replace Hr := Lib.hid (Hr.out.keep b1)
                  replace H7 := Lib.hid (H7.out.keep b1)
                  obtain ⟨a8, c8, rfl, j1⟩ := n1.ints
                  have H8 := Lib.hid j1
                  clear n1 j1 b1
                  have htr := Translate_any HA.out Hr.out HB.out cap c6 cap'
                  rw [HTO.out.1, HTO.out.2, hil] at htr
                  go_wp2_with fail
                  refine htr.mono ?_
                  clear htr
                  rintro e W11 ⟨vq, rfl, n1, b1⟩
                  replace HQ := Lib.hid (HQ.out.trans (b1.mono HQ.out.size))
                  replace HA := Lib.hid (HA.out.keep b1)
                  replace HB := Lib.hid (HB.out.keep b1)
                  replace Hr := Lib.hid (Hr.out.keep b1)
                  replace H7 := Lib.hid (H7.out.keep b1)
                  replace H8 := Lib.hid (H8.out.keep b1)
                  obtain ⟨aq, cq, rfl, j1⟩ := n1.ints
                  have Hq := Lib.hid j1
                  clear n1 j1 b1
                  have htr := Translate_any HB.out Hq.out HA.out cap' cq cap
                  rw [HFR.out.1, HFR.out.2, toL_len] at htr
                  go_wp2_with fail
                  refine htr.mono ?_
                  clear htr
                  rintro e W12 ⟨vg, rfl, n1, b1⟩
                  replace HQ := Lib.hid (HQ.out.trans (b1.mono HQ.out.size))
                  replace HA := Lib.hid (HA.out.keep b1)
                  replace HB := Lib.hid (HB.out.keep b1)
                  replace Hr := Lib.hid (Hr.out.keep b1)
                  replace H7 := Lib.hid (H7.out.keep b1)
                  replace H8 := Lib.hid (H8.out.keep b1)
                  replace Hq := Lib.hid (Hq.out.keep b1)
                  obtain ⟨ag, cg, rfl, j1⟩ := n1.ints
                  have Hg := Lib.hid j1
                  clear n1 j1 b1
                  have hTl := toL_len l m
                  have hFl : ((toL l m).map (trOne m l)).length = l.length := by simp
                  have HAT : Hid (∀ i (h : i < l.length), (toL l m)[i]'(by simpa using h) = if l[i] ∈ m then idxL m l[i] else -2) := fun i h => toL_at l m i h
                  have HAF : Hid (∀ i (h : i < l.length), l[i] ∈ m → ((toL l m).map (trOne m l))[i]'(by simpa using h) = i ∧ ∃ j, j < m.length ∧ (toL l m)[i]'(by simpa using h) = (j : Int) ∧ m[j]? = some l[i]) := fun i h hm => from_at HND1.out i h hm
                  obtain ⟨T, hT⟩ : ∃ T, T = toL l m := ⟨_, rfl⟩
                  obtain ⟨F, hF⟩ : ∃ F, F = (toL l m).map (trOne m l) := ⟨_, rfl⟩
                  have HAT2 : Hid (∀ i (h : i < l.length) (h2 : i < T.length), T[i] = if l[i] ∈ m then idxL m l[i] else -2) := by subst hT; exact fun i h _ => HAT.out i h
                  have HAF2 : Hid (∀ i (h : i < l.length) (h2 : i < T.length) (h3 : i < F.length), l[i] ∈ m → F[i] = i ∧ ∃ j, j < m.length ∧ T[i] = (j : Int) ∧ m[j]? = some l[i]) := by subst hF hT; exact fun i h _ _ hm => HAF.out i h hm
                  rw [← hF] at hFl Hg ⊢
                  rw [← hT] at hTl Hq
                  clear hT hF HAT HAF
                  rw [hFl]
                  have heq := equal_law H7.out HA.out c7 cap
                  rw [show decide (l = l) = true by simp] at heq
                  go_wp2_with fail
                  refine heq.mono ?_
                  clear heq
                  rintro e W13 ⟨rfl, b1⟩
                  replace HQ := Lib.hid (HQ.out.trans (b1.mono HQ.out.size))
                  replace HA := Lib.hid (HA.out.keep b1)
                  replace HB := Lib.hid (HB.out.keep b1)
                  replace Hr := Lib.hid (Hr.out.keep b1)
                  replace H7 := Lib.hid (H7.out.keep b1)
                  replace H8 := Lib.hid (H8.out.keep b1)
                  replace Hq := Lib.hid (Hq.out.keep b1)
                  replace Hg := Lib.hid (Hg.out.keep b1)
                  clear b1
                  have heq := equal_law H8.out HA.out c8 cap
                  rw [show decide (l = l) = true by simp] at heq
                  go_wp2_with fail
                  refine heq.mono ?_
                  clear heq
                  rintro e W14 ⟨rfl, b1⟩
                  replace HQ := Lib.hid (HQ.out.trans (b1.mono HQ.out.size))
                  replace HA := Lib.hid (HA.out.keep b1)
                  replace HB := Lib.hid (HB.out.keep b1)
                  replace Hr := Lib.hid (Hr.out.keep b1)
                  replace H7 := Lib.hid (H7.out.keep b1)
                  replace H8 := Lib.hid (H8.out.keep b1)
                  replace Hq := Lib.hid (Hq.out.keep b1)
                  replace Hg := Lib.hid (Hg.out.keep b1)
                  clear b1 H7 H8 Hr HTO HFR HRI HRN HLI HLE
                  go_wp2_with fail
                  go_loopw [239] (fun i wr => ∃ k : Nat, k ≤ l.length ∧ i = .int .i64 k ∧ Hid (Below W14.heap.size W14 wr)) (fun i _ => l.length - (intOf i).toNat)
                  case atStart => exact ⟨0, Nat.zero_le _, rfl, Below.refl _ _⟩
                  case round =>
                    obtain ⟨k4, hk4, rfl, HBR⟩ := hrel
                    by_cases hlt4 : k4 < l.length
                    · obtain ⟨ga, oa, rfl, hca⟩ := (HA.out.keep HBR.out).at_ (ne_nil_of_lt hlt4)
                      have c0 := hca k4 hlt4
                      have hk5 : k4 < T.length := by rw [hTl]; exact hlt4
                      have hk6 : k4 < F.length := by rw [hFl]; exact hlt4
                      obtain ⟨gt, ot, rfl, hct⟩ := (Hq.out.keep HBR.out).at_ (ne_nil_of_lt hk5)
                      have c1 := hct k4 hk5
                      obtain ⟨gf, of, rfl, hcf⟩ := (Hg.out.keep HBR.out).at_ (ne_nil_of_lt hk6)
                      have c2 := hcf k4 hk6
                      have HMB : Hid (∀ q, Calls Try.prog 55 #[.slice b m.length cap', .int .i64 l[k4]] (wr.drewN q) fun e w' => e = .returned (.bool (decide (l[k4] ∈ m))) ∧ w' = wr.drewN q) := fun q => by
                        refine (member_any (HB.out.keep (below_drewN HBR.out q)) cap' l[k4]).mono ?_
                        rintro e w' ⟨rfl, rfl⟩
                        exact ⟨rfl, rfl⟩
                      by_cases hmem : l[k4] ∈ m
                      · obtain ⟨hf9, j, hj, ht9, hmj⟩ := HAF2.out k4 hlt4 hk5 hk6 hmem
                        obtain ⟨gb, ob, rfl, hcb⟩ := (HB.out.keep HBR.out).at_ (ne_nil_of_lt hj)
                        have c3 := hcb j hj
                        have hmj2 : m[j] = l[k4] := by rw [List.getElem?_eq_getElem hj] at hmj; exact Option.some.inj hmj
                        rw [hmj2] at c3
                        rw [hf9] at c2
                        rw [ht9] at c1
                        rw [show decide (l[k4] ∈ m) = true by simp [hmem]] at HMB
                        generalize l[k4] = y at *
                        have hne : ((j : Int) == -2) = false := beq_eq_false_iff_ne.2 (by omega)
                        have hne2 : ((j : Int) != -2) = true := by rw [bne_iff_ne]; omega
                        clear hca hct hcf hcb hmem hmj hmj2 hf9 ht9 hk5 hk6 hTl hFl
                        go_wp2_with fail
                        go_quiet (first | (go_at_call 55; refine Calls.quiet_of_same (HMB.out _)))
                        go_wp2_with fail
                        go_roundw
                        case rel => exact ⟨k4 + 1, by omega, by go_num, below_drewN HBR.out _⟩
                        case measure => simp [intOf]; omega
                      · have ht9 := HAT2.out k4 hlt4 hk5
                        rw [if_neg hmem] at ht9
                        rw [ht9] at c1
                        rw [show decide (l[k4] ∈ m) = false by simp [hmem]] at HMB
                        generalize l[k4] = y at *
                        generalize F[k4] = f9 at *
                        clear hca hct hcf hmem ht9 hk5 hk6 hTl hFl
                        go_wp2_with fail
                        go_quiet (first | (go_at_call 55; refine Calls.quiet_of_same (HMB.out _)))
                        go_wp2_with fail
                        go_roundw
                        case rel => exact ⟨k4 + 1, by omega, by go_num, below_drewN HBR.out _⟩
                        case measure => simp [intOf]; omega
                    · have HBW : Hid (Below w.heap.size w wr) := HQ.out.trans (HBR.out.mono HQ.out.size)
                      go_wp2_with fail
                      refine (works_true wr).mono ?_
                      rintro e w9 ⟨rfl, b9⟩
                      go_wp2_with fail
                      go_ret
                      exact ⟨rfl, HBW.out.trans (b9.mono HBW.out.size)⟩
    · have HL1 := Lib.hid hl
      have hk2 := check_any hm cap'
      have hne2 : (chkErr m != 0) = true := by rw [bne_iff_ne]; exact hl2
      rw [hl] at hk1
      have HB := Lib.hid hm
      clear h hm hl hl2
      go_enter Try.func9, Try.ntmps9
      go_wp2_with fail
      refine hk1.mono ?_
      rintro e W0 ⟨rfl, b1⟩
      have hk2 := check_any (HB.out.keep b1) cap'
      go_wp2_with fail
      refine hk2.mono ?_
      rintro e W1 ⟨rfl, b2⟩
      clear hk1 hk2
      go_wp2_with fail
      refine (works_true W1).mono ?_
      rintro e w9 ⟨rfl, b9⟩
      have b3 := b1.trans (b2.mono b1.size)
      go_wp2_with fail
      go_ret
      exact ⟨rfl, b3.trans (b9.mono b3.size)⟩
  · have hne2 : (chkErr l != 0) = true := by rw [bne_iff_ne]; exact hl
    clear h hm hl
    go_enter Try.func9, Try.ntmps9
    go_wp2_with fail
    refine hk1.mono ?_
    rintro e W0 ⟨rfl, b1⟩
    clear hk1
    go_wp2_with fail
    refine (works_true W0).mono ?_
    rintro e w9 ⟨rfl, b9⟩
    go_wp2_with fail
    go_ret
    exact ⟨rfl, b1.trans (b9.mono b1.size)⟩
end Go.Proofs.Ytoloiingodigpaa
