import Derived.Test.YtoloiingodigpaaGJ
namespace Go.Proofs.Ytoloiingodigpaa
open Go.RowKit Go.Shelf
attribute [local go_sem] Oper.semAt_some litE
set_option maxRecDepth 100000
set_option maxHeartbeats 2000000

theorem index_any {w : World} {a : Option Addr} {l : List Int} (h : Ints w a l) (cap : Nat) (x : Int) :
    Calls Try.prog 75 #[.slice a l.length cap, .int .i64 x] w fun e w' => e = .returned (.int .i64 (idxL l x)) ∧ w = w' := by
  have hlen := h.len
  go_enter Try.func75, Try.ntmps75
  go_wp2_with fail
  go_loop [8] (fun i => ∃ k : Nat, k ≤ l.length ∧ i = .int .i64 k ∧ Hid (idxGo k (l.drop k) x = idxL l x)) (fun i => l.length - (intOf i).toNat)
  case atStart => exact ⟨0, Nat.zero_le _, rfl, rfl⟩
  case round =>
    obtain ⟨k, hk, rfl, HE⟩ := hrel
    by_cases hlt : k < l.length
    · obtain ⟨g, off, rfl, hc⟩ := h.at_ (ne_nil_of_lt hlt)
      have c0 := hc k hlt
      have HC : Hid (idxGo k (l.drop k) x = if l[k] = x then (k : Int) else idxGo (k + 1) (l.drop (k + 1)) x) := by
        show _ = _; rw [List.drop_eq_getElem_cons hlt]; rfl
      generalize l[k] = y at *
      clear hc h
      by_cases hy : y = x
      · subst hy
        have HN : Hid (idxL l y = k) := by show _ = _; rw [← HE.out, HC.out, if_pos rfl]
        clear HE HC
        go_wp2_with fail
        go_ret
        rw [HN.out]
        exact ⟨rfl, rfl⟩
      · have HN : Hid (idxGo (k + 1) (l.drop (k + 1)) x = idxL l x) := by show _ = _; rw [← HE.out, HC.out, if_neg hy]
        have hb : (x == y) = false := beq_eq_false_iff_ne.2 (Ne.symm hy)
        clear HE HC
        go_wp2_with fail
        go_round
        case rel => exact ⟨k + 1, by omega, by go_num, HN⟩
        case measure => simp [intOf]; omega
    · have HN : Hid (idxL l x = -1) := by show _ = _; rw [← HE.out, drop_end hlt]; rfl
      clear HE
      go_wp2_with fail
      go_ret
      rw [HN.out]
      exact ⟨rfl, rfl⟩

/-- where one rank is in the other group -/
def trOne (a b : List Int) (r : Int) : Int := if r = -2 then -2 else if idxL b (a.getD r.toNat 0) < 0 then -2 else idxL b (a.getD r.toNat 0)
def trBad (a : List Int) (r : Int) : Bool := decide (r ≠ -2) && (decide (r < 0) || decide ((a.length : Int) ≤ r))
def trE (a b rs : List Int) : Int := if pairErr a b = 0 then (if rs.any (trBad a) then 11 else 0) else pairErr a b
def trV (a b rs : List Int) : List Int := if trE a b rs = 0 then rs.map (trOne a b) else []

def fillM (f : Int → Int) (rs : List Int) (k : Nat) : List Int := (rs.take k).map f ++ List.replicate (rs.length - k) 0
theorem fillM_len (f : Int → Int) (rs : List Int) (k : Nat) (h : k ≤ rs.length) : (fillM f rs k).length = rs.length := by simp [fillM]; omega
theorem fillM_zero (f : Int → Int) (rs : List Int) : fillM f rs 0 = List.replicate rs.length 0 := by simp [fillM]
theorem fillM_all (f : Int → Int) (rs : List Int) : fillM f rs rs.length = rs.map f := by simp [fillM]
theorem fillM_set (f : Int → Int) (rs : List Int) (k : Nat) (h : k < rs.length) : (fillM f rs k).set k (f rs[k]) = fillM f rs (k + 1) := by
  have e : rs.length - k = (rs.length - (k + 1)) + 1 := by omega
  unfold fillM
  rw [e, List.replicate_succ, List.set_append_right _ _ (by simp; omega)]
  have e2 : (rs.take (k + 1)).map f = (rs.take k).map f ++ [f rs[k]] := by
    rw [List.take_succ_eq_append_getElem h, List.map_append]; rfl
  rw [e2]
  have e3 : k - ((List.take k rs).map f).length = 0 := by simp; omega
  rw [e3]
  simp

theorem Translate_any {w : World} {a b c : Option Addr} {l r m : List Int} (h : Ints w a l) (hr : Ints w b r) (hm : Ints w c m) (cap cap1 cap' : Nat) :
    Calls Try.prog 30 #[.slice a l.length cap, .slice b r.length cap1, .slice c m.length cap'] w fun e w' => ∃ v, e = .returned (.tuple #[v, .int .i64 (trE l m r)]) ∧ NewInts w.heap.size w' v (trV l m r) ∧ Below w.heap.size w w' := by
  have hlen := h.len
  have hlen2 := hr.len
  have hlen3 := hm.len
  by_cases he : pairErr l m = 0
  · have hpr := chkErr_procs (pairErr_zero he).1
    have HE := Lib.hid he
    have HPE := Lib.hid (pairF_ok (l := m) he)
    have HTE : Hid (trE l m r = if r.any (trBad l) then 11 else 0) := by show _ = _; unfold trE; rw [if_pos he]
    go_enter Try.func30, Try.ntmps30
    go_wp2_with fail
    refine (groupSets_any h hm cap cap').mono ?_
    rintro e X ⟨rfl, hb⟩
    have A0 := Lib.hid (h.keep hb)
    have A1 := Lib.hid (hm.keep hb)
    have A2 := Lib.hid (hr.keep hb)
    have hzX := hb.size
    rw [he, pairF_ok he, pairF_ok he]
    obtain ⟨S0, S1, hb1, hs1⟩ := two_sets X (inS l) (inS m)
    clear he h hm hr
    have N0 : SetAt ((X.alloc (.cells setE 83)).alloc (.cells setE 83)) X.heap.size (fun _ => false) := (SetAt.new X).alloc _
    have N1 : SetAt ((((X.alloc (.cells setE 83)).alloc (.cells setE 83)).setRow X.heap.size (setA (inS l)))) (X.heap.size + 1) (fun _ => false) := by
      have := SetAt.new (X.alloc (.cells setE 83)); rw [show (X.alloc (.cells setE 83)).heap.size = X.heap.size + 1 by simp] at this; exact this.setRow_other _ (by omega)
    have S1 := Lib.hid S1
    have N0 := Lib.hid N0
    have N1 := Lib.hid N1
    clear S0
    have hmk : ∀ W, (Instr.makeSlice 22 (.int .i64 r.length) (.int .i64 r.length)).run Try.prog W = .ok (.slice (some ⟨W.heap.size, 0, none⟩) r.length r.length) (W.alloc (.cells (rowA (List.replicate r.length 0)) 3)) := fun W => make_ints r.length hlen2 W
    go_wp2_with (first
      | (refine wpList_store_row rfl 83 _ _ rfl X.heap.size (setA (inS l)) rfl rfl 83 _ N0.out (by rw [setA_size]; exact Try.info83) (by simp) (setA_one _) ?_)
      | (refine wpList_store_row rfl 83 _ _ rfl (X.heap.size + 1) (setA (inS m)) rfl rfl 83 _ N1.out (by rw [setA_size]; exact Try.info83) (by simp) (setA_one _) ?_))
    generalize (((X.alloc (.cells setE 83)).alloc (.cells setE 83)).setRow X.heap.size (setA (inS l))).setRow (X.heap.size + 1) (setA (inS m)) = Y at *
    have hzY : w.heap.size ≤ Y.heap.size := by omega
    have BY : Hid (Below w.heap.size w Y) := hb.trans (hb1.mono hzX)
    have A0 := Lib.hid (A0.out.keep hb1)
    have A1 := Lib.hid (A1.out.keep hb1)
    have A2 := Lib.hid (A2.out.keep hb1)
    have R0 : Hid (RowAt (Y.alloc (.cells (rowA (List.replicate r.length 0)) 3)) (X.heap.size + 2) (fillM (trOne l m) r 0)) := by
      show RowAt _ _ _
      rw [fillM_zero, ← hs1]; exact heap_alloc_new Y _
    have b0 : Below Y.heap.size Y (Y.alloc (.cells (rowA (List.replicate r.length 0)) 3)) := (Below.refl _ _).alloc (Nat.le_refl _) _
    have HZ : Hid (Y.heap.size = X.heap.size + 2) := hs1
    generalize Y.alloc (.cells (rowA (List.replicate r.length 0)) 3) = Y2 at *
    have b0 := Lib.hid b0
    clear hmk N0 N1 hb hb1 hzX hs1
    go_loopw [29] (fun i wr => ∃ k : Nat, k ≤ r.length ∧ i = .int .i64 k ∧ Hid ((r.drop k).any (trBad l) = r.any (trBad l)) ∧ Hid (RowAt wr (X.heap.size + 2) (fillM (trOne l m) r k)) ∧ Hid (Below Y.heap.size Y wr)) (fun i _ => r.length - (intOf i).toNat)
    case atStart => exact ⟨0, Nat.zero_le _, rfl, rfl, R0, b0⟩
    case round =>
      obtain ⟨k, hk, rfl, HA, HR, HB⟩ := hrel
      by_cases hlt : k < r.length
      · obtain ⟨gb, ob, rfl, hcb⟩ := (A2.out.keep HB.out).at_ (ne_nil_of_lt hlt)
        have c1 := hcb k hlt
        have HAC : Hid ((r.drop k).any (trBad l) = (trBad l r[k] || (r.drop (k + 1)).any (trBad l))) := by
          show _ = _; rw [List.drop_eq_getElem_cons hlt]; rfl
        have HST := Lib.hid (HR.out.set k (trOne l m r[k]))
        rw [fillM_set (trOne l m) r k hlt] at HST
        have c3 := HR.out.cell k (by rw [fillM_len _ r k hk]; exact hlt)
        have hfz := HR.out.open_ k
        have hltg := HR.out.lt
        generalize (fillM (trOne l m) r k)[k]'_ = z at *
        generalize r[k] = x at *
        clear hcb
        have HB2 : ∀ v, Hid (Below Y.heap.size Y (World.setCell _ ⟨X.heap.size + 2, k, none⟩ v)) := fun v => HB.out.setCell (by have := HZ.out; show _ ≤ X.heap.size + 2; omega) v
        by_cases h2 : x = -2
        · subst h2
          have HN : Hid ((r.drop (k + 1)).any (trBad l) = r.any (trBad l)) := by show _ = _; rw [← HA.out, HAC.out]; simp [trBad]
          have HS := HST.out
          rw [show trOne l m (-2) = -2 by simp [trOne]] at HS
          have HS := Lib.hid HS
          clear HST HA HAC
          go_wp2_with fail
          go_roundw
          case rel => exact ⟨k + 1, by omega, by go_num, HN, HS, HB2 _⟩
          case measure => simp [intOf]; omega
        · have hx2 : (x == -2) = false := beq_eq_false_iff_ne.2 h2
          by_cases h3 : x < 0
          · have HN : Hid (r.any (trBad l) = true) := by show _ = _; rw [← HA.out, HAC.out]; simp [trBad, h2, h3]
            have HT : Hid (trE l m r = 11) := by show _ = _; rw [HTE.out, HN.out, if_pos rfl]
            have HV : Hid (trV l m r = []) := by show _ = _; unfold trV; rw [HT.out, if_neg (by decide)]
            clear HST HA HAC h2
            go_wp2_with fail
            go_ret2
            rw [HT.out, HV.out]
            exact ⟨_, rfl, NewInts.nil _ _, BY.out.trans (HB.out.mono hzY)⟩
          · by_cases h4 : (l.length : Int) ≤ x
            · have HN : Hid (r.any (trBad l) = true) := by show _ = _; rw [← HA.out, HAC.out]; simp [trBad, h2, h4]
              have HT : Hid (trE l m r = 11) := by show _ = _; rw [HTE.out, HN.out, if_pos rfl]
              have HV : Hid (trV l m r = []) := by show _ = _; unfold trV; rw [HT.out, if_neg (by decide)]
              clear HST HA HAC h2
              go_wp2_with fail
              go_ret2
              rw [HT.out, HV.out]
              exact ⟨_, rfl, NewInts.nil _ _, BY.out.trans (HB.out.mono hzY)⟩
            · obtain ⟨xn, rfl⟩ := Int.eq_ofNat_of_zero_le (show 0 ≤ x by omega)
              have hxl : xn < l.length := by omega
              have HN : Hid ((r.drop (k + 1)).any (trBad l) = r.any (trBad l)) := by
                show _ = _; rw [← HA.out, HAC.out]
                have h5 : ¬ ((l.length : Int) ≤ (xn : Int)) := h4
                simp [trBad]; omega
              obtain ⟨ga, oa, rfl, hca⟩ := (A0.out.keep HB.out).at_ (ne_nil_of_lt hxl)
              have c4 := hca xn hxl
              obtain ⟨hy0, hy1⟩ := hpr l[xn] (List.getElem_mem hxl)
              have HF : Hid (trOne l m (xn : Int) = if idxL m l[xn] < 0 then -2 else idxL m l[xn]) := by
                show _ = _; unfold trOne; rw [if_neg h2]
                have : l.getD ((xn : Int)).toNat 0 = l[xn] := by simp [List.getD, hxl]
                rw [this]
              generalize l[xn] = y at *
              obtain ⟨yn, rfl⟩ := Int.eq_ofNat_of_zero_le hy0
              have hyn : yn < 64 := by omega
              have c5 := (S1.out.keep HB.out).cell yn hyn
              have HX := Lib.hid (idxL_mem m (yn : Int))
              have hix := index_any (A1.out.keep HB.out) cap' (yn : Int)
              by_cases hmem : (yn : Int) ∈ m
              · have hin : inS m yn = true := by simp [inS, hmem]
                rw [hin] at c5
                have hge := HX.out.2 hmem
                have HS := HST.out
                rw [HF.out, if_neg (by omega)] at HS
                have HS := Lib.hid HS
                generalize idxL m (yn : Int) = ix at *
                clear HST HA HAC h2 hca hin hmem HF HX
                go_wp2_with (refine hix.mono ?_; rintro e w' ⟨rfl, rfl⟩)
                go_roundw
                case rel => exact ⟨k + 1, by omega, by go_num, HN, HS, HB2 _⟩
                case measure => simp [intOf]; omega
              · have hin : inS m yn = false := by simp [inS, hmem]
                rw [hin] at c5
                have hlt0 : idxL m (yn : Int) < 0 := Int.not_le.1 (fun hh => hmem (HX.out.1 hh))
                have HS := HST.out
                rw [HF.out, if_pos hlt0] at HS
                have HS := Lib.hid HS
                clear HST HA HAC h2 hca hin hmem HF HX hix hlt0
                go_wp2_with fail
                go_roundw
                case rel => exact ⟨k + 1, by omega, by go_num, HN, HS, HB2 _⟩
                case measure => simp [intOf]; omega
      · have hk' : k = r.length := by omega
        have HN : Hid (r.any (trBad l) = false) := by show _ = _; rw [← HA.out, drop_end hlt]; rfl
        have HT : Hid (trE l m r = 0) := by show _ = _; rw [HTE.out, HN.out]; rfl
        have HV : Hid (trV l m r = r.map (trOne l m)) := by show _ = _; unfold trV; rw [HT.out, if_pos rfl]
        have HR2 : Hid (RowAt wr (X.heap.size + 2) (r.map (trOne l m))) := by
          have := HR.out
          rw [hk', fillM_all] at this
          exact this
        clear HA hk'
        go_wp2_with fail
        go_ret2
        rw [HT.out, HV.out]
        have hown := HR2.out.own (B := w.heap.size) (by have := HZ.out; omega) (by simpa using hlen2)
        rw [List.length_map] at hown
        exact ⟨_, rfl, ⟨by have := hown.own; simpa using this, by simpa using hlen2⟩, BY.out.trans (HB.out.mono hzY)⟩
  · have hne2 : (pairErr l m != 0) = true := by rw [bne_iff_ne]; exact he
    have HT : Hid (trE l m r = pairErr l m) := by show _ = _; unfold trE; rw [if_neg he]
    have HV : Hid (trV l m r = []) := by show _ = _; unfold trV; rw [HT.out, if_neg he]
    rw [HT.out, HV.out]
    go_enter Try.func30, Try.ntmps30
    go_wp2_with fail
    refine (groupSets_any h hm cap cap').mono ?_
    rintro e X ⟨rfl, hb⟩
    have hzX := hb.size
    obtain ⟨S0, S1, hb1, hs1⟩ := two_sets X (pairF l m l) (pairF l m m)
    clear h hm hr HT HV
    have N0 : SetAt ((X.alloc (.cells setE 83)).alloc (.cells setE 83)) X.heap.size (fun _ => false) := (SetAt.new X).alloc _
    have N1 : SetAt ((((X.alloc (.cells setE 83)).alloc (.cells setE 83)).setRow X.heap.size (setA (pairF l m l)))) (X.heap.size + 1) (fun _ => false) := by
      have := SetAt.new (X.alloc (.cells setE 83)); rw [show (X.alloc (.cells setE 83)).heap.size = X.heap.size + 1 by simp] at this; exact this.setRow_other _ (by omega)
    clear S0 S1
    have N0 := Lib.hid N0
    have N1 := Lib.hid N1
    go_wp2_with (first
      | (refine wpList_store_row rfl 83 _ _ rfl X.heap.size (setA (pairF l m l)) rfl rfl 83 _ N0.out (by rw [setA_size]; exact Try.info83) (by simp) (setA_one _) ?_)
      | (refine wpList_store_row rfl 83 _ _ rfl (X.heap.size + 1) (setA (pairF l m m)) rfl rfl 83 _ N1.out (by rw [setA_size]; exact Try.info83) (by simp) (setA_one _) ?_))
    go_ret2
    exact ⟨_, rfl, NewInts.nil _ _, hb.trans (hb1.mono hzX)⟩
end Go.Proofs.Ytoloiingodigpaa
