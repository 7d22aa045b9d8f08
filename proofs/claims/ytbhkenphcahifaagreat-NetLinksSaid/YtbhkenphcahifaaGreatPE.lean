import Derived.Test.YtbhkenphcahifaaGreatPD
namespace Go.Proofs.YtbhkenphcahifaaGreat
open Go.RowKit Go.Shelf
attribute [local go_sem] Oper.semAt_some
set_option maxRecDepth 100000
set_option maxHeartbeats 4000000

/-- a pass of cycle, at node i -/
structure Pass (ts : List (List Int)) (bs0 bs : List Bool) (mb : Bool) (i : Nat) : Prop where
  len : bs.length = bs0.length
  le : cntF bs ≤ cntF bs0
  lt : mb = true → cntF bs < cntF bs0
  same : mb = false → bs = bs0 ∧ ∀ j, j < i → bs0.getD j true = false → ∃ k ∈ ts.getD j [], bs0.getD k.toNat true = false
theorem Pass.skip {ts : List (List Int)} {bs0 bs : List Bool} {mb : Bool} {i : Nat} (h : Pass ts bs0 bs mb i) (hg : bs.getD i true = true ∨ ∃ k ∈ ts.getD i [], bs.getD k.toNat true = false) : Pass ts bs0 bs mb (i + 1) :=
  ⟨h.len, h.le, h.lt, fun hm => by
    obtain ⟨rfl, h2⟩ := h.same hm
    refine ⟨rfl, fun j hj hb => ?_⟩
    by_cases hji : j < i
    · exact h2 j hji hb
    · obtain rfl : j = i := by omega
      rcases hg with hg | hg
      · rw [hb] at hg; cases hg
      · exact hg⟩
theorem Pass.go {ts : List (List Int)} {bs0 bs : List Bool} {mb : Bool} {i : Nat} (h : Pass ts bs0 bs mb i) (hi : i < bs.length) (hg : bs.getD i true = false) : Pass ts bs0 (bs.set i true) true (i + 1) := by
  have := cntF_set bs i hi hg
  have := h.le
  exact ⟨by rw [List.length_set]; exact h.len, by omega, fun _ => by omega, fun hm => by cases hm⟩

theorem cycle_any {rk : N3 → Nat} {F : Nat → Prop} {lo B q : Nat} {ns : List N3} {ts : List (List Int)} {nv tv : Value} {us : List Value} {w : World} (h : Wt F lo B ns ts nv tv us w) (hG : Good rk q ns ts) (hq : q ≤ 1000000000) :
    Calls Tryz.prog 39 #[.pointer (some ⟨B, 0, none⟩)] w fun e w' => e = .returned (.bool false) ∧ Below w.heap.size w w' := by
  obtain ⟨na, ncap, rfl, _⟩ := h.nodes
  obtain ⟨x, cT, rfl, hlist⟩ := h.lists (fun i => by have := hG.tb i; omega)
  have hnb := hG.nb
  have b0 := cellR 0 h.box rfl
  have b1 := cellR 1 h.box rfl
  have HBl : Hid (B < w.heap.size) := (h.lt _ h.fB).2
  have HG := Lib.hid hG
  have H0 : Hid (∀ W, Below w.heap.size w W → W.cell? ⟨B, 0, none⟩ = some (.slice na ns.length ncap) ∧ W.cell? ⟨B, 1, none⟩ = some (.slice x ts.length cT)) := fun W hb => ⟨kcell hb b0, kcell hb b1⟩
  have HT : Hid (∀ W, Below w.heap.size w W → ∀ m, m < ns.length → ∃ gT a c, x = some ⟨gT, 0, none⟩ ∧ W.cell? ⟨gT, m, none⟩ = some (.slice a (ts.getD m []).length c) ∧ Ints W a (ts.getD m []) ∧ (ts.getD m []).length ≤ 1000000000) := fun W hb m hm => by
    obtain ⟨gT, a, c, h1, h2, h3⟩ := hlist m (by rw [hG.len]; exact hm)
    exact ⟨gT, a, c, h1, kcell hb h2, h3.keep hb, by have := hG.tb m; omega⟩
  have HK : Hid (∀ m k, m < ns.length → k ∈ ts.getD m [] → ∃ j : Nat, k = (j : Int) ∧ j < ns.length) := fun m k hm hk => by
    obtain ⟨j, h1, h2, _⟩ := hG.up m k (by rw [hG.len]; exact hm) hk
    exact ⟨j, h1, h2⟩
  have HGO : Hid (∀ bs0 bs : List Bool, Pass ts bs0 bs false ns.length → ∀ j, j < ns.length → bs.getD j true = true) := fun bs0 bs hp => by
    obtain ⟨rfl, h2⟩ := hp.same rfl
    exact all_gone hG h2
  rw [hG.len] at b0 b1 H0
  obtain ⟨n, hn⟩ : ∃ n, n = ns.length := ⟨_, rfl⟩
  have hmk := make_bools n (by omega)
  rw [← hn] at hnb b0 b1 H0 HT HK HGO
  have hn9 : n ≤ 1000000000 := by omega
  clear h hlist hG hnb hq hn HG
  have hba : BAt (w.alloc (.cells (boolA (List.replicate n false)) 4)) w.heap.size (List.replicate n false) := heap_alloc_new w _
  have HB0 : Hid (∃ bs, bs.length = n ∧ BAt (w.alloc (.cells (boolA (List.replicate n false)) 4)) w.heap.size bs) := ⟨_, by simp, hba⟩
  have HX := Lib.hid ((Below.refl w.heap.size w).alloc (Nat.le_refl _) (.cells (boolA (List.replicate n false)) 4))
  obtain ⟨g, hg⟩ : ∃ g, g = w.heap.size := ⟨_, rfl⟩
  have HGS := Lib.hid hg
  clear hba
  go_enter Tryz.func39, Tryz.ntmps39
  go_wp2_with fail
  rw [← hg] at HB0 HX H0 HT ⊢
  clear hmk b0 b1 hg
  generalize w.alloc (.cells (boolA (List.replicate n false)) 4) = X at *
  go_loopw [4] (fun mv wr => ∃ (mb : Bool) (bs : List Bool), mv = .bool mb ∧ Hid (bs.length = n ∧ BAt wr g bs ∧ Below g w wr ∧ (mb = false → ∀ j, j < n → bs.getD j true = true))) (fun mv wr => cntW g wr + (match mv with | .bool true => 1 | _ => 0))
  case atStart =>
    obtain ⟨bs, h1, h2⟩ := HB0.out
    exact ⟨true, bs, rfl, h1, h2, HX.out, fun h => by cases h⟩
  case round =>
    clear HB0 HX
    obtain ⟨mb, bs0, rfl, HI⟩ := hrel
    cases mb with
    | false =>
      go_wp2_with fail
      go_loop [8] (fun iv => ∃ (i : Nat), i ≤ n ∧ iv = .int .i64 (i : Int)) (fun iv => n - (intOf iv).toNat)
      case atStart => exact ⟨0, Nat.zero_le _, rfl⟩
      case round =>
        obtain ⟨i, hi, rfl⟩ := hrel
        obtain ⟨hlen, hba, hbl, hall⟩ := HI.out
        by_cases hlt : i < n
        · have e0 := hba.cell i (by omega)
          rw [hall (by first | rfl | trivial) i hlt] at e0
          clear hlen hba hbl hall
          go_wp2_with fail
          go_round
          case rel => exact ⟨i + 1, by omega, by go_num⟩
          case measure => simp [intOf]; omega
        · have HBW : Hid (Below w.heap.size w wr) := HGS.out ▸ hbl
          clear hlen hba hbl hall
          go_wp2_with fail
          go_ret
          exact ⟨rfl, HBW.out⟩
    | true =>
      have HP : Hid (bs0.length = n ∧ BAt wr g bs0 ∧ Below g w wr ∧ Pass ts bs0 bs0 false 0 ∧ cntW g wr = cntF bs0) := by
        obtain ⟨h1, h2, h3, _⟩ := HI.out
        exact ⟨h1, h2, h3, ⟨rfl, Nat.le_refl _, (fun h => by cases h), fun _ => ⟨rfl, fun j hj => by omega⟩⟩, cntW_at h2⟩
      obtain ⟨wo, rfl⟩ : ∃ wo, wo = wr := ⟨_, rfl⟩
      clear HI
      go_wp2_with fail
      go_loopw [4, 5] (fun mv iv wr => ∃ (i : Nat) (mb : Bool) (bs : List Bool), i ≤ n ∧ iv = .int .i64 (i : Int) ∧ mv = .bool mb ∧ Hid (BAt wr g bs ∧ Below g w wr ∧ bs0.length = n ∧ Pass ts bs0 bs mb i ∧ cntW g wo = cntF bs0)) (fun _ iv _ => n - (intOf iv).toNat)
      case atStart => exact ⟨0, false, bs0, Nat.zero_le _, rfl, rfl, HP.out.2.1, HP.out.2.2.1, HP.out.1, HP.out.2.2.2.1, HP.out.2.2.2.2⟩
      case round =>
        clear HP
        obtain ⟨i, mb, bs, hi, rfl, rfl, HI⟩ := hrel
        have HBW : Hid (Below w.heap.size w wr) := HGS.out ▸ HI.out.2.1
        obtain ⟨b0, b1⟩ := H0.out wr HI.out.2.1
        by_cases hlt : i < n
        · have hbs : bs.length = n := HI.out.2.2.2.1.len.trans HI.out.2.2.1
          have e0 := HI.out.1.cell i (by omega)
          have f0 := HI.out.1.open_ i
          have l0 := HI.out.1.lt
          cases hgn : bs.getD i true with
          | true =>
            rw [hgn] at e0
            have HN : Hid (BAt wr g bs ∧ Below g w wr ∧ bs0.length = n ∧ Pass ts bs0 bs mb (i + 1) ∧ cntW g wo = cntF bs0) := ⟨HI.out.1, HI.out.2.1, HI.out.2.2.1, HI.out.2.2.2.1.skip (.inl hgn), HI.out.2.2.2.2⟩
            clear hgn hbs f0 l0
            go_wp2_with fail
            go_roundw
            case rel => exact ⟨i + 1, mb, bs, by omega, by go_num, rfl, HN⟩
            case measure => simp [intOf]; omega
          | false =>
            rw [hgn] at e0
            obtain ⟨gT, a, c, rfl, c1, hin, hlen⟩ := HT.out wr HI.out.2.1 i hlt
            have HKI := Lib.hid (fun k hk => HK.out i k hlt hk)
            have HIN := Lib.hid hin
            have HGN := Lib.hid hgn
            have HBS := Lib.hid hbs
            have HTI : Hid (∃ tl, tl = ts.getD i []) := ⟨_, rfl⟩
            obtain ⟨tl, htl⟩ := HTI.out
            rw [← htl] at c1 hlen HIN HKI
            have HTL := Lib.hid htl
            clear hin hgn hbs htl HTI
            obtain ⟨L, hL⟩ : ∃ L, L = tl.length := ⟨_, rfl⟩
            have HL := Lib.hid hL
            rw [← hL] at c1 hlen
            clear hL
            go_wp2_with fail
            go_loop [6, 7] (fun wv kv => ∃ (k : Nat), k ≤ L ∧ kv = .int .i64 (k : Int) ∧ wv = .bool ((tl.take k).any fun v => !(bs.getD v.toNat true))) (fun _ kv => L - (intOf kv).toNat)
            case atStart => exact ⟨0, Nat.zero_le _, rfl, rfl⟩
            case round =>
              obtain ⟨k, hk, rfl, rfl⟩ := hrel
              by_cases hkl : k < L
              · have hk1 : k < tl.length := by rw [← HL.out]; exact hkl
                obtain ⟨ga, oa, rfl, hca⟩ := HIN.out.at_ (ne_nil_of_lt hk1)
                have c2 := hca k hk1
                obtain ⟨m, hm, hmn⟩ := HKI.out tl[k] (List.getElem_mem hk1)
                have HS : Hid ((tl.take (k + 1)).any (fun v => !(bs.getD v.toNat true)) = ((tl.take k).any (fun v => !(bs.getD v.toNat true)) || !(bs.getD m true))) := by
                  show _ = _
                  rw [List.take_succ_eq_append_getElem hk1, List.any_append, hm]
                  simp
                rw [hm] at c2
                have e1 := HI.out.1.cell m (by rw [HBS.out]; exact hmn)
                clear hca hm hk1
                generalize bs.getD m true = bm at *
                cases hwt : (tl.take k).any (fun v => !(bs.getD v.toNat true)) with
                | true =>
                  have HS2 : Hid ((tl.take (k + 1)).any (fun v => !(bs.getD v.toNat true)) = true) := by show _ = _; rw [HS.out, hwt]; simp
                  clear HS hwt
                  go_wp2_with fail
                  go_round
                  case rel => exact ⟨k + 1, by omega, by go_num, by rw [HS2.out]⟩
                  case measure => simp [intOf]; omega
                | false =>
                  have HS2 : Hid ((tl.take (k + 1)).any (fun v => !(bs.getD v.toNat true)) = !bm) := by show _ = _; rw [HS.out, hwt]; simp
                  clear HS hwt
                  cases bm with
                  | true =>
                    go_wp2_with fail
                    go_round
                    case rel => exact ⟨k + 1, by omega, by go_num, by rw [HS2.out]; rfl⟩
                    case measure => simp [intOf]; omega
                  | false =>
                    go_wp2_with fail
                    go_round
                    case rel => exact ⟨k + 1, by omega, by go_num, by rw [HS2.out]; rfl⟩
                    case measure => simp [intOf]; omega
              · have hkL : k = tl.length := by rw [← HL.out]; omega
                have HA : Hid ((tl.take k).any (fun v => !(bs.getD v.toNat true)) = tl.any (fun v => !(bs.getD v.toNat true))) := by show _ = _; rw [hkL, List.take_length]
                rw [HA.out]
                clear hkL HA HIN
                cases hwt : tl.any (fun v => !(bs.getD v.toNat true)) with
                | true =>
                  have HN : Hid (BAt wr g bs ∧ Below g w wr ∧ bs0.length = n ∧ Pass ts bs0 bs mb (i + 1) ∧ cntW g wo = cntF bs0) := by
                    obtain ⟨v, hv, hb⟩ := List.any_eq_true.1 hwt
                    exact ⟨HI.out.1, HI.out.2.1, HI.out.2.2.1, HI.out.2.2.2.1.skip (.inr ⟨v, by rw [← HTL.out]; exact hv, by simpa using hb⟩), HI.out.2.2.2.2⟩
                  clear hwt
                  go_wp2_with fail
                  go_roundw
                  case rel => exact ⟨i + 1, mb, bs, by omega, by go_num, rfl, HN⟩
                  case measure => simp [intOf]; omega
                | false =>
                  have HN : Hid (BAt (wr.setCell ⟨g, i, none⟩ (.bool true)) g (bs.set i true) ∧ Below g w (wr.setCell ⟨g, i, none⟩ (.bool true)) ∧ bs0.length = n ∧ Pass ts bs0 (bs.set i true) true (i + 1) ∧ cntW g wo = cntF bs0) :=
                    ⟨HI.out.1.set i true, HI.out.2.1.setCell (p := ⟨g, i, none⟩) (Nat.le_refl _) _, HI.out.2.2.1, HI.out.2.2.2.1.go (by rw [HBS.out]; exact hlt) HGN.out, HI.out.2.2.2.2⟩
                  clear hwt
                  go_wp2_with fail
                  go_roundw
                  case rel => exact ⟨i + 1, true, _, by omega, by go_num, rfl, HN⟩
                  case measure => simp [intOf]; omega
        · have hin : i = n := by omega
          have HN : Hid (bs.length = n ∧ BAt wr g bs ∧ Below g w wr ∧ (mb = false → ∀ j, j < n → bs.getD j true = true)) := by
            refine ⟨HI.out.2.2.2.1.len.trans HI.out.2.2.1, HI.out.1, HI.out.2.1, fun hm => ?_⟩
            subst hm
            subst hin
            exact HGO.out _ _ HI.out.2.2.2.1
          have HM : Hid (cntW g wr + (match (Value.bool mb) with | .bool true => 1 | _ => 0) < cntW g wo + 1) := by
            show _ < _
            rw [HI.out.2.2.2.2, cntW_at HI.out.1]
            have h1 := HI.out.2.2.2.1.le
            have h2 := HI.out.2.2.2.1.lt
            cases mb with
            | true => have := h2 rfl; simp; omega
            | false => simp; omega
          clear HI hin
          go_wp2_with fail
          go_roundw
          case rel => exact ⟨mb, bs, rfl, HN⟩
          case measure => exact HM.out
end Go.Proofs.YtbhkenphcahifaaGreat
