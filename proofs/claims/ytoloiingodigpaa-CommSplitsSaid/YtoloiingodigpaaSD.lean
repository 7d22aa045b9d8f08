import Derived.Test.YtoloiingodigpaaSC
import Derived.Test.YtoloiingodigpaaAC
namespace Go.Proofs.Ytoloiingodigpaa
open Go.RowKit Go.Shelf Go.Lib
attribute [local go_sem] Oper.semAt_some litE
set_option maxRecDepth 100000
set_option maxHeartbeats 1000000

/-- what the walk of a swap wants -/
theorem St.swap_facts {w0 W : World} {L : List Int} (h : St w0 L W) (i j : Nat) (hi : i < L.length) (hj : j < L.length) (hij : i ≠ j) :
    W.cell? ⟨w0.heap.size, i, none⟩ = some (.int .i64 (L.getD i 0)) ∧ W.cell? ⟨w0.heap.size, j, none⟩ = some (.int .i64 (L.getD j 0)) ∧
    W.frozen? ⟨w0.heap.size, i, none⟩ = false ∧ W.frozen? ⟨w0.heap.size, j, none⟩ = false ∧
    (W.setCell ⟨w0.heap.size, i, none⟩ (.int .i64 (L.getD j 0))).cell? ⟨w0.heap.size, j, none⟩ = some (.int .i64 (L.getD j 0)) ∧
    St w0 (swapL L i j) ((W.setCell ⟨w0.heap.size, i, none⟩ (.int .i64 (L.getD j 0))).setCell ⟨w0.heap.size, j, none⟩ (.int .i64 (L.getD i 0))).drew ∧
    ∀ q, St w0 (swapL L i j) (((W.drewN q).setCell ⟨w0.heap.size, i, none⟩ (.int .i64 (L.getD j 0))).setCell ⟨w0.heap.size, j, none⟩ (.int .i64 (L.getD i 0))) := by
  refine ⟨h.cell i hi, h.cell j hj, h.open_ i, h.open_ j, ?_, (h.swap i j).drew, fun q => (h.drewN q).swap i j⟩
  have hne : (⟨w0.heap.size, i, none⟩ : Addr) ≠ ⟨w0.heap.size, j, none⟩ := fun e => by have := congrArg Addr.off e; simp at this; omega
  rw [World.cell?_setCell_other (h := hne)]; exact h.cell j hj

/-- the closure compares two ranks by their keys -/
def CmpC (w0 : World) (bb n : Nat) (K : Int → Int) : Prop := ∀ (W : World), Below w0.heap.size w0 W → ∀ x y : Int, 0 ≤ x → x < n → 0 ≤ y → y < n →
  Calls Try.prog 119 #[.int .i64 x, .int .i64 y, .pointer (some ⟨bb, 0, none⟩)] W fun e w' => e = .returned (.int .i64 (cmpZ (K x) (K y))) ∧ ∃ q, w' = W.drewN q
theorem CmpC.at_ {w0 W : World} {bb n : Nat} {K : Int → Int} {L : List Int} (h : CmpC w0 bb n K) (hs : St w0 L W) (x y : Int) (hx : 0 ≤ x ∧ x < n) (hy : 0 ≤ y ∧ y < n) (q : Nat) :
    Calls Try.prog 119 #[.int .i64 x, .int .i64 y, .pointer (some ⟨bb, 0, none⟩)] (W.drewN q) fun e w' => e = .returned (.int .i64 (cmpZ (K x) (K y))) ∧ ∃ m, w' = (W.drewN q).drewN m :=
  h _ (hs.drewN q).2 x y hx.1 hx.2 hy.1 hy.2
theorem cmpZ_lt (x y : Int) : (cmpZ x y < 0) ↔ x < y := by
  unfold cmpZ
  split
  · simpa
  · split
    · simp; omega
    · simp; omega

theorem SL.insert {K : Int → Int} {S1 S2 : List Int} {x : Int} (h : SL K (S1 ++ S2)) (h2 : ∀ y ∈ S2, K x < K y) (hx : ∀ y ∈ S1 ++ S2, y < x) (h1 : ∀ u y, S1 = u ++ [y] → ¬ K x < K y) : SL K (S1 ++ x :: S2) := by
  refine SL.append h.left ?_ ?_
  · exact List.pairwise_cons.2 ⟨fun y hy => .inl (h2 y hy), h.right⟩
  · intro a ha b hb
    rcases List.mem_cons.1 hb with rfl | hb
    · rcases List.eq_nil_or_concat S1 with e | ⟨u, z, e⟩
      · subst e; cases ha
      · have e' : S1 = u ++ [z] := by simpa using e
        have h3 := h1 u z e'
        have h4 : K a ≤ K z := by
          have h0 := h.left
          rw [e'] at h0 ha
          exact h0.le_last a ha
        have h5 := hx a (List.mem_append_left _ ha)
        by_cases e3 : K a = K b
        · exact .inr ⟨e3, h5⟩
        · exact .inl (by omega)
    · exact h.cross a ha b hb

/-- insertion sort of a range whose ranks ascend -/
theorem insertion_any (w0 : World) (bb n : Nat) (K : Int → Int) (hC : CmpC w0 bb n K) (P A Q : List Int) (a b N : Nat) (hP : Hid (P.length = a)) (hA : Hid (P.length + A.length = b)) (hL : Hid ((P ++ A ++ Q).length = N)) (hN : N ≤ 64)
    (hpw : A.Pairwise (· < ·)) (hin : ∀ x ∈ A, 0 ≤ x ∧ x < n) (W : World) (h : St w0 (P ++ A ++ Q) W) :
    Calls Try.prog 145 #[.slice (some ⟨w0.heap.size, 0, none⟩) N N, .int .i64 a, .int .i64 b, .func (.func 119) #[] #[.pointer (some ⟨bb, 0, none⟩)]] W fun e w' => e = .returned (.tuple #[]) ∧ ∃ S, SL K S ∧ S.Perm A ∧ St w0 (P ++ S ++ Q) w' := by
  have hb : a ≤ b ∧ b ≤ N := by
    have h3 := hP.out; have h4 := hA.out; have h5 := hL.out
    simp at h5
    omega
  obtain ⟨hab, hbN⟩ := hb
  have H := Lib.hid h
  have HPW := Lib.hid hpw
  have HIN := Lib.hid hin
  have HC := Lib.hid hC
  clear h hpw hin hC
  have mixed : Try.prog.follows Departure.mixedOrders = true := by kernel_rfl
  have t0 := Try.underlying0; have a0 := Try.isAgg0; have z0 := Try.sizeOf0; have v0 := Try.zeroValue0
  have t3 := Try.underlying3; have a3 := Try.isAgg3; have z3 := Try.sizeOf3; have v3 := Try.zeroValue3
  have t22 := Try.underlying22; have u22 := run_underlying Try.underlying22
  go_enter Try.func145, Try.ntmps145
  go_wp2_with fail
  go_loopw [8] (fun i wr => ∃ (x : Nat) (A1 S A2 : List Int), i = .int .i64 x ∧ a + 1 ≤ x ∧ Hid (A = A1 ++ A2) ∧ Hid (S.Perm A1) ∧ Hid (SL K S) ∧ Hid (a + A1.length = x ∨ A = []) ∧ Hid (St w0 (P ++ S ++ A2 ++ Q) wr)) (fun i _ => b + 1 - (intOf i).toNat)
  case atStart =>
    cases A with
    | nil => exact ⟨a + 1, [], [], [], by go_num, Nat.le_refl _, rfl, List.Perm.refl _, List.Pairwise.nil, .inr rfl, by show St _ _ _; simpa using H.out⟩
    | cons z A' => exact ⟨a + 1, [z], [z], A', by go_num, Nat.le_refl _, rfl, List.Perm.refl _, by show SL K [z]; unfold SL; simp, .inl rfl, by show St _ _ _; simpa using H.out⟩
  case round =>
    obtain ⟨x, A1, S, A2, rfl, hax, hA12, hSp, hSS, hx, hS⟩ := hrel
    have hlA : A.length = b - a := by have := hA.out; have := hP.out; omega
    have hl12 : A1.length + A2.length = b - a := by rw [← hlA, hA12.out]; simp
    by_cases hxb : x < b
    · have hx1 : a + A1.length = x := by
        rcases hx.out with h | h
        · exact h
        · rw [h] at hlA; simp at hlA; omega
      obtain ⟨z, A3, rfl⟩ : ∃ z A3, A2 = z :: A3 := by
        cases A2 with
        | nil => simp at hl12; omega
        | cons z A3 => exact ⟨z, A3, rfl⟩
      have hSl : a + S.length = x := by rw [hSp.out.length_eq]; exact hx1
      have hzin : 0 ≤ z ∧ z < n := HIN.out z (by rw [hA12.out]; simp)
      have HZ : Hid (∀ y ∈ S, y < z) := by
        show ∀ y ∈ S, y < z
        intro y hy
        have h1 := HPW.out
        rw [hA12.out] at h1
        exact (List.pairwise_append.1 h1).2.2 y (hSp.out.subset hy) z (by simp)
      have HSin : Hid (∀ y ∈ S, 0 ≤ y ∧ y < n) := fun y hy => HIN.out y (by rw [hA12.out]; exact List.mem_append_left _ (hSp.out.subset hy))
      have HX1 := Lib.hid hx1
      have HSl := Lib.hid hSl
      have HlA := Lib.hid hlA
      have Hl12 := Lib.hid hl12
      clear hx1 hSl hlA hl12 hx
      obtain ⟨wo, rfl⟩ : ∃ wo : World, wo = wr := ⟨_, rfl⟩
      go_wp2_with fail
      go_loopw [9] (fun j wr => ∃ (y : Nat) (S1 S2 : List Int), j = .int .i64 y ∧ a ≤ y ∧ y ≤ x ∧ Hid (S = S1 ++ S2) ∧ Hid (a + S1.length = y) ∧ Hid (∀ v ∈ S2, K z < K v) ∧ Hid (St w0 (P ++ S1 ++ z :: S2 ++ A3 ++ Q) wr)) (fun j _ => (intOf j).toNat)
      case atStart => exact ⟨x, S, [], rfl, by omega, Nat.le_refl _, by show _ = _; simp, HSl, by show ∀ v ∈ [], _; simp, by show St _ _ _; simpa using hS.out⟩
      case round =>
        obtain ⟨y, S1, S2, rfl, hay, hyx, hS12, hS1l, hS2, hS'⟩ := hrel
        have hl2 : S1.length + S2.length = A1.length := by
          have h1 := congrArg List.length hS12.out
          have h2 := hSp.out.length_eq
          simp at h1; omega
        by_cases hya : a < y
        · obtain ⟨S0, v, e⟩ : ∃ S0 v, S1 = S0 ++ [v] := by
            rcases List.eq_nil_or_concat S1 with e | ⟨u, v, e⟩
            · have := hS1l.out; rw [e] at this; simp at this; omega
            · exact ⟨u, v, by simpa using e⟩
          subst e
          have hl0 : a + S0.length + 1 = y := by have := hS1l.out; simp at this; omega
          have hv : 0 ≤ v ∧ v < n := HSin.out v (by rw [hS12.out]; simp)
          have hSt : St w0 ((P ++ S0) ++ v :: ([] ++ z :: (S2 ++ A3 ++ Q))) wr := by have := hS'.out; simpa using this
          have l1 : y - 1 = (P ++ S0).length := by have h1 := hP.out; simp; omega
          have l2 : y = (P ++ S0).length + 1 + ([] : List Int).length := by have h1 := hP.out; simp; omega
          have lL : ((P ++ S0) ++ v :: ([] ++ z :: (S2 ++ A3 ++ Q))).length = N := by
            have h1 := hL.out; have h2 := Hl12.out; have h3 := HlA.out
            simp at h1 h2 hl2 ⊢; omega
          obtain ⟨c1, c2, f1, f2, c3, -, hS2'⟩ := hSt.swap_facts y (y - 1) (by omega) (by omega) (by omega)
          have v1 : ((P ++ S0) ++ v :: ([] ++ z :: (S2 ++ A3 ++ Q))).getD (y - 1) 0 = v := getD_mid _ _ _ _ l1
          have v2 : ((P ++ S0) ++ v :: ([] ++ z :: (S2 ++ A3 ++ Q))).getD y 0 = z := by
            rw [← List.cons_append, ← List.append_assoc]; exact getD_mid _ _ _ _ (by rw [l2]; simp; omega)
          rw [swapL_split' _ _ _ _ _ _ _ l1 l2, v1, v2] at hS2'
          rw [v1] at c2 c3
          rw [v2] at c1
          have HCMP := Lib.hid (HC.out.at_ hSt z v hzin hv)
          have HSt := Lib.hid hSt
          clear hSt v1 v2 l1 l2 lL hl2 hS'
          have HS2' : Hid (∀ q, St w0 (P ++ S0 ++ z :: (v :: S2) ++ A3 ++ Q) (((wr.drewN q).setCell ⟨w0.heap.size, y, none⟩ (.int .i64 v)).setCell ⟨w0.heap.size, y - 1, none⟩ (.int .i64 z))) := by
            show ∀ q, St _ _ _
            intro q
            have := hS2' q
            simpa using this
          clear hS2'
          have hgd : decide ((a : Int) < (y : Int)) = true := by simp; omega
          obtain ⟨iN, hiN⟩ : ∃ q, q = y - 1 := ⟨_, rfl⟩
          have ea : ((y : Int) - 1).toNat = iN := by omega
          have pa : (0 : Int) ≤ (y : Int) - 1 := by omega
          have ba : (y : Int) - 1 < (N : Int) := by omega
          have ra : IntKind.i64.wrap ((y : Int) - 1) = (y : Int) - 1 := by rw [IntKind.wrap_i64]; omega
          have bc : (y : Int) < (N : Int) := by omega
          rw [← hiN] at c2 f2 c3 HS2'
          have HIN' := Lib.hid hiN
          clear hiN
          go_wp2_with fail
          go_quiet (first | (go_at_call 119; refine Calls.quiet_of (HCMP.out _)))
          have hd := cmpZ_lt (K z) (K v)
          generalize cmpZ (K z) (K v) = cz at *
          by_cases hz : cz < 0
          · have HK := Lib.hid (hd.1 hz)
            clear hd
            go_wp2_with fail
            go_big_region_o
            have HS4 := Lib.hid (HS2'.out (nq + 1))
            have HIq := HIN'.out
            clear c1 c2 c3 f1 f2 HSt HCMP HS2'
            generalize (((wr.drewN (nq + 1)).setCell ⟨w0.heap.size, y, none⟩ (.int .i64 v)).setCell ⟨w0.heap.size, iN, none⟩ (.int .i64 z)) = w2 at HS4 ⊢
            clear ea
            go_wp2_with fail
            go_roundw
            case rel =>
              refine ⟨y - 1, S0, v :: S2, by go_num, by omega, by omega, by show _ = _; rw [hS12.out]; simp, by show _ = _; omega, ?_, HS4.out⟩
              show ∀ u ∈ v :: S2, K z < K u
              intro u hu
              rcases List.mem_cons.1 hu with rfl | hu
              · exact HK.out
              · exact hS2.out u hu
            case measure => simp [intOf]; omega
          · have HK : Hid (¬ K z < K v) := fun h => hz (hd.2 h)
            clear hd
            go_wp2_with fail
            go_roundw
            case rel =>
              refine ⟨x + 1, A1 ++ [z], (S0 ++ [v]) ++ z :: S2, A3, by go_num, by omega, by show _ = _; rw [hA12.out]; simp, ?_, ?_, .inl (by have := HX1.out; simp; omega), ?_⟩
              · show _
                have h1 := hSp.out
                rw [hS12.out] at h1
                exact (List.perm_middle).trans ((List.Perm.cons z h1).trans (by simpa using (List.perm_append_comm (l₁ := [z]) (l₂ := A1))))
              · have h1 := hSS.out
                rw [hS12.out] at h1
                refine SL.insert h1 hS2.out (by rw [← hS12.out]; exact HZ.out) ?_
                intro u q e
                have := List.append_inj' e rfl
                simp at this
                rw [← this.2]; exact HK.out
              · show St _ _ _
                have := HSt.out.drewN nq
                simpa using this
            case measure => simp [intOf]; omega
        · have hya' : y = a := by omega
          subst hya'
          have hgd : decide ((y : Int) < (y : Int)) = false := by simp
          go_wp2_with fail
          go_quiet (fail)
          go_wp2_with fail
          go_roundw
          case rel =>
            have e1 : S1 = [] := List.length_eq_zero_iff.1 (by have := hS1l.out; omega)
            subst e1
            refine ⟨x + 1, A1 ++ [z], z :: S2, A3, by go_num, by omega, by show _ = _; rw [hA12.out]; simp, ?_, ?_, .inl (by have := HX1.out; simp; omega), ?_⟩
            · show _
              have h1 := hSp.out
              rw [hS12.out] at h1
              exact (List.Perm.cons z h1).trans (by simpa using (List.perm_append_comm (l₁ := [z]) (l₂ := A1)))
            · have h1 := hSS.out
              rw [hS12.out] at h1
              have h2 := SL.insert (S1 := []) (x := z) h1 hS2.out (by rw [← hS12.out]; exact HZ.out) (fun u q e => by simp at e)
              exact h2
            · show St _ _ _
              have := hS'.out.drewN nq
              simpa using this
          case measure => simp [intOf]; omega
    · have HE : Hid (A2 = []) := by
        show A2 = []
        rcases hx.out with h | h
        · exact List.length_eq_zero_iff.1 (by omega)
        · rw [h] at hA12
          have := congrArg List.length hA12.out
          simp at this
          exact List.length_eq_zero_iff.1 (by omega)
      go_wp2_with fail
      first | (refine bodyPost_end (results_none rfl _ _ _) rfl ?_) | (refine bodyPost_ret (results_none rfl _ _ _) rfl ?_)
      have h1 := hA12.out
      have h2 := hS.out
      rw [HE.out] at h1 h2
      exact ⟨rfl, S, hSS.out, by rw [h1]; simpa using hSp.out, by simpa using h2⟩
end Go.Proofs.Ytoloiingodigpaa
