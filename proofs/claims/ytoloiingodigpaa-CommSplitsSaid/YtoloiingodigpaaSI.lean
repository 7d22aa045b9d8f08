import Derived.Test.YtoloiingodigpaaSH
namespace Go.Proofs.Ytoloiingodigpaa
open Go.RowKit Go.Shelf Go.Lib
attribute [local go_sem] Oper.semAt_some litE
set_option maxRecDepth 100000
set_option maxHeartbeats 4000000

/-- insertion sort as the stable sort calls it -/
theorem ins_step (w0 : World) (bb n N : Nat) (K : Int → Int) (hC : CmpC w0 bb n K) (hN : N ≤ 64) (P A Q L : List Int) (a b : Nat) (hL0 : L = P ++ A ++ Q) (hP : P.length = a) (hA : a + A.length = b) (hL : L.length = N)
    (hpw : A.Pairwise (· < ·)) (hin : ∀ x ∈ A, 0 ≤ x ∧ x < n) (W : World) (h : St w0 L W) :
    Calls Try.prog 145 #[.slice (some ⟨w0.heap.size, 0, none⟩) N N, .int .i64 a, .int .i64 b, .func (.func 119) #[] #[.pointer (some ⟨bb, 0, none⟩)]] W fun e w' => e = .returned (.tuple #[]) ∧ ∃ S, SL K S ∧ S.Perm A ∧ St w0 (P ++ S ++ Q) w' := by
  subst hL0
  exact insertion_any w0 bb n K hC P A Q a b N hP (by show _ = _; omega) hL hN hpw hin W h
theorem mrg_step (w0 : World) (bb n N : Nat) (K : Int → Int) (hC : CmpC w0 bb n K) (hN : N ≤ 64) (P A B Q L : List Int) (a m b : Nat) (hL0 : L = P ++ A ++ B ++ Q) (hP : P.length = a) (hA : a + A.length = m) (hB : m + B.length = b) (hL : L.length = N) (ham : a < m) (hmb : m < b)
    (hSA : SL K A) (hSB : SL K B) (hx : ∀ x ∈ A, ∀ y ∈ B, x < y) (hin : ∀ y ∈ A ++ B, 0 ≤ y ∧ y < n) (W : World) (h : St w0 L W) :
    Calls Try.prog 146 #[.slice (some ⟨w0.heap.size, 0, none⟩) N N, .int .i64 a, .int .i64 m, .int .i64 b, .func (.func 119) #[] #[.pointer (some ⟨bb, 0, none⟩)]] W fun e w' => e = .returned (.tuple #[]) ∧ ∃ S, SL K S ∧ S.Perm (A ++ B) ∧ St w0 (P ++ S ++ Q) w' := by
  subst hL0
  exact merge_any w0 bb n N K hC hN (b - a + 1) P A B Q a m b (by omega) hP hA hB hL ham hmb hSA hSB hx hin W h

/-- the stable sort of the ranks -/
theorem stable_body (w0 : World) (bb n : Nat) (K : Int → Int) (hC : CmpC w0 bb n K) (hn : n ≤ 64) (W : World) (h : St w0 (iotaL n) W) :
    Calls Try.prog 137 #[.slice (some ⟨w0.heap.size, 0, none⟩) n n, .int .i64 n, .func (.func 119) #[] #[.pointer (some ⟨bb, 0, none⟩)]] W fun e w' => e = .returned (.tuple #[]) ∧ ∃ O, SL K O ∧ O.Perm (iotaL n) ∧ St w0 O w' := by
  have H := Lib.hid h
  have HC := Lib.hid hC
  clear h hC
  obtain ⟨I, hI⟩ : ∃ I, I = iotaL n := ⟨_, rfl⟩
  have HIl : Hid (I.length = n) := by show _ = _; rw [hI]; simp [iotaL]
  have HIp : Hid (I.Pairwise (· < ·)) := by show List.Pairwise _ _; rw [hI]; exact iotaL_pw n
  have HIi : Hid (∀ x ∈ I, 0 ≤ x ∧ x < n) := by show ∀ x ∈ I, _; rw [hI]; exact iotaL_in n
  rw [← hI] at H ⊢
  clear hI
  go_enter Try.func137, Try.ntmps137
  go_wp2_with fail
  go_loopw [7, 8] (fun i j wr => ∃ (k : Nat) (bs : List (List Int)) (R : List Int), i = .int .i64 k ∧ j = .int .i64 (k + 20 : Nat) ∧ k ≤ n ∧ Hid (∀ c ∈ bs, c.length = 20) ∧ Hid (∀ c ∈ bs, SL K c) ∧ Hid (R.Pairwise (· < ·)) ∧ Hid (Apart2 (bs ++ [R])) ∧ Hid ((bs.flatten ++ R).Perm I) ∧ Hid (bs.flatten.length = k) ∧ Hid (St w0 (bs.flatten ++ R) wr)) (fun i _ _ => 64 - (intOf i).toNat)
  case atStart => exact ⟨0, [], I, rfl, rfl, Nat.zero_le _, by show ∀ c ∈ [], _; simp, by show ∀ c ∈ [], _; simp, HIp, by show Apart2 _; simp [Apart2], by show List.Perm _ _; simp, rfl, by show St _ _ _; simpa using H.out⟩
  case round =>
    obtain ⟨k, bs, R, rfl, rfl, hkn, hlen, hsl, hRp, hap, hpm, hk, hS⟩ := hrel
    have hll : k + R.length = n := by have := hpm.out.length_eq; have h2 := HIl.out; have h3 := hk.out; simp at this h3; omega
    have HLL := Lib.hid hll
    clear hll
    by_cases hkb : k + 20 ≤ n
    · obtain ⟨c, R', e1, e2⟩ := split_at' R 20 (by have := HLL.out; omega)
      subst e1
      have hc1 := List.pairwise_append.1 hRp.out
      have HC20 := Lib.hid e2
      have hins := ins_step w0 bb n n K HC.out hn bs.flatten c R' _ k (k + 20) rfl (by have := hk.out; exact this) (by omega) (by have := hpm.out.length_eq; rw [HIl.out] at this; simpa using this) hc1.1 (fun x hx => HIi.out x (hpm.out.subset (by simp [hx]))) wr (by have := hS.out; simpa using this)
      have HINS := Lib.hid hins
      have HC1 := Lib.hid hc1
      clear hins hc1 e2
      go_wp2_with (refine HINS.out.mono ?_; rintro e w1 ⟨rfl, S, hs1, hs2, hs3⟩)
      have HS1 := Lib.hid hs1; have HS2 := Lib.hid hs2; have HS3 := Lib.hid hs3
      clear hs1 hs2 hs3
      go_wp2_with fail
      go_roundw
      case rel =>
        refine ⟨k + 20, bs ++ [S], R', by go_num, by go_num, hkb, ?_, ?_, HC1.out.2.1, ?_, ?_, ?_, ?_⟩
        · show ∀ c ∈ bs ++ [S], _
          intro d hd
          rcases List.mem_append.1 hd with hd | hd
          · exact hlen.out d hd
          · simp at hd; subst hd; rw [HS2.out.length_eq]; exact HC20.out
        · show ∀ c ∈ bs ++ [S], _
          intro d hd
          rcases List.mem_append.1 hd with hd | hd
          · exact hsl.out d hd
          · simp at hd; subst hd; exact HS1.out
        · show Apart2 _
          have h0 := hap.out
          have : Apart2 (bs ++ c :: [R']) := by
            unfold Apart2 at h0 ⊢
            rw [List.pairwise_append] at h0 ⊢
            refine ⟨h0.1, by simpa using HC1.out.2.2, fun d hd d' hd' x hx y hy => ?_⟩
            have h1 := h0.2.2 d hd (c ++ R') (by simp) x hx
            simp at hd'
            rcases hd' with rfl | rfl
            · exact h1 y (List.mem_append_left _ hy)
            · exact h1 y (List.mem_append_right _ hy)
          have := this.perm HS2.out
          simpa using this
        · show List.Perm _ _
          refine List.Perm.trans ?_ hpm.out
          simp only [List.flatten_append, List.flatten_cons, List.flatten_nil, List.append_nil, List.append_assoc]
          exact List.Perm.append_left _ (List.Perm.append_right _ HS2.out)
        · show _ = _
          have h1 := hk.out; have h2 := HS2.out.length_eq; have h3 := HC20.out
          simp at h1 ⊢; omega
        · show St _ _ _
          have := HS3.out
          simpa using this
      case measure => simp [intOf]; omega
    · have hins := ins_step w0 bb n n K HC.out hn bs.flatten R [] _ k n (by simp) hk.out HLL.out (by have := hpm.out.length_eq; rw [HIl.out] at this; exact this) hRp.out (fun x hx => HIi.out x (hpm.out.subset (by simp [hx]))) wr hS.out
      have HINS := Lib.hid hins
      clear hins
      go_wp2_with (refine HINS.out.mono ?_; rintro e w1 ⟨rfl, S, hs1, hs2, hs3⟩)
      have HR : Hid (Runs K I 20 bs S) := by
        refine Runs.mk hlen.out hsl.out hs1 ?_ ?_ ?_
        · have h2 := hs2.length_eq; have h3 := HLL.out; omega
        · exact (List.Perm.append_left _ hs2).trans hpm.out
        · exact Apart2.perm (cs := []) hap.out hs2
      have HS3 : Hid (St w0 (bs.flatten ++ S) w1) := by show St _ _ _; simpa using hs3
      clear hs1 hs2 hs3 hlen hsl hRp hap hpm hk hS HLL HINS
      go_loopw [6, 7, 8, 9] (fun i _ _ _ wr => ∃ (B : Nat) (bs : List (List Int)) (t : List Int), i = .int .i64 B ∧ 20 ≤ B ∧ B ≤ 128 ∧ Hid (Runs K I B bs t) ∧ Hid (St w0 (bs.flatten ++ t) wr)) (fun i _ _ _ _ => 64 - (intOf i).toNat)
      case atStart => exact ⟨20, bs, S, rfl, Nat.le_refl _, by omega, HR, HS3⟩
      case round =>
        obtain ⟨B, bs, t, rfl, hB1, hB2, hR, hS⟩ := hrel
        have hfl : bs.length * B + t.length = n := by
          have h1 := hR.out.perm.length_eq; have h2 := flat_len B bs hR.out.len
          rw [HIl.out, List.length_append, h2] at h1; exact h1
        by_cases hBn : B < n
        · have HFL := Lib.hid hfl
          clear hfl
          obtain ⟨wo, rfl⟩ : ∃ wo : World, wo = wr := ⟨_, rfl⟩
          go_wp2_with fail
          go_loopw [7, 8] (fun i j wr => ∃ (x : Nat) (ds cs : List (List Int)), i = .int .i64 x ∧ j = .int .i64 (x + 2 * B : Nat) ∧ x ≤ n ∧ Hid (∀ c ∈ ds, c.length = 2 * B) ∧ Hid (∀ c ∈ ds, SL K c) ∧ Hid (∀ c ∈ cs, c.length = B) ∧ Hid (∀ c ∈ cs, SL K c) ∧ Hid (ds.flatten.length = x) ∧ Hid (Apart2 (ds ++ cs ++ [t])) ∧ Hid ((ds.flatten ++ cs.flatten ++ t).Perm I) ∧ Hid (St w0 (ds.flatten ++ cs.flatten ++ t) wr)) (fun i _ _ => 64 - (intOf i).toNat)
          case atStart => exact ⟨0, [], bs, rfl, by go_num, Nat.zero_le _, by show ∀ c ∈ [], _; simp, by show ∀ c ∈ [], _; simp, hR.out.len, hR.out.sl, rfl, by show Apart2 _; exact hR.out.apart, by show List.Perm _ _; exact hR.out.perm, by show St _ _ _; exact hS.out⟩
          case round =>
            obtain ⟨x, ds, cs, rfl, rfl, hxn, hd1, hd2, hc1, hc2, hx, hap, hpm, hS⟩ := hrel
            have hcl := flat_len B cs hc1.out
            have hll : x + cs.length * B + t.length = n := by
              have h1 := hpm.out.length_eq; have h2 := HIl.out; have h3 := hx.out
              rw [List.length_append, List.length_append, hcl] at h1; omega
            have htB := hR.out.short
            by_cases hxb : x + 2 * B ≤ n
            · obtain ⟨c1, c2, cs', rfl⟩ : ∃ c1 c2 cs', cs = c1 :: c2 :: cs' := by
                match cs with
                | [] => simp at hll; omega
                | [c] => simp at hll; omega
                | c1 :: c2 :: cs' => exact ⟨c1, c2, cs', rfl⟩
              have l1 := hc1.out c1 (by simp)
              have l2 := hc1.out c2 (by simp)
              have hap' : Apart2 (ds ++ c1 :: c2 :: (cs' ++ [t])) := by have := hap.out; simpa using this
              have hmg := mrg_step w0 bb n n K HC.out hn ds.flatten c1 c2 (cs'.flatten ++ t) _ x (x + B) (x + 2 * B) (by simp) hx.out (by omega) (by omega) (by have := hpm.out.length_eq; rw [HIl.out] at this; exact this) (by omega) (by omega) (hc2.out c1 (by simp)) (hc2.out c2 (by simp)) hap'.nb (fun y hy => HIi.out y (hpm.out.subset (by simp at hy; rcases hy with hy | hy <;> simp [hy]))) wr hS.out
              rw [show ((x + B : Nat) : Int) = (x : Int) + B by omega] at hmg
              have HMG := Lib.hid hmg
              have HAP := Lib.hid hap'
              have HL1 := Lib.hid l1; have HL2 := Lib.hid l2
              clear hmg hap' hcl hll htB l1 l2
              go_wp2_with (refine HMG.out.mono ?_; rintro e w2 ⟨rfl, S2, hs1, hs2, hs3⟩)
              have HS1 := Lib.hid hs1; have HS2 := Lib.hid hs2; have HS3 := Lib.hid hs3
              clear hs1 hs2 hs3
              go_wp2_with fail
              go_roundw
              case rel =>
                refine ⟨x + 2 * B, ds ++ [S2], cs', by go_num, by go_num, hxb, ?_, ?_, fun c hc => hc1.out c (by simp [hc]), fun c hc => hc2.out c (by simp [hc]), ?_, ?_, ?_, ?_⟩
                · show ∀ c ∈ ds ++ [S2], _
                  intro d hd
                  rcases List.mem_append.1 hd with hd | hd
                  · exact hd1.out d hd
                  · simp at hd; subst hd; have := HS2.out.length_eq; have h1 := HL1.out; have h2 := HL2.out; simp at this; omega
                · show ∀ c ∈ ds ++ [S2], _
                  intro d hd
                  rcases List.mem_append.1 hd with hd | hd
                  · exact hd2.out d hd
                  · simp at hd; subst hd; exact HS1.out
                · show _ = _
                  have h1 := hx.out; have h2 := HS2.out.length_eq; have h3 := HL1.out; have h4 := HL2.out
                  simp at h1 h2 ⊢; omega
                · show Apart2 _
                  have := HAP.out.merge HS2.out
                  simpa using this
                · show List.Perm _ _
                  refine List.Perm.trans ?_ hpm.out
                  simp only [List.flatten_append, List.flatten_cons, List.flatten_nil, List.append_nil, List.append_assoc]
                  have := List.Perm.append_left ds.flatten (List.Perm.append_right (cs'.flatten ++ t) HS2.out)
                  simpa using this
                · show St _ _ _
                  have := HS3.out
                  simpa using this
              case measure => simp [intOf]; omega
            · by_cases hm : x + B < n
              · obtain ⟨c, rfl⟩ : ∃ c, cs = [c] := by
                  match cs with
                  | [] => simp at hll; omega
                  | [c] => exact ⟨c, rfl⟩
                  | c1 :: c2 :: cs' =>
                    exfalso
                    simp only [List.length_cons, Nat.succ_mul] at hll; omega
                have l1 := hc1.out c (by simp)
                have hap' : Apart2 (ds ++ c :: t :: []) := by have := hap.out; simpa using this
                simp at hll
                have hmg := mrg_step w0 bb n n K HC.out hn ds.flatten c t [] _ x (x + B) n (by simp) hx.out (by omega) (by omega) (by have := hpm.out.length_eq; rw [HIl.out] at this; exact this) (by omega) (by omega) (hc2.out c (by simp)) hR.out.last hap'.nb (fun y hy => HIi.out y (hpm.out.subset (by simp at hy; rcases hy with hy | hy <;> simp [hy]))) wr hS.out
                rw [show ((x + B : Nat) : Int) = (x : Int) + B by omega] at hmg
                have HMG := Lib.hid hmg
                have HAP := Lib.hid hap'
                have HL1 := Lib.hid l1; have HLL := Lib.hid hll; have HTB := Lib.hid htB
                clear hmg hap' hcl hll htB l1
                go_wp2_with (refine HMG.out.mono ?_; rintro e w2 ⟨rfl, S2, hs1, hs2, hs3⟩)
                have HS1 := Lib.hid hs1; have HS2 := Lib.hid hs2; have HS3 := Lib.hid hs3
                clear hs1 hs2 hs3
                go_wp2_with fail
                go_roundw
                case rel =>
                  refine ⟨2 * B, ds, S2, by go_num, by omega, by omega, ?_, by show St _ _ _; simpa using HS3.out⟩
                  refine Runs.mk hd1.out hd2.out HS1.out ?_ ?_ ?_
                  · have h1 := HS2.out.length_eq; have h2 := HL1.out; have h3 := HTB.out; simp at h1; omega
                  · refine List.Perm.trans ?_ hpm.out
                    simp only [List.flatten_cons, List.flatten_nil, List.append_nil, List.append_assoc]
                    exact List.Perm.append_left _ HS2.out
                  · exact HAP.out.merge HS2.out
                case measure => simp [intOf]; omega
              · have HE : Hid (∃ t', Runs K I (2 * B) ds t' ∧ St w0 (ds.flatten ++ t') wr) := by
                  show ∃ t', _
                  match cs, hc1, hc2, hap, hpm, hS, hll with
                  | [], hc1, hc2, hap, hpm, hS, hll =>
                    refine ⟨t, Runs.mk hd1.out hd2.out hR.out.last (by omega) (by have := hpm.out; simpa using this) (by have := hap.out; simpa using this), by have := hS.out; simpa using this⟩
                  | [c], hc1, hc2, hap, hpm, hS, hll =>
                    have h1 : t = [] := List.length_eq_zero_iff.1 (by simp at hll; omega)
                    subst h1
                    have l1 := hc1.out c (by simp)
                    refine ⟨c, Runs.mk hd1.out hd2.out (hc2.out c (by simp)) (by omega) (by have := hpm.out; simpa using this) ?_, by have := hS.out; simpa using this⟩
                    have := hap.out
                    unfold Apart2 at this ⊢
                    exact (List.pairwise_append.1 this).1
                  | c1 :: c2 :: cs', hc1, hc2, hap, hpm, hS, hll =>
                    exfalso
                    simp only [List.length_cons, Nat.succ_mul] at hll; omega
                clear hc1 hc2 hap hpm hS hll hcl hd1 hd2 hx htB
                go_wp2_with fail
                go_roundw
                case rel =>
                  obtain ⟨t', h1, h2⟩ := HE.out
                  exact ⟨2 * B, ds, t', by go_num, by omega, by omega, h1, h2⟩
                case measure => simp [intOf]; omega
        · have HE : Hid (∃ O, SL K O ∧ O.Perm I ∧ St w0 O wr) := by
            show ∃ O, _
            have hr := hR.out
            have hs := hS.out
            match bs, hr, hs, hfl with
            | [], hr, hs, hfl => exact ⟨t, hr.last, by simpa using hr.perm, by simpa using hs⟩
            | [c], hr, hs, hfl =>
              have h1 : t = [] := List.length_eq_zero_iff.1 (by simp at hfl; omega)
              subst h1
              exact ⟨c, hr.sl c (by simp), by simpa using hr.perm, by simpa using hs⟩
            | c1 :: c2 :: cs', hr, hs, hfl =>
              exfalso
              simp only [List.length_cons, Nat.succ_mul] at hfl; omega
          clear hR hS hfl
          go_wp2_with fail
          first | (refine bodyPost_end (results_none rfl _ _ _) rfl ?_) | (refine bodyPost_ret (results_none rfl _ _ _) rfl ?_)
          exact ⟨rfl, HE.out⟩

theorem stable_any (w0 : World) (bb n : Nat) (K : Int → Int) (hC : CmpC w0 bb n K) (hn : n ≤ 64) (W : World) (h : St w0 (iotaL n) W) :
    Calls Try.prog 118 #[.slice (some ⟨w0.heap.size, 0, none⟩) n n, .func (.func 119) #[] #[.pointer (some ⟨bb, 0, none⟩)]] W fun e w' => e = .returned (.tuple #[]) ∧ ∃ O, SL K O ∧ O.Perm (iotaL n) ∧ St w0 O w' := by
  have H2 := stable_body w0 bb n K hC hn W h
  clear hC h
  go_enter Try.func118, Try.ntmps118
  go_wp2_with (refine H2.mono ?_; rintro e w1 ⟨rfl, h⟩)
  first | (refine bodyPost_end (results_none rfl _ _ _) rfl ?_) | (refine bodyPost_ret (results_none rfl _ _ _) rfl ?_)
  exact ⟨rfl, h⟩

/-- all ranks, by their keys -/
theorem ranks_all {w : World} {a : Option Addr} {keys : List Int} (h : Ints w a keys) (cap : Nat) (h1 : 1 ≤ keys.length) (hn : keys.length ≤ 64) :
    Calls Try.prog 102 #[.slice a keys.length cap] w fun e w' => ∃ g O, e = .returned (.slice (some ⟨g, 0, none⟩) keys.length keys.length) ∧ SL (fun x => keys.getD x.toNat 0) O ∧ O.Perm (iotaL keys.length) ∧ w.heap.size ≤ g ∧ RowAt w' g O ∧ Below w.heap.size w w' := by
  obtain ⟨b, off, rfl, hcs⟩ := h.at_ (ne_nil_of_lt (show 0 < keys.length by omega))
  have hblt := block_lt_of_cell (hcs 0 (by omega))
  have hb0 : Below w.heap.size w (w.alloc (.cells #[.slice (some ⟨b, off, none⟩) keys.length cap] 22)) := (Below.refl _ _).alloc (Nat.le_refl _) _
  have hz0 : (w.alloc (.cells #[.slice (some ⟨b, off, none⟩) keys.length cap] 22)).heap.size = w.heap.size + 1 := by simp
  have hc0 : (w.alloc (.cells #[.slice (some ⟨b, off, none⟩) keys.length cap] 22)).cell? ⟨w.heap.size, 0, none⟩ = some (.slice (some ⟨b, off, none⟩) keys.length cap) := by simp
  have A0 := h.keep hb0
  have hmk := make_ints keys.length (by omega) (w.alloc (.cells #[.slice (some ⟨b, off, none⟩) keys.length cap] 22))
  rw [hz0] at hmk
  have R0 : RowAt ((w.alloc (.cells #[.slice (some ⟨b, off, none⟩) keys.length cap] 22)).alloc (.cells (rowA (List.replicate keys.length 0)) 3)) (w.heap.size + 1) (fillL keys.length 0) := by
    rw [fillL_zero, ← hz0]; exact heap_alloc_new _ _
  have b1 : Below (w.heap.size + 1) (w.alloc (.cells #[.slice (some ⟨b, off, none⟩) keys.length cap] 22)) ((w.alloc (.cells #[.slice (some ⟨b, off, none⟩) keys.length cap] 22)).alloc (.cells (rowA (List.replicate keys.length 0)) 3)) :=
    (Below.refl _ _).alloc (by rw [hz0]; exact Nat.le_refl _) _
  have HA := Lib.hid A0
  have HB0 := Lib.hid hb0
  have HC0 := Lib.hid hc0
  have HZ0 := Lib.hid hz0
  have R0 := Lib.hid R0
  have b1 := Lib.hid b1
  clear A0 hb0 hc0 hz0 h hcs
  obtain ⟨n, hne⟩ : ∃ n, n = keys.length := ⟨_, rfl⟩
  have HN := Lib.hid hne
  rw [← hne] at hmk HA HB0 HC0 HZ0 R0 b1 h1 hn ⊢
  clear hne
  go_enter Try.func102, Try.ntmps102
  go_wp2_with fail
  generalize hw1 : (w.alloc (.cells #[.slice (some ⟨b, off, none⟩) n cap] 22)).alloc (.cells (rowA (List.replicate n 0)) 3) = w1 at *
  generalize w.alloc (.cells #[.slice (some ⟨b, off, none⟩) n cap] 22) = w0 at *
  clear hw1 hmk
  go_loopw [10] (fun i wr => ∃ k : Nat, k ≤ n ∧ i = .int .i64 k ∧ RowAt wr (w.heap.size + 1) (fillL n k) ∧ Below (w.heap.size + 1) w0 wr) (fun i _ => n - (intOf i).toNat)
  case atStart => exact ⟨0, Nat.zero_le _, rfl, R0.out, b1.out⟩
  case round =>
    obtain ⟨k, hk, rfl, hR, hb⟩ := hrel
    have hlt := hR.lt
    by_cases hkn : k < n
    · have hc := hR.cell k (by rw [fillL_len n k hk]; omega)
      have hfz := hR.open_ k
      have hR2 := hR.set k (k : Int)
      rw [fillL_set n k hkn] at hR2
      have hb2 : Below (w.heap.size + 1) w0 (wr.setCell ⟨w.heap.size + 1, k, none⟩ (.int .i64 k)) := hb.setCell (Nat.le_refl _) _
      generalize (fillL n k)[k]'_ = x at *
      clear hR
      go_wp2_with fail
      go_roundw
      case rel => exact ⟨k + 1, by omega, by go_num, hR2, hb2⟩
      case measure => simp [intOf]; omega
    · have hk' : k = n := by omega
      subst hk'
      rw [fillL_all] at hR
      have hs0 := HZ0.out
      have hbw : Below w0.heap.size w0 wr := by rw [hs0]; exact hb
      have hst := stable_any w0 w.heap.size k (fun x => keys.getD x.toNat 0) (fun W hB x y hx0 hx1 hy0 hy1 => by
        obtain ⟨x, rfl⟩ := Int.eq_ofNat_of_zero_le hx0
        obtain ⟨y, rfl⟩ := Int.eq_ofNat_of_zero_le hy0
        exact cmp_keys (by have := HA.out.keep hB; exact this) cap w.heap.size (by rw [← HN.out, ← HC0.out]; exact hB.cell (p := ⟨w.heap.size, 0, none⟩) (by rw [hs0]; simp)) x y (by rw [← HN.out]; omega) (by rw [← HN.out]; omega)) hn wr ⟨by rw [hs0]; exact hR, hbw⟩
      rw [hs0] at hst
      have HS := Lib.hid hst
      clear hst hR hbw hs0
      go_wp2_with (refine HS.out.mono ?_; rintro e w2 ⟨rfl, O, ho1, ho2, hR2, hb2⟩)
      go_ret
      have hs0 := HZ0.out
      refine ⟨w.heap.size + 1, O, rfl, ho1, ho2, by omega, by rw [← hs0]; exact hR2, HB0.out.trans (hb2.mono (by omega))⟩
end Go.Proofs.Ytoloiingodigpaa
