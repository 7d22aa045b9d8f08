import Derived.Test.YtjcdnaandbockaaGreatGt
import Derived.Test.YtjcdnaandbockaaGreatGj
namespace Go.Proofs.YtjcdnaandbockaaGreat
open Go.RowKit Go.Shelf
attribute [local go_sem] Oper.semAt_some
set_option maxRecDepth 100000
set_option maxHeartbeats 4000000

theorem rall_any {w : World} {a : Option Addr} {l : List Vl} (kind : Int) (h : Vls w a l) (cap : Nat) :
    Calls Tryz.prog 44 #[.int .i64 kind, .slice a l.length cap] w fun e w' => e = .returned (.bool (allowsL kind l)) ∧ Below w.heap.size w w' := by
  obtain ⟨n, hn⟩ : ∃ n, n = l.length := ⟨_, rfl⟩
  have hlen := h.len
  rw [← hn] at hlen ⊢
  have HN := Lib.hid hn
  have HL := Lib.hid h
  have HA : Hid (allowsL kind l = l.all (allowsB kind)) := rfl
  obtain ⟨R, hR⟩ : ∃ R, R = allowsL kind l := ⟨_, rfl⟩
  rw [← hR] at HA ⊢
  clear h hn hR
  go_enter Tryz.func44, Tryz.ntmps44
  go_wp2_with fail
  go_loopw [5] (fun i wr => ∃ k : Nat, k ≤ n ∧ i = .int .i64 k ∧ Hid (∀ j (hj : j < l.length), j < k → allowsB kind l[j] = true) ∧ Hid (Below w.heap.size w wr)) (fun i _ => n - (intOf i).toNat)
  case atStart => exact ⟨0, Nat.zero_le _, rfl, (fun j _ h => by omega), Below.refl _ _⟩
  case round =>
    obtain ⟨k, hk, rfl, HE, HB⟩ := hrel
    by_cases hkn : k < n
    · have hk1 : k < l.length := by rw [← HN.out]; exact hkn
      have hV := HL.out.keep HB.out
      obtain ⟨g, o, rfl, hc⟩ := hV.at_ (ne_nil_of_lt hk1)
      obtain ⟨c1, c2⟩ := hc k hk1
      have HC := Lib.hid (rvalid_any kind l[k] wr)
      have HEk : Hid (allowsB kind l[k] = true → ∀ j (hj : j < l.length), j < k + 1 → allowsB kind l[j] = true) := by
        intro h j hj h2
        by_cases h3 : j < k
        · exact HE.out j hj h3
        · obtain rfl : j = k := by omega
          exact h
      have HEf : Hid (allowsB kind l[k] = false → R = false) := by
        intro h
        rw [HA.out, List.all_eq_false]
        exact ⟨l[k], List.getElem_mem hk1, by rw [h]; exact Bool.false_ne_true⟩
      generalize allowsB kind l[k] = ab at *
      generalize l[k] = u at *
      obtain ⟨x, p⟩ := u
      simp only at c1 c2
      unfold vA at HC
      clear hV hc hk1
      cases ab with
      | true =>
        have HE2 := Lib.hid (HEk.out rfl)
        clear HEk HEf HE
        go_wp2_with fail
        refine (HC.out).mono ?_
        rintro e w2 ⟨rfl, hb⟩
        have HB2 := Lib.hid (HB.out.trans (hb.mono HB.out.size))
        clear HC hb
        go_wp2_with fail
        go_round
        case rel => exact ⟨k + 1, by omega, by go_num, HE2, HB2⟩
        case measure => simp [intOf]; omega
      | false =>
        have HR2 := Lib.hid (HEf.out rfl)
        clear HEk HEf HE
        go_wp2_with fail
        refine (HC.out).mono ?_
        rintro e w2 ⟨rfl, hb⟩
        have HB2 := Lib.hid (HB.out.trans (hb.mono HB.out.size))
        clear HC hb
        go_wp2_with fail
        go_ret
        exact ⟨by rw [HR2.out]; rfl, HB2.out⟩
    · have HR2 : Hid (R = true) := by
        show _ = _
        rw [HA.out, List.all_eq_true]
        intro u hu
        obtain ⟨j, hj, rfl⟩ := List.getElem_of_mem hu
        exact HE.out j hj (by have := HN.out; omega)
      have hd : decide ((k : Int) < (n : Int)) = false := by simp; omega
      clear HE HA
      go_wp2_with fail
      go_ret
      exact ⟨by rw [HR2.out]; rfl, HB.out⟩
end Go.Proofs.YtjcdnaandbockaaGreat

namespace Go.Proofs.YtjcdnaandbockaaGreat
open Go.RowKit Go.Shelf
attribute [local go_sem] Oper.semAt_some
set_option maxRecDepth 100000
set_option maxHeartbeats 4000000

theorem poss_foldl : ∀ (l : List Vl) (f : Facts), f.Ok → Poss f → (∀ u ∈ l, u.Ok) → Poss (l.foldl (fun f u => joinF f (factsN u.x)) f)
  | [], _, _, hp, _ => hp
  | u :: t, f, hf, hp, h => by
    have hu := (h u (List.mem_cons_self ..)).x
    exact poss_foldl t _ (joinF_ok hf (factsN_ok hu)) (poss_join hp (poss_facts _) hf (factsN_ok hu)) (fun v hv => h v (List.mem_cons_of_mem _ hv))
theorem poss_foldF {l : List Vl} (h : ∀ u ∈ l, u.Ok) : Poss (foldF l) := poss_foldl l _ ok_zero poss_zero h
theorem rm_fold {l : List Vl} (h : ∀ u ∈ l, u.Ok) (hl : l.length ≤ 9223372036854775807) (k : Nat) (hk : k < l.length) : rmF (foldF (l.take k)) (factsN (l[k]).x) = foldF (l.take (k + 1)) := by
  have e := takeS l k hk
  have e2 : foldF (l.take (k + 1)) = joinF (foldF (l.take k)) (factsN (l[k]).x) := by rw [← e, foldF_snoc]
  have ho : ∀ u ∈ l.take (k + 1), u.Ok := fun u hu => h u (List.mem_of_mem_take hu)
  have hf := foldF_fit ho (by rw [List.length_take]; omega)
  have hok := foldF_ok ho
  rw [e2] at hf hok ⊢
  unfold rmF
  rw [if_pos]
  rw [fit_iff (Nat.mod_lt _ big_pos), top_eq]
  exact hf
theorem rfold_sum {w : World} {a : Option Addr} {l : List Vl} (h : Vls w a l) (cap : Nat) :
    Calls Tryz.prog 45 #[.int .i64 1, .int .i64 2, .slice a l.length cap] w fun e w' => e = .returned (vA ⟨valueN (foldF l), 0⟩) ∧ Below w.heap.size w w' := by
  obtain ⟨n, hn⟩ : ∃ n, n = l.length := ⟨_, rfl⟩
  have hlen := h.len
  have HRM : Hid (∀ k (hk : k < l.length), rmF (foldF (l.take k)) (factsN (l[k]).x) = foldF (l.take (k + 1))) := rm_fold h.ok h.len
  have HOK : Hid (∀ k, (foldF (l.take k)).Ok) := fun k => foldF_ok (fun u hu => h.ok u (List.mem_of_mem_take hu))
  have HPO := Lib.hid (poss_foldF h.ok)
  have HOL := Lib.hid (foldF_ok h.ok)
  rw [← hn] at hlen ⊢
  have HN := Lib.hid hn
  have HL := Lib.hid h
  have hb0 : Below w.heap.size w ((w.alloc (.cells #[.int .u64 0, .int .i64 0] 24)).alloc (.cells (qA false none 0 0 false false false 0) 48)) := ((Below.refl _ _).alloc (Nat.le_refl _) _).alloc (by simp) _
  have hr0 : RAcc ((w.alloc (.cells #[.int .u64 0, .int .i64 0] 24)).alloc (.cells (qA false none 0 0 false false false 0) 48)) (w.heap.size + 1) zeroF := by
    have := racc_new (w.alloc (.cells #[.int .u64 0, .int .i64 0] 24))
    rwa [show (w.alloc (.cells #[.int .u64 0, .int .i64 0] 24)).heap.size = w.heap.size + 1 by simp] at this
  have hc0 : ((w.alloc (.cells #[.int .u64 0, .int .i64 0] 24)).alloc (.cells (qA false none 0 0 false false false 0) 48)).heap[w.heap.size]? = some (.cells #[.int .u64 0, .int .i64 0] 24 (0, 0)) := (Below.heap_alloc _ _ _ (by simp)).trans (heap_alloc_new w _)
  have HB0 := Lib.hid hb0
  have HR0 := Lib.hid hr0
  have HC0 := Lib.hid hc0
  have hsz0 : ((w.alloc (.cells #[.int .u64 0, .int .i64 0] 24)).alloc (.cells (qA false none 0 0 false false false 0) 48)).heap.size = w.heap.size + 2 := by simp
  have HS0 := Lib.hid hsz0
  obtain ⟨RR, hRR⟩ : ∃ RR, RR = valueN (foldF l) := ⟨_, rfl⟩
  rw [← hRR]
  have HRR := Lib.hid hRR
  clear h hn hb0 hr0 hc0 hsz0 hRR
  unfold vA
  go_enter Tryz.func45, Tryz.ntmps45
  go_wp2_with fail
  change Code.wp Tryz.prog _ _ _ ((w.alloc (.cells #[.int .u64 0, .int .i64 0] 24)).alloc (.cells (qA false none 0 0 false false false 0) 48))
  generalize (w.alloc (.cells #[.int .u64 0, .int .i64 0] 24)).alloc (.cells (qA false none 0 0 false false false 0) 48) = W0 at *
  go_loopw [8] (fun i wr => ∃ k : Nat, k ≤ n ∧ i = .int .i64 k ∧ Hid (RAcc wr (w.heap.size + 1) (foldF (l.take k))) ∧ Hid (Below w.heap.size w wr) ∧ Hid (wr.heap[w.heap.size]? = some (.cells #[.int .u64 0, .int .i64 0] 24 (0, 0))) ∧ Hid (w.heap.size + 2 ≤ wr.heap.size)) (fun i _ => n - (intOf i).toNat)
  case atStart => exact ⟨0, Nat.zero_le _, rfl, HR0, HB0, HC0, Nat.le_of_eq HS0.out.symm⟩
  case round =>
    obtain ⟨k, hk, rfl, HR, HB, HC, HS⟩ := hrel
    clear HR0 HB0 HC0 HS0
    by_cases hkn : k < n
    · have hk1 : k < l.length := by rw [← HN.out]; exact hkn
      have hV := HL.out.keep HB.out
      obtain ⟨g, o, rfl, hc⟩ := hV.at_ (ne_nil_of_lt hk1)
      have c1 := (hc k hk1).1
      have hx := (hV.ok _ (List.getElem_mem hk1)).x
      have hA := radd22_any HR.out (HOK.out k) hx
      rw [HRM.out k hk1] at hA
      have HA := Lib.hid hA
      generalize (l[k]).x = x at *
      clear hV hc hk1 hx hA HR
      go_wp2_with fail
      refine (HA.out).mono ?_
      rintro e w2 ⟨rfl, hR, hS⟩
      have HR2 := Lib.hid hR
      have HB2 := Lib.hid (HB.out.trans (hS.below (Nat.le_succ _) (by have := HS.out; omega)))
      have HC2 := Lib.hid (hS.at_ HC.out (by omega))
      have HS2 : Hid (w.heap.size + 2 ≤ w2.heap.size) := Nat.le_trans HS.out hS.size
      clear hR hS HA HB HC HS
      go_wp2_with fail
      go_round
      case rel => exact ⟨k + 1, by omega, by go_num, HR2, HB2, HC2, HS2⟩
      case measure => simp [intOf]; omega
    · have hkk : k = l.length := by have := HN.out; omega
      have hR := HR.out
      rw [hkk, List.take_length] at hR
      have hVal := rvalue22_any hR HOL.out HPO.out
      rw [← HRR.out] at hVal
      have HVal := Lib.hid hVal
      clear hR hVal hkk HR HRM HOK
      have hd : decide ((k : Int) < (n : Int)) = false := by simp; omega
      have d0 := cellR 0 HC.out rfl
      have d1 := cellR 1 HC.out rfl
      have f0 := frozen_of_row _ _ 0 _ _ HC.out
      have f1 := frozen_of_row _ _ 1 _ _ HC.out
      have l0 := (Array.getElem?_eq_some_iff.1 HC.out).1
      go_wp2_with fail
      refine (HVal.out).mono ?_
      rintro e w2 ⟨rfl, rfl⟩
      clear HVal
      go_wp2_with fail
      have hr := put2 HC.out (.int .u64 RR) (.int .i64 0)
      have hb9 := (HB.out.setCell (p := ⟨w.heap.size, 0, none⟩) (Nat.le_refl _) (.int .u64 RR)).setCell (p := ⟨w.heap.size, 1, none⟩) (Nat.le_refl _) (.int .i64 0)
      refine bodyPost_ret (v := .agg #[.int .u64 RR, .int .i64 0]) ?_ rfl ⟨rfl, hb9⟩
      simp [results, Act.put, run_loadVar_row _ _ 24 24 _ _ _ hr Tryz.underlying24 rfl info54, Tryz.results45, asAddr]
end Go.Proofs.YtjcdnaandbockaaGreat

namespace Go.Proofs.YtjcdnaandbockaaGreat
open Go.RowKit Go.Shelf
attribute [local go_sem] Oper.semAt_some
set_option maxRecDepth 100000
set_option maxHeartbeats 20000000
theorem forget61 {P : Program} {c : Code} {Q : Exit → Act → World → Prop} {w : World} {a0 a1 a2 a3 a4 a5 a6 a7 a8 a9 a10 a11 a12 a13 a14 a15 a16 a17 a18 a19 a20 a21 a22 a23 a24 a25 a26 a27 a28 a29 a30 a31 a32 a33 a34 a35 a36 a37 a38 a39 a40 a41 a42 a43 a44 a45 a46 a47 a48 a49 a50 a51 a52 a53 a54 a55 a56 a57 a58 a59 a60 : Value} {d : List Deferred}
    (h : ∀ v11 v12 v13 v14 v15 v16 v17 v18 v19 v20 v21 v22 v23 v24 v25 v26 v27 v28 v29 v30 v31 v32 v33 v34 v35 v36 v37 v38 v39 v40 v41 v42 v43 v44 v45 : Value, c.wp P Q (Act.mk #[a0, a1, a2, a3, a4, a5, a6, a7, a8, a9, a10, v11, v12, v13, v14, v15, v16, v17, v18, v19, v20, v21, v22, v23, v24, v25, v26, v27, v28, v29, v30, v31, v32, v33, v34, v35, v36, v37, v38, v39, v40, v41, v42, v43, v44, v45, a46, a47, a48, a49, a50, a51, a52, a53, a54, a55, a56, a57, a58, a59, a60] d) w) : c.wp P Q (Act.mk #[a0, a1, a2, a3, a4, a5, a6, a7, a8, a9, a10, a11, a12, a13, a14, a15, a16, a17, a18, a19, a20, a21, a22, a23, a24, a25, a26, a27, a28, a29, a30, a31, a32, a33, a34, a35, a36, a37, a38, a39, a40, a41, a42, a43, a44, a45, a46, a47, a48, a49, a50, a51, a52, a53, a54, a55, a56, a57, a58, a59, a60] d) w := h _ _ _ _ _ _ _ _ _ _ _ _ _ _ _ _ _ _ _ _ _ _ _ _ _ _ _ _ _ _ _ _ _ _ _
theorem rfold_gen {w : World} {a : Option Addr} {l : List Vl} (op kind : Int) (h : Vls w a l) (cap : Nat) (hne : l ≠ []) (hal : allowsL kind l = true) (hk : kind = 1 ∨ kind = 2 ∨ kind = 3) (ho : op ∈ keysOf kind) (hs : ¬ (op = 1 ∧ kind = 2)) :
    Calls Tryz.prog 45 #[.int .i64 op, .int .i64 kind, .slice a l.length cap] w fun e w' => e = .returned (vA (accG op kind l)) ∧ Below w.heap.size w w' := by
  obtain ⟨n, hn⟩ : ∃ n, n = l.length := ⟨_, rfl⟩
  have hlen := h.len
  have hpos : 0 < l.length := List.length_pos_iff.2 hne
  have HRES : Hid (∀ u v : Vl, u.Ok → v.Ok → ∀ W, Calls Tryz.prog 37 #[.int .i64 op, .int .i64 kind, vA u, vA v] W fun e w' => e = .returned (vA (opV op kind u v)) ∧ Below W.heap.size W w') := fun u v hu hv W => rresult_any op kind u v hu hv hk ho W
  have HSN : Hid (∀ k (hk : k < l.length), 0 < k → accG op kind (l.take (k + 1)) = opV op kind (accG op kind (l.take k)) l[k]) := by
    intro k hk2 hk0
    rw [← takeS l k hk2, accG_snoc]
    intro h9
    have h8 : (l.take k).length = 0 := by rw [h9]; rfl
    rw [List.length_take] at h8
    omega
  have HAO : Hid (∀ k, (accG op kind (l.take k)).Ok) := fun k => accG_ok op kind (fun u hu => h.ok u (List.mem_of_mem_take hu))
  have HF1 : Hid (accG op kind (l.take 1) = firstV kind (l[0])) := by
    show _ = _
    have := takeS l 0 hpos
    rw [← this]
    rfl
  have hp0 : kind = 2 → (l[0]).p = 0 := by
    intro h2
    unfold allowsL at hal
    have := List.all_eq_true.1 hal _ (List.getElem_mem hpos)
    unfold allowsB at this
    subst h2
    simpa using this
  have hn0 : 0 < n := by omega
  rw [← hn] at hlen ⊢
  have HN := Lib.hid hn
  have HL := Lib.hid h
  obtain ⟨g, o, rfl, hc⟩ := h.at_ hne
  obtain ⟨c1, c2⟩ := hc 0 hpos
  rw [Nat.zero_mul, Nat.add_zero] at c1 c2
  have HX := Lib.hid ((h.ok _ (List.getElem_mem hpos)).x)
  generalize l[0] = u0 at *
  obtain ⟨x, p⟩ := u0
  simp only at c1 c2 hp0 HX
  have hg := block_lt_of_cell c1
  have HNX := Lib.hid (fun W => risNaN_any x HX.out W)
  have hb0 : Below w.heap.size w ((w.alloc (.cells #[.int .u64 0, .int .i64 0] 24)).alloc (.cells #[.int .u64 x, .int .i64 p] 24)) := ((Below.refl _ _).alloc (Nat.le_refl _) _).alloc (by simp) _
  have hc0 : ((w.alloc (.cells #[.int .u64 0, .int .i64 0] 24)).alloc (.cells #[.int .u64 x, .int .i64 p] 24)).heap[w.heap.size]? = some (.cells #[.int .u64 0, .int .i64 0] 24 (0, 0)) := (Below.heap_alloc _ _ _ (by simp)).trans (heap_alloc_new w _)
  have hr0 : ((w.alloc (.cells #[.int .u64 0, .int .i64 0] 24)).alloc (.cells #[.int .u64 x, .int .i64 p] 24)).heap[w.heap.size + 1]? = some (.cells #[.int .u64 x, .int .i64 p] 24 (0, 0)) := by
    have := heap_alloc_new (w.alloc (.cells #[.int .u64 0, .int .i64 0] 24)) (.cells #[.int .u64 x, .int .i64 p] 24)
    rwa [show (w.alloc (.cells #[.int .u64 0, .int .i64 0] 24)).heap.size = w.heap.size + 1 by simp] at this
  have HB0 := Lib.hid hb0
  have HC0 := Lib.hid hc0
  have HR0 := Lib.hid hr0
  have ca1 := kcell (Below.refl w.heap.size w |>.alloc (Nat.le_refl _) (.cells #[.int .u64 0, .int .i64 0] 24)) c1
  have ca2 := kcell (Below.refl w.heap.size w |>.alloc (Nat.le_refl _) (.cells #[.int .u64 0, .int .i64 0] 24)) c2
  have d0 := cellR 0 hr0 rfl
  have d1 := cellR 1 hr0 rfl
  have f0 := frozen_of_row _ _ 0 _ _ hr0
  have f1 := frozen_of_row _ _ 1 _ _ hr0
  have l0 := (Array.getElem?_eq_some_iff.1 hr0).1
  have hnil : ((n : Int) == 0) = false := by rw [beq_eq_false_iff_ne]; omega
  unfold vA
  obtain ⟨A, hA⟩ : ∃ A : Vl, A = firstV kind ⟨x, p⟩ := ⟨_, rfl⟩
  rw [← hA] at HF1
  unfold firstV at hA
  clear hc hb0 hc0 hr0 hne hal hpos h
  by_cases hk2 : kind = 2
  case' pos =>
    have e1 : (kind == 2) = true := by rw [beq_iff_eq]; exact hk2
    have e2 : (op == 1) = false := by rw [beq_eq_false_iff_ne]; intro h9; exact hs ⟨h9, hk2⟩
    have hpp := hp0 hk2
    rw [if_pos hk2] at hA
    clear hk2 hp0 hs ho hk hn
    subst hpp
    cases hnx : nanB x
    case' true =>
      have hA2 : A = ⟨9221120237041090560, 0⟩ := by rw [hA]; unfold oneN; rw [if_pos hnx]
      rw [hnx] at HNX
      clear hA hnx
      go_enter Tryz.func45, Tryz.ntmps45
      go_wp2_with fail
      refine (HNX.out _).mono ?_
      rintro e w9 ⟨rfl, rfl⟩
      clear HNX
      go_wp2_with fail
      have HR1 : Hid (((w.alloc (.cells #[.int .u64 0, .int .i64 0] 24)).alloc (.cells #[.int .u64 9221120237041090560, .int .i64 0] 24)).heap[w.heap.size + 1]? = some (.cells #[.int .u64 A.x, .int .i64 A.p] 24 (0, 0))) := by
        show _ = _
        rw [hA2]
        have := heap_alloc_new (w.alloc (.cells #[.int .u64 0, .int .i64 0] 24)) (.cells #[.int .u64 9221120237041090560, .int .i64 0] 24)
        rwa [show (w.alloc (.cells #[.int .u64 0, .int .i64 0] 24)).heap.size = w.heap.size + 1 by simp] at this
      have HC1 : Hid (((w.alloc (.cells #[.int .u64 0, .int .i64 0] 24)).alloc (.cells #[.int .u64 9221120237041090560, .int .i64 0] 24)).heap[w.heap.size]? = some (.cells #[.int .u64 0, .int .i64 0] 24 (0, 0))) := (Below.heap_alloc _ _ _ (by simp)).trans (heap_alloc_new w _)
      have HB1 : Hid (Below w.heap.size w ((w.alloc (.cells #[.int .u64 0, .int .i64 0] 24)).alloc (.cells #[.int .u64 9221120237041090560, .int .i64 0] 24))) := ((Below.refl _ _).alloc (Nat.le_refl _) _).alloc (by simp) _
      have HS1 : Hid (w.heap.size + 2 ≤ ((w.alloc (.cells #[.int .u64 0, .int .i64 0] 24)).alloc (.cells #[.int .u64 9221120237041090560, .int .i64 0] 24)).heap.size) := by show _ ≤ _; simp
      clear HR0 HC0 HB0 d0 d1 f0 f1 l0 ca1 ca2 hA2
      generalize ((w.alloc (.cells #[.int .u64 0, .int .i64 0] 24)).alloc (.cells #[.int .u64 9221120237041090560, .int .i64 0] 24)) = W at *
    case' false =>
      have hA2 : A = ⟨x, 0⟩ := by rw [hA]; unfold oneN; rw [if_neg (by rw [hnx]; decide)]
      rw [hnx] at HNX
      clear hA hnx
      go_enter Tryz.func45, Tryz.ntmps45
      go_wp2_with fail
      refine (HNX.out _).mono ?_
      rintro e w9 ⟨rfl, rfl⟩
      clear HNX
      go_wp2_with fail
      have HR1 : Hid (((w.alloc (.cells #[.int .u64 0, .int .i64 0] 24)).alloc (.cells #[.int .u64 x, .int .i64 0] 24)).heap[w.heap.size + 1]? = some (.cells #[.int .u64 A.x, .int .i64 A.p] 24 (0, 0))) := by show _ = _; rw [hA2]; exact HR0.out
      have HC1 := HC0
      have HB1 := HB0
      have HS1 : Hid (w.heap.size + 2 ≤ ((w.alloc (.cells #[.int .u64 0, .int .i64 0] 24)).alloc (.cells #[.int .u64 x, .int .i64 0] 24)).heap.size) := by show _ ≤ _; simp
      clear HR0 HC0 HB0 d0 d1 f0 f1 l0 ca1 ca2 hA2
      generalize ((w.alloc (.cells #[.int .u64 0, .int .i64 0] 24)).alloc (.cells #[.int .u64 x, .int .i64 0] 24)) = W at *
  case' neg =>
    have e1 : (kind == 2) = false := by rw [beq_eq_false_iff_ne]; exact hk2
    rw [if_neg hk2] at hA
    have hA2 := hA
    clear hk2 hp0 hs ho hk hn hA HNX
    go_enter Tryz.func45, Tryz.ntmps45
    go_wp2_with fail
    have HR1 : Hid (((w.alloc (.cells #[.int .u64 0, .int .i64 0] 24)).alloc (.cells #[.int .u64 x, .int .i64 p] 24)).heap[w.heap.size + 1]? = some (.cells #[.int .u64 A.x, .int .i64 A.p] 24 (0, 0))) := by show _ = _; rw [hA2]; exact HR0.out
    have HC1 := HC0
    have HB1 := HB0
    have HS1 : Hid (w.heap.size + 2 ≤ ((w.alloc (.cells #[.int .u64 0, .int .i64 0] 24)).alloc (.cells #[.int .u64 x, .int .i64 p] 24)).heap.size) := by show _ ≤ _; simp
    clear HR0 HC0 HB0 d0 d1 f0 f1 l0 ca1 ca2 hA2
    generalize ((w.alloc (.cells #[.int .u64 0, .int .i64 0] 24)).alloc (.cells #[.int .u64 x, .int .i64 p] 24)) = W at *
  all_goals
    refine forget61 ?_
    intro v11 v12 v13 v14 v15 v16 v17 v18 v19 v20 v21 v22 v23 v24 v25 v26 v27 v28 v29 v30 v31 v32 v33 v34 v35 v36 v37 v38 v39 v40 v41 v42 v43 v44 v45
    dsimp only
    clear c1 c2
    have HLoop : Hid (∃ R : Vl, R = accG op kind (l.take 1) ∧ W.heap[w.heap.size + 1]? = some (.cells #[.int .u64 R.x, .int .i64 R.p] 24 (0, 0))) := ⟨A, HF1.out.symm, HR1.out⟩
    clear HR1 HF1
    go_loopw [10] (fun i wr => ∃ k : Nat, 1 ≤ k ∧ k ≤ n ∧ i = .int .i64 k ∧ Hid (∃ R : Vl, R = accG op kind (l.take k) ∧ wr.heap[w.heap.size + 1]? = some (.cells #[.int .u64 R.x, .int .i64 R.p] 24 (0, 0))) ∧ Hid (Below w.heap.size w wr) ∧ Hid (wr.heap[w.heap.size]? = some (.cells #[.int .u64 0, .int .i64 0] 24 (0, 0))) ∧ Hid (w.heap.size + 2 ≤ wr.heap.size)) (fun i _ => n - (intOf i).toNat)
    case atStart => exact ⟨1, Nat.le_refl _, hn0, rfl, HLoop, HB1, HC1, HS1⟩
    case round =>
      obtain ⟨k, hk0, hk, rfl, HRX, HB, HCC, HS⟩ := hrel
      clear HLoop HB1 HC1 HS1
      obtain ⟨R, hRv, hRh⟩ := HRX.out
      by_cases hkn : k < n
      · have hk1 : k < l.length := by rw [← HN.out]; exact hkn
        have hok := HL.out.ok _ (List.getElem_mem hk1)
        obtain ⟨g2, o2, hgo, hc⟩ := HL.out.at_ (ne_nil_of_lt hk1)
        injection hgo with hgo
        injection hgo with hg2 ho2
        subst hg2 ho2
        obtain ⟨c1, c2⟩ := hc k hk1
        have HACC0 := HSN.out k hk1 hk0
        rw [← hRv] at HACC0
        have HC0 := HRES.out R (l[k]) (by rw [hRv]; exact HAO.out k) hok
        rw [← HACC0] at HC0
        clear HACC0 hc hok hRv HRX
        generalize l[k] = e at *
        clear hk1
        obtain ⟨y, q⟩ := e
        obtain ⟨rx, rp⟩ := R
        obtain ⟨N, hN⟩ : ∃ N, N = accG op kind (l.take (k + 1)) := ⟨_, rfl⟩
        rw [← hN] at HC0
        have HACC := Lib.hid hN
        clear hN
        obtain ⟨nx, np⟩ := N
        simp only at c1 c2 hRh
        unfold vA at HC0
        have HC := Lib.hid HC0
        have HR := Lib.hid hRh
        clear HC0 hRh
        go_wp2_with fail
        refine (wpIn_wide (n := 0)).1 ?_
        refine region_det (by kernel_rfl) (I := fun listed a' w' => Hid (Below w.heap.size w w') ∧ Hid (w'.heap[w.heap.size]? = some (.cells #[.int .u64 0, .int .i64 0] 24 (0, 0))) ∧ Hid (w'.heap[w.heap.size + 1]? = some (.cells (if listed.getD 8 false = true then #[.int .u64 (nx : Int), .int .i64 np] else #[.int .u64 (rx : Int), .int .i64 rp]) 24 (0, 0))) ∧ Hid (w.heap.size + 2 ≤ w'.heap.size) ∧ Hid (listed.getD 7 false = true → listed.getD 2 false = true) ∧ Hid (listed.getD 8 false = true → listed.getD 7 false = true) ∧ a' = ⟨#[Value.int IntKind.i64 (op : Int), Value.int IntKind.i64 (kind : Int), Value.slice (some ⟨g, o, none⟩) n cap, undef, undef, undef, Value.pointer (some ⟨w.heap.size, 0, none⟩), undef, undef, Value.pointer (some ⟨(w.heap.size + 1), 0, none⟩), Value.int IntKind.i64 (k : Int), v11, v12, v13, v14, v15, v16, v17, v18, v19, v20, v21, v22, v23, v24, v25, v26, v27, v28, v29, v30, v31, v32, v33, v34, v35, v36, v37, v38, v39, v40, v41, v42, v43, v44, v45, Value.int IntKind.i64 (k : Int), Value.slice (some ⟨g, o, none⟩) n cap, Value.int IntKind.i64 (n : Int), Value.bool true, u50, u51, (if listed.getD 0 false = true then Value.int IntKind.i64 (op : Int) else u52), (if listed.getD 1 false = true then Value.int IntKind.i64 (kind : Int) else u53), (if listed.getD 2 false = true then Value.agg #[.int .u64 (rx : Int), .int .i64 rp] else u54), (if listed.getD 3 false = true then Value.slice (some ⟨g, o, none⟩) n cap else u55), (if listed.getD 4 false = true then Value.int IntKind.i64 (k : Int) else u56), (if listed.getD 5 false = true then Value.pointer (some ⟨g, (o + k * 2), none⟩) else u57), (if listed.getD 6 false = true then Value.agg #[.int .u64 (y : Int), .int .i64 q] else u58), (if listed.getD 7 false = true then Value.agg #[.int .u64 (nx : Int), .int .i64 np] else u59), undef], []⟩) (hup_check (by kernel_rfl)) ?h0 ?step ?fin
        case h0 => exact ⟨below_drewN HB.out 1, HCC.out, HR.out, HS.out, (fun h => by simp at h), (fun h => by simp at h), rfl⟩
        case step =>
          intro listed a' w' i hs hbi hdep hi ⟨IB, IC, IR, IZ, J7, J8, ha⟩
          obtain ⟨ls⟩ := listed
          match ls, hs with
          | [x0, x1, x2, x3, x4, x5, x6, x7, x8], _ =>
          subst ha
          have hi' : i = 0 ∨ i = 1 ∨ i = 2 ∨ i = 3 ∨ i = 4 ∨ i = 5 ∨ i = 6 ∨ i = 7 ∨ i = 8 := by simp at hi; omega
          rcases hi' with rfl | rfl | rfl | rfl | rfl | rfl | rfl | rfl | rfl
          · obtain rfl : x0 = false := by simpa using hbi
            refine wpOpIn_plain rfl rfl rfl ?_
            exact ⟨IB, IC, IR, IZ, J7, J8, rfl⟩
          · obtain rfl : x1 = false := by simpa using hbi
            refine wpOpIn_plain rfl rfl rfl ?_
            exact ⟨IB, IC, IR, IZ, J7, J8, rfl⟩
          · obtain rfl : x2 = false := by simpa using hbi
            obtain rfl : x8 = false := Bool.eq_false_iff.2 fun h => by have := J7.out (J8.out h); cases this
            refine wpOpIn_load_row rfl rfl 24 _ rfl (w.heap.size + 1) rfl 24 #[.int .u64 (rx : Int), .int .i64 rp] _ _ IR.out Tryz.underlying24 rfl info54 ?_
            exact ⟨IB, IC, IR, IZ, (fun _ => rfl), J8, rfl⟩
          · obtain rfl : x3 = false := by simpa using hbi
            refine wpOpIn_plain rfl rfl rfl ?_
            exact ⟨IB, IC, IR, IZ, J7, J8, rfl⟩
          · obtain rfl : x4 = false := by simpa using hbi
            refine wpOpIn_plain rfl rfl rfl ?_
            exact ⟨IB, IC, IR, IZ, J7, J8, rfl⟩
          · obtain rfl : x5 = false := by simpa using hbi
            obtain rfl : x3 = true := hdep _ rfl ⟨3, .data⟩ (by simp) rfl
            obtain rfl : x4 = true := hdep _ rfl ⟨4, .data⟩ (by simp) rfl
            refine wpOpIn_plain (v := Value.pointer (some ⟨g, (o + k * 2), none⟩)) (w' := w') rfl rfl (by simp [Oper.semAt, execOp, go_sem]; intro h9; omega) ?_
            exact ⟨IB, IC, IR, IZ, J7, J8, rfl⟩
          · obtain rfl : x6 = false := by simpa using hbi
            obtain rfl : x5 = true := hdep _ rfl ⟨5, .data⟩ (by simp) rfl
            have c3 := kcell IB.out c1
            have c4 := kcell IB.out c2
            refine wpOpIn_plain (v := Value.agg #[.int .u64 (y : Int), .int .i64 q]) (w' := w') rfl rfl (by simp [Oper.semAt, execOp, go_sem, c3, c4]) ?_
            exact ⟨IB, IC, IR, IZ, J7, J8, rfl⟩
          · obtain rfl : x7 = false := by simpa using hbi
            obtain rfl : x0 = true := hdep _ rfl ⟨0, .data⟩ (by simp) rfl
            obtain rfl : x1 = true := hdep _ rfl ⟨1, .data⟩ (by simp) rfl
            obtain rfl : x2 = true := hdep _ rfl ⟨2, .data⟩ (by simp) rfl
            obtain rfl : x6 = true := hdep _ rfl ⟨6, .data⟩ (by simp) rfl
            obtain rfl : x8 = false := Bool.eq_false_iff.2 fun h => by have := J8.out h; cases this
            refine wpOpIn_call (args := #[Value.int IntKind.i64 (op : Int), Value.int IntKind.i64 (kind : Int), Value.agg #[.int .u64 (rx : Int), .int .i64 rp], Value.agg #[.int .u64 (y : Int), .int .i64 q]]) rfl rfl (sem_call4 rfl rfl rfl rfl rfl (enters_of Tryz.func37 (by kernel_rfl) rfl)) (HC.out w') ?_
            rintro e V ⟨rfl, hb⟩
            exact ⟨_, rfl, (IB.out.trans (hb.mono IB.out.size)), (heapB hb IC.out), (heapB hb IR.out), (Nat.le_trans IZ.out hb.size), (fun _ => rfl), (fun _ => rfl), rfl⟩
          · obtain rfl : x8 = false := by simpa using hbi
            obtain rfl : x7 = true := hdep _ rfl ⟨7, .data⟩ (by simp) rfl
            refine wpOpIn_store_row rfl rfl 24 _ _ rfl (w.heap.size + 1) #[.int .u64 (nx : Int), .int .i64 np] rfl rfl 24 #[.int .u64 (rx : Int), .int .i64 rp] IR.out info54 rfl (by simp [Value.oneCell']) ?_
            exact ⟨(IB.out.trans (below_setRow (Nat.le_succ _) _)), ((Go.setRow_other _ _ _ _ (show w.heap.size ≠ w.heap.size + 1 by omega)).trans IC.out), (setRow_heap _ _ _ _ 24 _ IR.out), (Nat.le_trans IZ.out (by simp)), J7, (fun _ => rfl), rfl⟩
        case fin =>
        intro listed a' Z hs hall ⟨IB, IC, IR, IZ, J7, J8, ha⟩
        obtain ⟨ls⟩ := listed
        match ls, hs with
        | [x0, x1, x2, x3, x4, x5, x6, x7, x8], _ =>
        obtain rfl : x0 = true := hall 0 (by simp)
        obtain rfl : x1 = true := hall 1 (by simp)
        obtain rfl : x2 = true := hall 2 (by simp)
        obtain rfl : x3 = true := hall 3 (by simp)
        obtain rfl : x4 = true := hall 4 (by simp)
        obtain rfl : x5 = true := hall 5 (by simp)
        obtain rfl : x6 = true := hall 6 (by simp)
        obtain rfl : x7 = true := hall 7 (by simp)
        obtain rfl : x8 = true := hall 8 (by simp)
        subst ha
        have HB2 : Hid (Below w.heap.size w Z) := IB
        have HC2 := IC
        have HR2 : Hid (Z.heap[w.heap.size + 1]? = some (.cells #[.int .u64 (nx : Int), .int .i64 np] 24 (0, 0))) := IR
        have HS2 := IZ
        clear J7 J8 IB IC IR IZ hall hs HC HB HCC HR HS c1 c2
        dsimp only [Exit.then, Exit.inBlock]
        go_wp2_with fail
        go_round
        case rel => exact ⟨k + 1, by omega, by omega, by go_num, ⟨⟨nx, np⟩, HACC.out, HR2.out⟩, HB2, HC2, HS2⟩
        case measure => simp [intOf]; omega
      · have hkk : k = l.length := by have := HN.out; omega
        rw [hkk, List.take_length] at hRv
        have hd : decide ((k : Int) < (n : Int)) = false := by simp; omega
        have d0 := cellR 0 HCC.out rfl
        have d1 := cellR 1 HCC.out rfl
        have r0 := cellR 0 hRh rfl
        have r1 := cellR 1 hRh rfl
        have f0 := frozen_of_row _ _ 0 _ _ HCC.out
        have f1 := frozen_of_row _ _ 1 _ _ HCC.out
        have l0 := (Array.getElem?_eq_some_iff.1 HCC.out).1
        have HRV := Lib.hid hRv
        clear hkk hRv HRX hRh
        go_wp2_with fail
        have hr := put2 HCC.out (.int .u64 R.x) (.int .i64 R.p)
        have hb9 := (HB.out.setCell (p := ⟨w.heap.size, 0, none⟩) (Nat.le_refl _) (.int .u64 R.x)).setCell (p := ⟨w.heap.size, 1, none⟩) (Nat.le_refl _) (.int .i64 R.p)
        refine bodyPost_ret (v := .agg #[.int .u64 R.x, .int .i64 R.p]) ?_ rfl ⟨by rw [← HRV.out], hb9⟩
        simp [results, Act.put, run_loadVar_row _ _ 24 24 _ _ _ hr Tryz.underlying24 rfl info54, Tryz.results45, asAddr]
end Go.Proofs.YtjcdnaandbockaaGreat

namespace Go.Proofs.YtjcdnaandbockaaGreat
open Go.RowKit Go.Shelf
attribute [local go_sem] Oper.semAt_some
set_option maxRecDepth 100000
set_option maxHeartbeats 4000000

theorem rfold_any {w : World} {a : Option Addr} {l : List Vl} (op kind : Int) (h : Vls w a l) (cap : Nat) (hne : l ≠ []) (hal : allowsL kind l = true) (hf : findE op kind = 0) :
    Calls Tryz.prog 45 #[.int .i64 op, .int .i64 kind, .slice a l.length cap] w fun e w' => e = .returned (vA (accV op kind l)) ∧ Below w.heap.size w w' := by
  obtain ⟨hk, ho⟩ := findE_zero hf
  unfold accV
  by_cases hs : op = 1 ∧ kind = 2
  · rw [if_pos hs]
    obtain ⟨rfl, rfl⟩ := hs
    exact rfold_sum h cap
  · rw [if_neg hs]
    exact rfold_gen op kind h cap hne hal hk ho hs
theorem rReduce_any (op kind : Int) {w : World} {a : Option Addr} {l : List Vl} (h : Vls w a l) (cap : Nat) : Calls Tryz.prog 17 #[.int .i64 op, .int .i64 kind, .slice a l.length cap] w fun e w' => e = .returned (.tuple #[vA (redV op kind l), .int .i64 (redE op kind l)]) ∧ Below w.heap.size w w' := by
  have HC9 := Lib.hid (fun W => rcheck_any op kind W)
  have HAL : Hid (∀ W, Below w.heap.size w W → Calls Tryz.prog 44 #[.int .i64 kind, .slice a l.length cap] W fun e w' => e = .returned (.bool (allowsL kind l)) ∧ Below W.heap.size W w') := fun W hb => rall_any kind (h.keep hb) cap
  have HFO : Hid (l ≠ [] → allowsL kind l = true → findE op kind = 0 → ∀ W, Below w.heap.size w W → Calls Tryz.prog 45 #[.int .i64 op, .int .i64 kind, .slice a l.length cap] W fun e w' => e = .returned (vA (accV op kind l)) ∧ Below W.heap.size W w') := fun h1 h2 h3 W hb => rfold_any op kind (h.keep hb) cap h1 h2 h3
  have HE : Hid (redE op kind l = if findE op kind ≠ 0 then findE op kind else if l = [] then 2 else if allowsL kind l = true then 0 else 2) := rfl
  have HV : Hid (redV op kind l = if redE op kind l = 0 then accV op kind l else ⟨0, 0⟩) := rfl
  obtain ⟨n, hn⟩ : ∃ n, n = l.length := ⟨_, rfl⟩
  rw [← hn] at HAL HFO ⊢
  have hnil : l = [] ↔ n = 0 := by rw [hn]; exact List.length_eq_zero_iff.symm
  obtain ⟨E, hE⟩ : ∃ E, E = redE op kind l := ⟨_, rfl⟩
  obtain ⟨R, hR⟩ : ∃ R, R = redV op kind l := ⟨_, rfl⟩
  rw [← hE] at HE HV ⊢
  rw [← hR] at HV ⊢
  clear hE hR hn
  generalize findE op kind = F at *
  generalize allowsL kind l = A at *
  generalize accV op kind l = N at *
  have HB : Hid (Below w.heap.size w (w.alloc (.cells #[.int .u64 0, .int .i64 0] 24))) := (Below.refl _ _).alloc (Nat.le_refl _) _
  have H3 : Hid ((w.alloc (.cells #[.int .u64 0, .int .i64 0] 24)).heap[w.heap.size]? = some (.cells #[.int .u64 0, .int .i64 0] 24 (0, 0))) := heap_alloc_new w _
  unfold vA at HFO ⊢
  have d0 := cellR 0 H3.out rfl
  have d1 := cellR 1 H3.out rfl
  have f0 := frozen_of_row _ _ 0 _ _ H3.out
  have f1 := frozen_of_row _ _ 1 _ _ H3.out
  have l0 := (Array.getElem?_eq_some_iff.1 H3.out).1
  by_cases h0 : F = 0
  case neg =>
    have HE2 : Hid (E = F) := by rw [HE.out, if_pos h0]; rfl
    have HR2 : Hid (R = ⟨0, 0⟩) := by rw [HV.out, if_neg (by rw [HE2.out]; exact h0)]; rfl
    have hF0 : ((F != 0) : Bool) = true := bne_iff_ne.2 h0
    clear h0 HE HV HFO HAL hnil
    go_enter Tryz.func17, Tryz.ntmps17
    go_wp2_with fail
    generalize w.alloc (.cells #[.int .u64 0, .int .i64 0] 24) = X at *
    refine (HC9.out _).mono ?_
    rintro e w1 ⟨rfl, rfl⟩
    clear HC9
    go_wp2_with fail
    have hr := put2 H3.out (.int .u64 0) (.int .i64 0)
    have hb9 := (HB.out.setCell (p := ⟨w.heap.size, 0, none⟩) (Nat.le_refl _) (.int .u64 0)).setCell (p := ⟨w.heap.size, 1, none⟩) (Nat.le_refl _) (.int .i64 0)
    refine bodyPost_ret (v := .tuple #[.agg #[.int .u64 0, .int .i64 0], .int .i64 F]) ?_ rfl ⟨by rw [HE2.out, HR2.out]; rfl, hb9⟩
    simp [results, Act.put, run_loadVar_row _ _ 24 24 _ _ _ hr Tryz.underlying24 rfl info54, Tryz.results17, asAddr]
  subst h0
  have HE1 : Hid (E = if l = [] then 2 else if A = true then 0 else 2) := HE.out
  clear HE
  by_cases hl : n = 0
  case pos =>
    have HE2 : Hid (E = 2) := by rw [HE1.out, if_pos (hnil.2 hl)]; rfl
    have HR2 : Hid (R = ⟨0, 0⟩) := by rw [HV.out, if_neg (by rw [HE2.out]; decide)]; rfl
    subst hl
    clear HE1 HV HFO HAL hnil
    go_enter Tryz.func17, Tryz.ntmps17
    go_wp2_with fail
    generalize w.alloc (.cells #[.int .u64 0, .int .i64 0] 24) = X at *
    refine (HC9.out _).mono ?_
    rintro e w1 ⟨rfl, rfl⟩
    clear HC9
    go_wp2_with fail
    have hr := put2 H3.out (.int .u64 0) (.int .i64 0)
    have hb9 := (HB.out.setCell (p := ⟨w.heap.size, 0, none⟩) (Nat.le_refl _) (.int .u64 0)).setCell (p := ⟨w.heap.size, 1, none⟩) (Nat.le_refl _) (.int .i64 0)
    refine bodyPost_ret (v := .tuple #[.agg #[.int .u64 0, .int .i64 0], .int .i64 2]) ?_ rfl ⟨by rw [HE2.out, HR2.out]; rfl, hb9⟩
    simp [results, Act.put, run_loadVar_row _ _ 24 24 _ _ _ hr Tryz.underlying24 rfl info54, Tryz.results17, asAddr]
  have hne : ¬ l = [] := fun h => hl (hnil.1 h)
  have e0 : ((n : Int) == 0) = false := by rw [beq_eq_false_iff_ne]; omega
  cases A with
  | false =>
    have HE2 : Hid (E = 2) := by rw [HE1.out, if_neg hne]; rfl
    have HR2 : Hid (R = ⟨0, 0⟩) := by rw [HV.out, if_neg (by rw [HE2.out]; decide)]; rfl
    clear HE1 HV HFO hnil hne hl
    go_enter Tryz.func17, Tryz.ntmps17
    go_wp2_with fail
    generalize w.alloc (.cells #[.int .u64 0, .int .i64 0] 24) = X at *
    refine (HC9.out _).mono ?_
    rintro e w1 ⟨rfl, rfl⟩
    clear HC9
    go_wp2_with fail
    refine (HAL.out _ HB.out).mono ?_
    rintro e w2 ⟨rfl, hb⟩
    clear HAL
    have G3 := Lib.hid (heapB hb H3.out)
    have GB := Lib.hid (HB.out.trans (hb.mono HB.out.size))
    clear d0 d1 f0 f1 l0 H3 HB hb
    have H3 := G3
    have HB := GB
    clear G3 GB
    have d0 := cellR 0 H3.out rfl
    have d1 := cellR 1 H3.out rfl
    have f0 := frozen_of_row _ _ 0 _ _ H3.out
    have f1 := frozen_of_row _ _ 1 _ _ H3.out
    have l0 := (Array.getElem?_eq_some_iff.1 H3.out).1
    go_wp2_with fail
    have hr := put2 H3.out (.int .u64 0) (.int .i64 0)
    have hb9 := (HB.out.setCell (p := ⟨w.heap.size, 0, none⟩) (Nat.le_refl _) (.int .u64 0)).setCell (p := ⟨w.heap.size, 1, none⟩) (Nat.le_refl _) (.int .i64 0)
    refine bodyPost_ret (v := .tuple #[.agg #[.int .u64 0, .int .i64 0], .int .i64 2]) ?_ rfl ⟨by rw [HE2.out, HR2.out]; rfl, hb9⟩
    simp [results, Act.put, run_loadVar_row _ _ 24 24 _ _ _ hr Tryz.underlying24 rfl info54, Tryz.results17, asAddr]
  | true =>
    have HE2 : Hid (E = 0) := by rw [HE1.out, if_neg hne]; rfl
    obtain ⟨nx, np⟩ := N
    have HR2 : Hid (R = ⟨nx, np⟩) := by rw [HV.out, if_pos HE2.out]; rfl
    have HF2 := Lib.hid (HFO.out hne rfl rfl)
    clear HE1 HV HFO hnil hne hl
    go_enter Tryz.func17, Tryz.ntmps17
    go_wp2_with fail
    generalize w.alloc (.cells #[.int .u64 0, .int .i64 0] 24) = X at *
    refine (HC9.out _).mono ?_
    rintro e w1 ⟨rfl, rfl⟩
    clear HC9
    go_wp2_with fail
    refine (HAL.out _ HB.out).mono ?_
    rintro e w2 ⟨rfl, hb⟩
    clear HAL
    have G3 := Lib.hid (heapB hb H3.out)
    have GB := Lib.hid (HB.out.trans (hb.mono HB.out.size))
    clear d0 d1 f0 f1 l0 H3 HB hb
    have H3 := G3
    have HB := GB
    clear G3 GB
    have d0 := cellR 0 H3.out rfl
    have d1 := cellR 1 H3.out rfl
    have f0 := frozen_of_row _ _ 0 _ _ H3.out
    have f1 := frozen_of_row _ _ 1 _ _ H3.out
    have l0 := (Array.getElem?_eq_some_iff.1 H3.out).1
    go_wp2_with fail
    refine (HF2.out _ HB.out).mono ?_
    rintro e w2 ⟨rfl, hb⟩
    clear HF2
    have G3 := Lib.hid (heapB hb H3.out)
    have GB := Lib.hid (HB.out.trans (hb.mono HB.out.size))
    clear d0 d1 f0 f1 l0 H3 HB hb
    have H3 := G3
    have HB := GB
    clear G3 GB
    have d0 := cellR 0 H3.out rfl
    have d1 := cellR 1 H3.out rfl
    have f0 := frozen_of_row _ _ 0 _ _ H3.out
    have f1 := frozen_of_row _ _ 1 _ _ H3.out
    have l0 := (Array.getElem?_eq_some_iff.1 H3.out).1
    go_wp2_with fail
    have hr := put2 H3.out (.int .u64 nx) (.int .i64 np)
    have hb9 := (HB.out.setCell (p := ⟨w.heap.size, 0, none⟩) (Nat.le_refl _) (.int .u64 nx)).setCell (p := ⟨w.heap.size, 1, none⟩) (Nat.le_refl _) (.int .i64 np)
    refine bodyPost_ret (v := .tuple #[.agg #[.int .u64 nx, .int .i64 np], .int .i64 0]) ?_ rfl ⟨by rw [HE2.out, HR2.out], hb9⟩
    simp [results, Act.put, run_loadVar_row _ _ 24 24 _ _ _ hr Tryz.underlying24 rfl info54, Tryz.results17, asAddr]
end Go.Proofs.YtjcdnaandbockaaGreat

namespace Go.Proofs.YtjcdnaandbockaaGreat
open Go.RowKit Go.Shelf
attribute [local go_sem] Oper.semAt_some
set_option maxRecDepth 100000
set_option maxHeartbeats 4000000

/-- Merge of the reference -/
theorem rMerge_any {w : World} {b c : Nat} {f g : Facts} (h : RAcc w b f) (h2 : RAcc w c g) (hf : f.Ok) (hg : g.Ok) :
    Calls Tryz.prog 24 #[.pointer (some ⟨b, 0, none⟩), .pointer (some ⟨c, 0, none⟩)] w fun e w' => e = .returned (.int .i64 (rmE f g)) ∧ RAcc w' b (rmF f g) ∧ Sole b w w' := by
  obtain ⟨m, a, n, cap, X, nan, plus, below, z, hq, hx, rf, hn⟩ := h2
  have HM := Lib.hid (rmerge_any h hf hg hx rf hn)
  have HQ := Lib.hid hq
  clear h hq hx rf hn
  go_enter Tryz.func24, Tryz.ntmps24
  go_wp2_with (refine wpList_load_row rfl 48 _ rfl c rfl 48 _ _ _ HQ.out Tryz.underlying48 rfl (info48 ..) ?_)
  refine HM.out.mono ?_
  rintro e w2 ⟨rfl, hA, hS⟩
  go_wp2_with fail
  go_ret
  exact ⟨rfl, hA, hS⟩
/-- Copy of the reference -/
theorem rCopy_any {w : World} {b : Nat} {f : Facts} (h : RAcc w b f) :
    Calls Tryz.prog 25 #[.pointer (some ⟨b, 0, none⟩)] w fun e w' => e = .returned (.pointer (some ⟨w.heap.size, 0, none⟩)) ∧ RAcc w' w.heap.size f ∧ Below w.heap.size w w' := by
  obtain ⟨m, a, n, cap, X, nan, plus, below, z, hq, hx, rf, hn⟩ := h
  have HQ := Lib.hid hq
  have HX := Lib.hid hx
  have HZ : Hid (QAt (w.alloc (.cells (qA false none 0 0 false false false 0) 48)) w.heap.size false none 0 0 false false false 0) := heap_alloc_new w _
  have HB : Hid (Below w.heap.size w (w.alloc (.cells (qA false none 0 0 false false false 0) 48))) := (Below.refl _ _).alloc (Nat.le_refl _) _
  clear hq hx
  go_enter Tryz.func25, Tryz.ntmps25
  go_wp2_with (first
    | (refine wpList_load_row rfl 48 _ rfl b rfl 48 _ _ _ HQ.out Tryz.underlying48 rfl (info48 ..) ?_)
    | (refine wpList_store_row rfl 48 _ _ rfl w.heap.size (qA m a n cap nan plus below z) rfl rfl 48 _ HZ.out (info48 ..) rfl (qA_one ..) ?_))
  have hr := setRow_heap _ w.heap.size _ (qA m a n cap nan plus below z) 48 _ HZ.out
  have hb9 := HB.out.trans (below_setRow (Nat.le_refl w.heap.size) (qA m a n cap nan plus below z))
  have hn9 := HX.out.keep hb9
  go_ret
  exact ⟨rfl, ⟨m, a, n, cap, X, nan, plus, below, z, hr, hn9, rf, hn⟩, hb9⟩
end Go.Proofs.YtjcdnaandbockaaGreat
