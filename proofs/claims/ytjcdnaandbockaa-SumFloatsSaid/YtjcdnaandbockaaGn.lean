import Derived.Test.YtjcdnaandbockaaGm
namespace Go.Proofs.Ytjcdnaandbockaa
open Go.RowKit Go.Shelf
attribute [local go_sem] Oper.semAt_some
set_option maxRecDepth 100000
set_option maxHeartbeats 2000000

theorem sem_callV1 {P : Program} {o : Oper} {a : Act} {w : World} {f x : Operand} {g : FuncId} {cs : Array Value} {ts : Array TypeId} {vx : Value} (hop : o.op = .call { callee := .value f, args := #[x], argTypes := ts }) (hf : a.eval f = .func (.func g) #[] cs) (hx : a.eval x = vx)
    (eg : ∀ args w, (callFunc g args).run P w = .ok (.enter g args) w) : (o.semAt none a.eval).run P w = .ok (.enter g (#[vx] ++ cs)) w := by
  simp [Oper.semAt, hop, execOp, resolve, invoke, eg, hf, hx, Deferred.ofValue]
/-- rows of values in memory -/
structure Rws (w : World) (a : Option Addr) (rows : List (List Vl)) : Prop where
  len : rows.length ≤ 9223372036854775807
  at_ : rows ≠ [] → ∃ g o, a = some ⟨g, o, none⟩ ∧ ∀ i, (h : i < rows.length) → ∃ ai ci, w.cell? ⟨g, o + i, none⟩ = some (.slice ai (rows[i]).length ci) ∧ Vls w ai rows[i]
theorem Rws.keep {w w' : World} {a : Option Addr} {rows : List (List Vl)} (h : Rws w a rows) (hb : Below w.heap.size w w') : Rws w' a rows := by
  refine ⟨h.len, fun hne => ?_⟩
  obtain ⟨g, o, ha, hc⟩ := h.at_ hne
  refine ⟨g, o, ha, fun i hi => ?_⟩
  obtain ⟨ai, ci, h1, h2⟩ := hc i hi
  exact ⟨ai, ci, kcell hb h1, h2.keep hb⟩
/-- a column -/
def colL (rows : List (List Vl)) (j : Nat) : List Vl := rows.map fun r => r.getD j ⟨0, 0⟩
/-- the first k results -/
def outC (op kind : Int) (rows : List (List Vl)) (N k : Nat) : List Vl := (List.range N).map fun j => if j < k then accV op kind (colL rows j) else ⟨0, 0⟩
@[simp] theorem outC_len (op kind : Int) (rows : List (List Vl)) (N k : Nat) : (outC op kind rows N k).length = N := by simp [outC]
theorem outC_zero (op kind : Int) (rows : List (List Vl)) (N : Nat) : outC op kind rows N 0 = List.replicate N ⟨0, 0⟩ := by
  apply List.ext_getElem
  · simp
  · intro i h1 h2; simp [outC]
theorem outC_set (op kind : Int) (rows : List (List Vl)) (N k : Nat) : (outC op kind rows N k).set k (accV op kind (colL rows k)) = outC op kind rows N (k + 1) := by
  apply List.ext_getElem
  · simp
  · intro i h1 h2
    simp only [List.getElem_set, outC, List.getElem_map, List.getElem_range]
    by_cases e : k = i
    · subst e; simp
    · rw [if_neg e]
      by_cases h : i < k
      · rw [if_pos h, if_pos (by omega)]
      · rw [if_neg h, if_neg (by omega)]
theorem Reduces_ok (op kind : Int) {w : World} {a : Option Addr} {rows : List (List Vl)} (h : Rws w a rows) (N : Nat) (h44 : N ≤ 17592186044416) (hne : rows ≠ []) (hN : ∀ r ∈ rows, r.length = N) (hA : ∀ r ∈ rows, allowsL kind r = true) (h0 : findE op kind = 0) (cap : Nat) :
    Calls Try.prog 32 #[.int .i64 op, .int .i64 kind, .slice a rows.length cap] w fun e w' => ∃ g, w.heap.size ≤ g ∧ e = .returned (.tuple #[.slice (some ⟨g, 0, none⟩) N N, .int .i64 0]) ∧ VRow w' g (outC op kind rows N N) ∧ Below w.heap.size w w' := by
  have hlen := h.len
  have HLW := Lib.hid h
  have HNE := Lib.hid hne
  have HN := Lib.hid hN
  have HA := Lib.hid hA
  have hl0 : ¬ (rows.length : Int) = 0 := by
    intro h9; exact hne (List.length_eq_zero_iff.1 (by omega))
  have hl1 : 0 < rows.length := by omega
  have hf := find_any op kind w
  clear h hne hN hA
  go_enter Try.func32, Try.ntmps32
  go_wp2_with fail
  refine hf.mono ?_
  rintro e w1 ⟨⟨h9, rfl⟩ | ⟨_, n, cs, rfl, hd⟩, hb⟩
  · exact absurd h0 h9
  · have hst := store_fnv (heap_alloc_new w1 (.cells #[.int .i64 op, .int .i64 kind, .nilFunc] 88)) (.func (.func n) #[] cs) rfl
    have hsz := hb.size
    obtain ⟨hb2, h4, h5, hz⟩ := two w1 (.cells #[.int .i64 op, .int .i64 kind, .func (.func n) #[] cs] 88) (.cells (rowV (List.replicate N ⟨0, 0⟩)) 54)
    have hbr := (Below.refl w1.heap.size w1).alloc (Nat.le_refl _) (.cells #[.int .i64 op, .int .i64 kind, .func (.func n) #[] cs] 88)
    obtain ⟨g0, o0, rfl, hrc⟩ := (HLW.out.keep hb).at_ HNE.out
    obtain ⟨ai, ci, hc0, _⟩ := hrc 0 hl1
    rw [HN.out _ (List.getElem_mem hl1)] at hc0
    rw [Nat.add_zero] at hc0
    have hc0' := kcell hbr hc0
    have hmk := make_vals N h44 (w1.alloc (.cells #[.int .i64 op, .int .i64 kind, .func (.func n) #[] cs] 88))
    have H4 := Lib.hid h4
    have H5 : Hid (VRow ((w1.alloc (.cells #[.int .i64 op, .int .i64 kind, .func (.func n) #[] cs] 88)).alloc (.cells (rowV (List.replicate N ⟨0, 0⟩)) 54)) (w1.heap.size + 1) (outC op kind rows N 0)) := by show VRow _ _ _; rw [outC_zero]; exact h5
    have HB := Lib.hid (hb.trans (hb2.mono hb.size))
    have HD := Lib.hid hd
    have HB1 := Lib.hid hb2
    unfold rA
    clear hf hb hd hb2 h4 h5 hbr hrc hc0
    go_wp2_with fail
    clear hst hmk hc0'
    generalize (w1.alloc (.cells #[.int .i64 op, .int .i64 kind, .func (.func n) #[] cs] 88)).alloc (.cells (rowV (List.replicate N ⟨0, 0⟩)) 54) = Y at *
    go_loop [40] (fun i => ∃ k : Nat, k ≤ rows.length ∧ i = .int .i64 k) (fun i => rows.length - (intOf i).toNat)
    case atStart => exact ⟨0, Nat.zero_le _, rfl⟩
    case round =>
      obtain ⟨k, hk, rfl⟩ := hrel
      by_cases hlt : k < rows.length
      · obtain ⟨g1, o1, e1, hrc⟩ := (HLW.out.keep HB.out).at_ HNE.out
        obtain ⟨rfl, rfl⟩ : g0 = g1 ∧ o0 = o1 := by injection e1 with e2; injection e2 with e3 e4; exact ⟨e3, e4⟩
        obtain ⟨ak, ck, hc0, _⟩ := hrc k hlt
        rw [HN.out _ (List.getElem_mem hlt)] at hc0
        clear hrc e1
        go_wp2_with fail
        go_round
        case rel => exact ⟨k + 1, by omega, by go_num⟩
        case measure => simp [intOf]; omega
      · have hkn : k = rows.length := by omega
        subst hkn
        go_wp2_with fail
        go_loopw [52] (fun i wr => ∃ k : Nat, k ≤ rows.length ∧ i = .int .i64 k ∧ Hid (Below Y.heap.size Y wr)) (fun i _ => rows.length - (intOf i).toNat)
        case atStart => exact ⟨0, Nat.zero_le _, rfl, Below.refl _ _⟩
        case round =>
          obtain ⟨k, hk, rfl, HM⟩ := hrel
          have KB := Lib.hid (HB.out.trans (HM.out.mono HB.out.size))
          by_cases hlt : k < rows.length
          · obtain ⟨g1, o1, e1, hrc⟩ := (HLW.out.keep KB.out).at_ HNE.out
            obtain ⟨rfl, rfl⟩ : g0 = g1 ∧ o0 = o1 := by injection e1 with e2; injection e2 with e3 e4; exact ⟨e3, e4⟩
            obtain ⟨ak, ck, hc0, hv⟩ := hrc k hlt
            have ha := allowsAll_any hv ck op kind n cs
            rw [HA.out _ (List.getElem_mem hlt)] at ha
            unfold rA at ha
            have K4 := heapB HM.out H4.out
            have c0 := cellR 0 K4 rfl
            have c1 := cellR 1 K4 rfl
            have c2 := cellR 2 K4 rfl
            clear hrc e1 hv K4
            go_wp2_with fail
            refine ha.mono ?_
            rintro e w5 ⟨rfl, hb5⟩
            have HM5 := Lib.hid (HM.out.trans (hb5.mono HM.out.size))
            clear ha hb5 HM KB hc0 c0 c1 c2
            go_wp2_with fail
            go_round
            case rel => exact ⟨k + 1, by omega, by go_num, HM5⟩
            case measure => simp [intOf]; omega
          · have hkn : k = rows.length := by omega
            subst hkn
            have H6 : Hid (VRow wr (w1.heap.size + 1) (outC op kind rows N 0)) := heapB HM.out H5.out
            have HM0 := Lib.hid (HM.out.mono (show w1.heap.size + 1 ≤ Y.heap.size by omega))
            have hwy := HM.out.size
            clear KB
            go_wp2_with fail
            clear HM
            obtain ⟨wo, hwo⟩ : ∃ wo : World, wo = wr := ⟨_, rfl⟩
            rw [← hwo] at H6 HM0 hwy
            rw [← hwo]
            clear hwo wr
            go_loopw [63] (fun i wr => ∃ k : Nat, k ≤ N ∧ i = .int .i64 k ∧ Hid (Below (w1.heap.size + 1) Y wr) ∧ Hid (VRow wr (w1.heap.size + 1) (outC op kind rows N k)) ∧ wo.heap.size ≤ wr.heap.size) (fun i _ => N - (intOf i).toNat)
            case atStart => exact ⟨0, Nat.zero_le _, rfl, HM0.out, H6.out, Nat.le_refl _⟩
            case round =>
              obtain ⟨k, hk, rfl, HM, KO, hwz⟩ := hrel
              have KB := Lib.hid (HB.out.trans (HM.out.mono (show w.heap.size ≤ w1.heap.size + 1 by omega)))
              by_cases hlt : k < N
              · have K4 := (HM.out.block _ (Nat.lt_succ_self w1.heap.size)).trans H4.out
                have c0 := cellR 0 K4 rfl
                have c1 := cellR 1 K4 rfl
                have c2 := cellR 2 K4 rfl
                have hbeg := begin_any op kind (HD.out.later (.of_below (HB1.out.trans (HM.out.mono (Nat.le_succ _)))))
                unfold rA fnv at hbeg
                clear K4
                go_wp2_with fail
                refine hbeg.mono ?_
                rintro e w3 ⟨T, S, rfl, hT, hb3⟩
                obtain ⟨nt, ct, nr, cr, rfl, rfl, en1, en2⟩ := hT.form
                unfold fnv at hT
                unfold fnv
                have hst0 := store_row 0 (heap_alloc_new w3 (.cells #[.nilFunc, .nilFunc] 95)) (.func (.func nt) #[] ct) (by simp) rfl
                have hst1 := store_row 1 (heap_alloc_new w3 (.cells #[.func (.func nt) #[] ct, .nilFunc] 95)) (.func (.func nr) #[] cr) (by simp) rfl
                have hb4 := (Below.refl w3.heap.size w3).alloc (Nat.le_refl _) (.cells #[.func (.func nt) #[] ct, .func (.func nr) #[] cr] 95)
                have G5 := Lib.hid (heap_alloc_new w3 (.cells #[.func (.func nt) #[] ct, .func (.func nr) #[] cr] 95))
                have GT := Lib.hid (hT.keep hb4)
                have GO : Hid (VRow (w3.alloc (.cells #[.func (.func nt) #[] ct, .func (.func nr) #[] cr] 95)) (w1.heap.size + 1) (outC op kind rows N k)) := heapB hb4 (heapB hb3 KO.out)
                have hwr : w1.heap.size + 1 < wr.heap.size := KO.out.lt
                have hC := hb3.size
                have GM := Lib.hid ((HM.out.trans (hb3.mono (Nat.le_of_lt hwr))).trans (hb4.mono (by omega)))
                have hzq : (w3.alloc (.cells #[.func (.func nt) #[] ct, .func (.func nr) #[] cr] 95)).heap.size = w3.heap.size + 1 := by simp
                clear hT hbeg c0 c1 c2 KO HM KB
                go_wp2_with fail
                clear hst0 hst1 hb3 hb4
                generalize w3.alloc (.cells #[.func (.func nt) #[] ct, .func (.func nr) #[] cr] 95) = Z at *
                obtain ⟨wB, hwB⟩ : ∃ wB : World, wB = wr := ⟨_, rfl⟩
                rw [← hwB] at GT hwr hC hwz
                clear hwB wr
                have hcl : (colL rows k).length = rows.length := by simp [colL]
                go_loopw [70] (fun i wr => ∃ q : Nat, q ≤ rows.length ∧ i = .int .i64 q ∧ Hid (Took wB.heap.size w3.heap.size wr (.func (.func nt) #[] ct) (.func (.func nr) #[] cr) op kind ((colL rows k).take q)) ∧ Hid (Mid wB.heap.size w3.heap.size Z wr)) (fun i _ => rows.length - (intOf i).toNat)
                case atStart => exact ⟨0, Nat.zero_le _, rfl, GT.out, Mid.of_below (Below.refl _ _)⟩
                case round =>
                  obtain ⟨q, hq, rfl, HT, HMI⟩ := hrel
                  have hZY : Y.heap.size ≤ Z.heap.size := GM.out.size
                  have hsB : w1.heap.size + 1 ≤ Z.heap.size := by omega
                  have KM := Lib.hid (GM.out.trans (HMI.out.below (show w1.heap.size + 1 ≤ wB.heap.size by omega) hsB))
                  have KB := Lib.hid (HB.out.trans (KM.out.mono (show w.heap.size ≤ w1.heap.size + 1 by omega)))
                  by_cases hlq : q < rows.length
                  · obtain ⟨g1, o1, e1, hrc⟩ := (HLW.out.keep KB.out).at_ HNE.out
                    obtain ⟨rfl, rfl⟩ : g0 = g1 ∧ o0 = o1 := by injection e1 with e2; injection e2 with e3 e4; exact ⟨e3, e4⟩
                    obtain ⟨ak, ck, hc0, hv⟩ := hrc q hlq
                    have hrl := HN.out _ (List.getElem_mem hlq)
                    have hkr : k < (rows[q]).length := by rw [hrl]; exact hlt
                    obtain ⟨ga, oa, rfl, hca⟩ := hv.at_ (by intro e; rw [e] at hkr; exact absurd hkr (Nat.not_lt_zero _))
                    obtain ⟨q0, q1⟩ := hca k hkr
                    rw [hrl] at hc0
                    have HU : Hid ((rows[q])[k].Ok) := hv.ok _ (List.getElem_mem hkr)
                    obtain ⟨u, hu⟩ : ∃ u, u = (rows[q])[k] := ⟨_, rfl⟩
                    rw [← hu] at q0 q1 HU
                    have HTS : Hid ((colL rows k).take q ++ [u] = (colL rows k).take (q + 1)) := by
                      show _ = _
                      rw [← takeS (colL rows k) q (by rw [hcl]; exact hlq)]
                      congr 1
                      rw [hu]
                      simp [colL, hkr]
                    have Q0 := Lib.hid q0
                    have Q1 := Lib.hid q1
                    have HOKS : Hid (∀ v ∈ (colL rows k).take q, v.Ok) := by
                      intro v hv9
                      obtain ⟨r, hr, rfl⟩ := List.mem_map.1 (List.mem_of_mem_take hv9)
                      obtain ⟨j, hj, rfl⟩ := List.getElem_of_mem hr
                      obtain ⟨_, _, _, hvj⟩ := hrc j hj
                      rw [List.getD_eq_getElem?_getD]
                      have : k < (rows[j]).length := by rw [HN.out _ (List.getElem_mem hj)]; exact hlt
                      simp only [List.getElem?_eq_getElem this, Option.getD_some]
                      exact hvj.ok _ (List.getElem_mem this)
                    have K5 := Lib.hid (HMI.out.heap G5.out (.inr (Nat.le_refl _)))
                    clear hrc e1 hv hca q0 q1 hu hkr hrl
                    go_wp2_with fail
                    refine (wpIn_wide (n := 0)).1 ?_
                    refine region_det (by kernel_rfl) (I := fun listed a' w' => Hid (listed.getD 6 false = false → Below wr.heap.size wr w') ∧ Hid (listed.getD 6 false = true → Took wB.heap.size w3.heap.size w' (.func (.func nt) #[] ct) (.func (.func nr) #[] cr) op kind ((colL rows k).take (q + 1)) ∧ Mid wB.heap.size w3.heap.size wr w') ∧ Hid (listed.getD 6 false = true → listed.getD 1 false = true ∧ listed.getD 5 false = true) ∧ a' = ⟨#[Value.int IntKind.i64 op, Value.int IntKind.i64 kind, Value.slice (some ⟨g0, o0, none⟩) rows.length cap, undef, undef, undef, u6, u7, Value.pointer (some ⟨w1.heap.size, 0, none⟩), Value.int IntKind.i64 0, Value.slice (some ⟨(w1.heap.size + 1), 0, none⟩) N N, undef, u12, undef, u14, Value.int IntKind.i64 ↑k, Value.pointer (some ⟨w3.heap.size, 0, none⟩), undef, Value.slice (some ⟨ga, oa, none⟩) N ck, Value.tuple #[Value.agg #[Value.int IntKind.i64 op, Value.int IntKind.i64 kind, Value.func (Fn.func n) #[] cs], Value.int IntKind.i64 0], Value.int IntKind.i64 op, Value.int IntKind.i64 kind, Value.tuple #[Value.agg #[Value.int IntKind.i64 op, Value.int IntKind.i64 kind, Value.func (Fn.func n) #[] cs], Value.int IntKind.i64 0], Value.agg #[Value.int IntKind.i64 op, Value.int IntKind.i64 kind, Value.func (Fn.func n) #[] cs], Value.int IntKind.i64 0, Value.bool false, Value.int IntKind.i64 0, Value.bool false, undef, Value.bool false, Value.slice (some ⟨g0, o0, none⟩) rows.length cap, Value.int IntKind.i64 ↑rows.length, Value.bool false, Value.slice (some ⟨g0, o0, none⟩) rows.length cap, Value.pointer (some ⟨g0, o0, none⟩), Value.slice ai N ci, Value.int IntKind.i64 ↑N, Value.slice (some ⟨(w1.heap.size + 1), 0, none⟩) N N, Value.slice (some ⟨g0, o0, none⟩) rows.length cap, Value.int IntKind.i64 ↑rows.length, Value.int IntKind.i64 ↑rows.length, Value.bool false, u42, u43, u44, u45, u46, u47, u48, u49, Value.slice (some ⟨g0, o0, none⟩) rows.length cap, Value.int IntKind.i64 ↑rows.length, Value.int IntKind.i64 ↑rows.length, Value.bool false, u54, u55, u56, u57, u58, u59, u60, Value.slice (some ⟨(w1.heap.size + 1), 0, none⟩) N N, Value.int IntKind.i64 ↑N, Value.int IntKind.i64 ↑k, Value.bool true, Value.int IntKind.i64 ↑k, Value.agg #[Value.int IntKind.i64 op, Value.int IntKind.i64 kind, Value.func (Fn.func n) #[] cs], Value.agg #[Value.func (Fn.func nt) #[] ct, Value.func (Fn.func nr) #[] cr], Value.slice (some ⟨g0, o0, none⟩) rows.length cap, Value.int IntKind.i64 ↑rows.length, Value.int IntKind.i64 ↑q, Value.bool true, Value.pointer (some ⟨g0, (o0 + q), none⟩), Value.slice (some ⟨ga, oa, none⟩) N ck, (if listed.getD 0 false = true then Value.pointer (some ⟨w3.heap.size, 0, none⟩) else u74), (if listed.getD 1 false = true then Value.func (.func nt) #[] ct else u75), (if listed.getD 2 false = true then Value.slice (some ⟨ga, oa, none⟩) N ck else u76), (if listed.getD 3 false = true then Value.int IntKind.i64 ↑k else u77), (if listed.getD 4 false = true then Value.pointer (some ⟨ga, (oa + k * 2), none⟩) else u78), (if listed.getD 5 false = true then Value.agg #[Value.int IntKind.u64 ↑u.x, Value.int IntKind.i64 u.p] else u79), (if listed.getD 6 false = true then Value.tuple #[] else u80), u81, u82, u83, u84, u85, u86, u87, u88, undef], []⟩) (hup_check (by kernel_rfl)) ?h0 ?step ?fin
                    case h0 => exact ⟨(fun _ => (Below.refl _ _).drew), (fun h => by simp at h), (fun h => by simp at h), rfl⟩
                    case step =>
                      intro listed a' w' i hs hbi hdep hi ⟨IB, IC, J6, ha⟩
                      obtain ⟨ls⟩ := listed
                      match ls, hs with
                      | [x0, x1, x2, x3, x4, x5, x6], _ =>
                      subst ha
                      have hi' : i = 0 ∨ i = 1 ∨ i = 2 ∨ i = 3 ∨ i = 4 ∨ i = 5 ∨ i = 6 := by simp at hi; omega
                      have hltz : (k : Int) < (N : Int) := by omega
                      rcases hi' with rfl | rfl | rfl | rfl | rfl | rfl | rfl
                      · obtain rfl : x0 = false := by simpa using hbi
                        refine wpOpIn_plain (v := Value.pointer (some ⟨w3.heap.size, 0, none⟩)) (w' := w') rfl rfl (by simp [Oper.semAt, execOp, go_sem]) ?_
                        exact ⟨IB, IC, J6, rfl⟩
                      · obtain rfl : x1 = false := by simpa using hbi
                        obtain rfl : x0 = true := hdep _ rfl ⟨0, .data⟩ (by simp) rfl
                        obtain rfl : x6 = false := Bool.eq_false_iff.2 fun h => by have := (J6.out h).1; cases this
                        have bx := IB.out rfl
                        have t0 := cellR 0 (heapB bx K5.out) rfl
                        refine wpOpIn_plain (v := Value.func (.func nt) #[] ct) (w' := w') rfl rfl (by simp [Oper.semAt, execOp, go_sem, t0]) ?_
                        exact ⟨IB, IC, (fun h => ⟨rfl, (J6.out h).2⟩), rfl⟩
                      · obtain rfl : x2 = false := by simpa using hbi
                        refine wpOpIn_plain rfl rfl rfl ?_
                        exact ⟨IB, IC, J6, rfl⟩
                      · obtain rfl : x3 = false := by simpa using hbi
                        refine wpOpIn_plain rfl rfl rfl ?_
                        exact ⟨IB, IC, J6, rfl⟩
                      · obtain rfl : x4 = false := by simpa using hbi
                        obtain rfl : x2 = true := hdep _ rfl ⟨2, .data⟩ (by simp) rfl
                        obtain rfl : x3 = true := hdep _ rfl ⟨3, .data⟩ (by simp) rfl
                        refine wpOpIn_plain (v := Value.pointer (some ⟨ga, (oa + k * 2), none⟩)) (w' := w') rfl rfl (by simp [Oper.semAt, execOp, go_sem, hltz]) ?_
                        exact ⟨IB, IC, J6, rfl⟩
                      · obtain rfl : x5 = false := by simpa using hbi
                        obtain rfl : x4 = true := hdep _ rfl ⟨4, .data⟩ (by simp) rfl
                        obtain rfl : x6 = false := Bool.eq_false_iff.2 fun h => by have := (J6.out h).2; cases this
                        have bx := IB.out rfl
                        have x0 := kcell bx Q0.out
                        have x1 := kcell bx Q1.out
                        refine wpOpIn_plain (v := Value.agg #[Value.int IntKind.u64 ↑u.x, Value.int IntKind.i64 u.p]) (w' := w') rfl rfl (by simp [Oper.semAt, execOp, go_sem, x0, x1]) ?_
                        exact ⟨IB, IC, (fun h => ⟨(J6.out h).1, rfl⟩), rfl⟩
                      · obtain rfl : x6 = false := by simpa using hbi
                        obtain rfl : x1 = true := hdep _ rfl ⟨1, .data⟩ (by simp) rfl
                        obtain rfl : x5 = true := hdep _ rfl ⟨5, .data⟩ (by simp) rfl
                        have bx := IB.out rfl
                        have hcw : w3.heap.size ≤ wr.heap.size := Nat.le_of_lt (Array.getElem?_eq_some_iff.1 K5.out).1
                        have tk := take_any (u := u) (show Took wB.heap.size w3.heap.size w' (fnv nt ct) (fnv nr cr) op kind ((colL rows k).take q) from HT.out.keep (bx.mono hcw)) HOKS.out HU.out
                        unfold vA at tk
                        refine wpOpIn_call (args := #[Value.agg #[Value.int IntKind.u64 ↑u.x, Value.int IntKind.i64 u.p]] ++ ct) rfl rfl (sem_callV1 rfl rfl rfl en1) tk ?_
                        rintro e W ⟨rfl, hT9, hM9⟩
                        rw [HTS.out] at hT9
                        exact ⟨_, rfl, (fun h => by cases h), (fun _ => ⟨hT9, (Mid.of_below bx).trans hM9⟩), (fun _ => ⟨rfl, rfl⟩), rfl⟩
                    case fin =>
                    intro listed a' wz hs hall ⟨IB, IC, J6, ha⟩
                    obtain ⟨ls⟩ := listed
                    match ls, hs with
                    | [x0, x1, x2, x3, x4, x5, x6], _ =>
                    obtain rfl : x0 = true := hall 0 (by simp)
                    obtain rfl : x1 = true := hall 1 (by simp)
                    obtain rfl : x2 = true := hall 2 (by simp)
                    obtain rfl : x3 = true := hall 3 (by simp)
                    obtain rfl : x4 = true := hall 4 (by simp)
                    obtain rfl : x5 = true := hall 5 (by simp)
                    obtain rfl : x6 = true := hall 6 (by simp)
                    subst ha
                    have hfin := IC.out rfl
                    have HT9 := Lib.hid hfin.1
                    have HM9 := Lib.hid (HMI.out.trans hfin.2)
                    clear IB IC J6 hfin hall hs HT HMI KM KB Q0 Q1 HU HTS HOKS K5
                    dsimp only [Exit.then, Exit.inBlock]
                    go_wp2_with fail
                    go_round
                    case rel => exact ⟨q + 1, by omega, by go_num, HT9, HM9⟩
                    case measure => simp [intOf]; omega
                  · have hkn : q = rows.length := by omega
                    subst hkn
                    have hT9 := HT.out
                    rw [show (colL rows k).take rows.length = colL rows k by rw [← hcl, List.take_length]] at hT9
                    have hcok : ∀ v ∈ colL rows k, v.Ok := by
                      intro v hv9
                      obtain ⟨r, hr, rfl⟩ := List.mem_map.1 hv9
                      obtain ⟨j, hj, rfl⟩ := List.getElem_of_mem hr
                      obtain ⟨_, _, _, hrc⟩ := (HLW.out.keep KB.out).at_ HNE.out
                      obtain ⟨_, _, _, hvj⟩ := hrc j hj
                      rw [List.getD_eq_getElem?_getD]
                      have : k < (rows[j]).length := by rw [HN.out _ (List.getElem_mem hj)]; exact hlt
                      simp only [List.getElem?_eq_getElem this, Option.getD_some]
                      exact hvj.ok _ (List.getElem_mem this)
                    have rs := Lib.hid (result_any (T := .func (.func nt) #[] ct) (m := nr) (ds := cr) hT9 hcok (by rw [hcl]; exact hlen))
                    have t1 := cellR 1 (HMI.out.heap G5.out (.inr (Nat.le_refl _))) rfl
                    have K6 : Hid (VRow wr (w1.heap.size + 1) (outC op kind rows N k)) := HMI.out.heap GO.out (.inl hwr)
                    have eg2 : ∀ args w, (callFunc nr args).run Try.prog w = .ok (.enter nr args) w := en2
                    have hwrs : wB.heap.size ≤ wr.heap.size := by have := HMI.out.size; omega
                    clear hT9 hcok HT
                    go_wp2_with fail
                    refine rs.out.mono ?_
                    rintro e w10 ⟨rfl, hb10⟩
                    have hk2 : k < (outC op kind rows N k).length := by rw [outC_len]; exact hlt
                    obtain ⟨u, hu⟩ : ∃ u, u = accV op kind (colL rows k) := ⟨_, rfl⟩
                    rw [← hu]
                    have L6 := Lib.hid (heapB hb10 K6.out)
                    have hs2 : Sole (w1.heap.size + 1) w10 ((w10.setCell ⟨w1.heap.size + 1, k * 2, none⟩ (.int .u64 u.x)).setCell ⟨w1.heap.size + 1, k * 2 + 1, none⟩ (.int .i64 u.p)) := (Sole.set _).trans (Sole.set _)
                    have M6 : Hid (VRow ((w10.setCell ⟨w1.heap.size + 1, k * 2, none⟩ (.int .u64 u.x)).setCell ⟨w1.heap.size + 1, k * 2 + 1, none⟩ (.int .i64 u.p)) (w1.heap.size + 1) (outC op kind rows N (k + 1))) := by
                      show VRow _ _ _
                      rw [← outC_set, ← hu]
                      exact VRow.put L6.out k hk2 u
                    have hw10 : wr.heap.size ≤ w10.heap.size := hb10.size
                    have MB := Lib.hid ((KM.out.trans (hb10.mono (show w1.heap.size + 1 ≤ wr.heap.size by omega))).trans (hs2.below (Nat.le_refl _) (by omega)))
                    have hsz9 : wo.heap.size ≤ ((w10.setCell ⟨w1.heap.size + 1, k * 2, none⟩ (.int .u64 u.x)).setCell ⟨w1.heap.size + 1, k * 2 + 1, none⟩ (.int .i64 u.p)).heap.size := by have := hs2.size; omega
                    have d0 := cellR (k * 2) L6.out (rowV_x _ k hk2)
                    have d1 := cellR (k * 2 + 1) L6.out (rowV_p _ k hk2)
                    have f0 := frozen_of_row w10 _ (k * 2) _ _ L6.out
                    have f1 := frozen_of_row w10 _ (k * 2 + 1) _ _ L6.out
                    have l0 : w1.heap.size + 1 < w10.heap.size := (Array.getElem?_eq_some_iff.1 L6.out).1
                    unfold vA
                    clear rs t1 K6 KM KB HMI hb10 hs2 L6 hu hw10
                    go_wp2_with fail
                    go_round
                    case rel => exact ⟨k + 1, by omega, by go_num, MB, M6, hsz9⟩
                    case measure => simp [intOf]; omega
              · have hkn : k = N := by omega
                subst hkn
                go_wp2_with fail
                go_ret2
                exact ⟨w1.heap.size + 1, by omega, rfl, KO.out, KB.out⟩
end Go.Proofs.Ytjcdnaandbockaa

namespace Go.Proofs.Ytjcdnaandbockaa
open Go.RowKit Go.Shelf
set_option maxRecDepth 100000
set_option maxHeartbeats 1000000

theorem Vls.take {w : World} {a : Option Addr} {l : List Vl} (h : Vls w a l) (k : Nat) : Vls w a (l.take k) := by
  refine ⟨by have := h.len; rw [List.length_take]; omega, fun u hu => h.ok u (List.mem_of_mem_take hu), fun hne => ?_⟩
  obtain ⟨g, o, ha, hc⟩ := h.at_ (by intro e; rw [e] at hne; simp at hne)
  refine ⟨g, o, ha, fun i hi => ?_⟩
  have hi2 : i < l.length := by rw [List.length_take] at hi; omega
  have := hc i hi2
  rwa [List.getElem_take]
theorem VRow.putx {w : World} {g : Nat} {l : List Vl} (h : VRow w g l) (k : Nat) (hk : k < l.length) (x : Nat) : VRow (w.setCell ⟨g, k * 2, none⟩ (.int .u64 x)) g (l.set k ⟨x, (l[k]).p⟩) := by
  have h1 := heap_setCell_same w g (k * 2) _ _ (.int .u64 x) h
  unfold VRow
  rw [h1]
  congr 2
  apply Array.ext_getElem?
  intro j
  rw [Array.getElem?_setIfInBounds]
  by_cases hj : j < 2 * l.length
  · rw [rowV_get (l.set k ⟨x, (l[k]).p⟩) j (by simpa using hj), rowV_get l j hj]
    simp only [List.getD_eq_getElem?_getD, List.getElem?_set, rowV_size]
    by_cases c2 : k * 2 = j
    · have d1 : k = j / 2 := by omega
      have d2 : j % 2 = 0 := by omega
      rw [if_pos c2, if_pos (by omega), if_pos d2, if_pos d1]
      simp [hk]
    · rw [if_neg c2]
      by_cases d1 : k = j / 2
      · have d2 : ¬ j % 2 = 0 := by omega
        subst d1
        simp [d2, hk]
      · rw [if_neg d1]
  · have c2 : ¬ k * 2 = j := by omega
    rw [if_neg c2, Array.getElem?_eq_none (by simpa using hj), Array.getElem?_eq_none (by simpa using hj)]
def bare (u : Vl) : Vl := ⟨u.x, 0⟩
/-- the first k values without their places -/
def ownL (l : List Vl) (k : Nat) : List Vl := (List.range l.length).map fun i => if i < k then bare (l.getD i ⟨0, 0⟩) else ⟨0, 0⟩
@[simp] theorem ownL_len (l : List Vl) (k : Nat) : (ownL l k).length = l.length := by simp [ownL]
theorem ownL_zero (l : List Vl) : ownL l 0 = List.replicate l.length ⟨0, 0⟩ := by
  apply List.ext_getElem
  · simp
  · intro i h1 h2; simp [ownL]
theorem ownL_set (l : List Vl) (k : Nat) (hk : k < l.length) : (ownL l k).set k ⟨(l[k]).x, ((ownL l k)[k]'(by simpa using hk)).p⟩ = ownL l (k + 1) := by
  apply List.ext_getElem
  · simp
  · intro i h1 h2
    simp only [List.getElem_set, ownL, List.getElem_map, List.getElem_range]
    by_cases e : k = i
    · subst e
      simp [bare, hk]
    · rw [if_neg e]
      by_cases h : i < k
      · rw [if_pos h, if_pos (by omega)]
      · rw [if_neg h, if_neg (by omega)]
theorem ownL_all (l : List Vl) : ownL l l.length = l.map bare := by
  apply List.ext_getElem
  · simp
  · intro i h1 h2
    have h3 : i < l.length := by simpa using h2
    simp [ownL, h3]
theorem bare_ok {u : Vl} (h : u.Ok) : (bare u).Ok := ok0 h.x
theorem foldl_valid (op kind : Int) : ∀ (l : List Vl) (a : Vl), allowsB kind a = true → allowsL kind l = true → allowsB kind (l.foldl (opV op kind) a) = true
  | [], _, ha, _ => ha
  | u :: l, a, ha, h => by
    simp only [allowsL, List.all_cons, Bool.and_eq_true] at h
    exact foldl_valid op kind l _ (opV_valid op kind a u ha h.1) h.2
theorem accV_valid (op kind : Int) {l : List Vl} (h : allowsL kind l = true) : allowsB kind (accV op kind l) = true := by
  unfold accV
  split
  · simp [allowsB]
  · cases l with
    | nil => simp [accG, allowsB]
    | cons a l =>
      simp only [allowsL, List.all_cons, Bool.and_eq_true] at h
      refine foldl_valid op kind l _ ?_ h.2
      unfold firstV
      split
      · simp [allowsB]
      · exact h.1
theorem allowsL_take (kind : Int) {l : List Vl} (h : allowsL kind l = true) (k : Nat) : allowsL kind (l.take k) = true := by
  unfold allowsL at *
  rw [List.all_eq_true] at *
  exact fun u hu => h u (List.mem_of_mem_take hu)
theorem scanV_valid (op kind : Int) {l : List Vl} (h : allowsL kind l = true) : allowsL kind (scanV op kind l) = true := by
  unfold scanV outL
  unfold allowsL
  rw [List.all_eq_true]
  intro u hu
  obtain ⟨i, hi, rfl⟩ := List.mem_map.1 hu
  rw [if_pos (List.mem_range.1 hi)]
  exact accV_valid op kind (allowsL_take kind h _)
theorem scanV_ok (op kind : Int) {l : List Vl} (h : ∀ u ∈ l, u.Ok) : ∀ u ∈ scanV op kind l, u.Ok := by
  intro u hu
  unfold scanV outL at hu
  obtain ⟨i, hi, rfl⟩ := List.mem_map.1 hu
  rw [if_pos (List.mem_range.1 hi)]
  exact accV_ok op kind fun v hv => h v (List.mem_of_mem_take hv)
@[simp] theorem scanV_len (op kind : Int) (l : List Vl) : (scanV op kind l).length = l.length := by simp [scanV]
theorem scanV_at (op kind : Int) (l : List Vl) (k : Nat) (h : k < l.length) : (scanV op kind l)[k]'(by simpa using h) = accV op kind (l.take (k + 1)) := by
  simp [scanV, outL, h]
theorem outC_at (op kind : Int) (l m : List Vl) (hm : m.length = l.length) (k : Nat) (h : k < l.length) : (outC op kind [l, m] l.length l.length)[k]'(by simpa using h) = accV op kind [l[k], m[k]'(by omega)] := by
  have h2 : k < m.length := by omega
  simp [outC, h, h2, colL]
theorem red_good {op kind : Int} {W : World} {a : Option Addr} {l : List Vl} (hF : findE op kind = 0) (h : Vls W a l) (hne : l ≠ []) (hA : allowsL kind l = true) (cap : Nat) :
    Calls Try.prog 23 #[.int .i64 op, .int .i64 kind, .slice a l.length cap] W fun e w' => e = .returned (.tuple #[.agg #[.int .u64 (accV op kind l).x, .int .i64 (accV op kind l).p], .int .i64 0]) ∧ Below W.heap.size W w' := by
  have hE : redE op kind l = 0 := by unfold redE; rw [if_neg (by rw [hF]; decide), if_neg hne, if_pos hA]
  have := Reduce_any op kind h cap
  rw [hE, show redV op kind l = accV op kind l by unfold redV; rw [if_pos hE]] at this
  exact this
theorem scan_good {op kind : Int} {W : World} {a : Option Addr} {l : List Vl} (hF : findE op kind = 0) (h : Vls W a l) (hA : allowsL kind l = true) (h44 : l.length ≤ 17592186044416) (cap : Nat) :
    Calls Try.prog 31 #[.int .i64 op, .int .i64 kind, .slice a l.length cap] W fun e w' => ∃ g, e = .returned (.tuple #[.slice (some ⟨g, 0, none⟩) l.length l.length, .int .i64 0]) ∧ VRow w' g (scanV op kind l) ∧ Below W.heap.size W w' := by
  have hE : scanE op kind l = 0 := by unfold scanE; rw [if_neg (by rw [hF]; decide), if_pos hA]
  refine (Scan_any op kind h h44 cap).mono ?_
  rintro e w' ⟨⟨h1, _⟩ | ⟨_, g, _, rfl, hr⟩, hb⟩
  · exact absurd hE h1
  · exact ⟨g, rfl, hr, hb⟩
end Go.Proofs.Ytjcdnaandbockaa

namespace Go.Proofs.Ytjcdnaandbockaa
open Go.RowKit Go.Shelf
attribute [local go_sem] Oper.semAt_some
set_option maxRecDepth 100000
set_option maxHeartbeats 2000000

theorem pair_vls {w : World} {g : Nat} {u v : Vl} (hG : w.heap[g]? = some (.cells #[.int .u64 u.x, .int .i64 u.p, .int .u64 v.x, .int .i64 v.p] 54 (0, 0))) (hu : u.Ok) (hv : v.Ok) : Vls w (some ⟨g, 0, none⟩) [u, v] := by
  refine ⟨by simp, ?_, fun _ => ⟨g, 0, rfl, fun i hi => ?_⟩⟩
  · intro q hq
    simp at hq
    rcases hq with rfl | rfl <;> assumption
  · have hi2 : i = 0 ∨ i = 1 := by simp at hi; omega
    rcases hi2 with rfl | rfl
    · exact ⟨cellR 0 hG rfl, cellR 1 hG rfl⟩
    · exact ⟨cellR 2 hG rfl, cellR 3 hG rfl⟩
theorem pair_ok {kind : Int} {u v : Vl} (hu : allowsB kind u = true) (hv : allowsB kind v = true) : allowsL kind [u, v] = true := by
  simp [allowsL, hu, hv]
theorem sem_call3 {P : Program} {o : Oper} {a : Act} {w : World} {g : FuncId} {x y z : Operand} {ts : Array TypeId} {vx vy vz : Value} (hop : o.op = .call { callee := .value (.func g), args := #[x, y, z], argTypes := ts }) (hx : a.eval x = vx) (hy : a.eval y = vy) (hz : a.eval z = vz)
    (eg : ∀ args w, (callFunc g args).run P w = .ok (.enter g args) w) : (o.semAt none a.eval).run P w = .ok (.enter g #[vx, vy, vz]) w :=
  sem_call hop (by simp [hx, hy, hz]) eg
theorem SumScans_walk (op kind : Int) {w : World} {a : Option Addr} {l : List Vl} (h : Vls w a l) (cap : Nat) (hcap : l.length ≤ cap) : Calls Try.prog 9 #[.int .i64 op, .int .i64 kind, .slice a l.length cap] w fun e w' => e = .returned (.bool true) ∧ Below w.heap.size w w' := by
  have hlen := h.len
  have HLW := Lib.hid h
  clear h
  by_cases h1 : 20 < l.length
  · have e1 : decide ((20 : Int) < (l.length : Int)) = true := decide_eq_true (by omega)
    clear h1
    go_enter Try.func9, Try.ntmps9
    go_wp2_with fail
    refine (works_any _).mono ?_
    rintro e w9 ⟨rfl, hb9⟩
    go_wp2_with fail
    go_ret
    exact ⟨rfl, hb9⟩
  · have e1 : decide ((20 : Int) < (l.length : Int)) = false := decide_eq_false (by omega)
    by_cases h2 : l.length = 0
    · have e2 : ((l.length : Int) == 0) = true := beq_iff_eq.2 (by omega)
      clear h1 h2
      go_enter Try.func9, Try.ntmps9
      go_wp2_with fail
      refine (works_any _).mono ?_
      rintro e w9 ⟨rfl, hb9⟩
      go_wp2_with fail
      go_ret
      exact ⟨rfl, hb9⟩
    · have e2 : ((l.length : Int) == 0) = false := beq_eq_false_iff_ne.2 (by omega)
      have hck := Check_any op kind w
      by_cases hF : findE op kind = 0
      · rw [hF] at hck
        have hF0 := Lib.hid hF
        obtain ⟨N, hN⟩ : ∃ N, N = l.length := ⟨_, rfl⟩
        have HN := Lib.hid hN
        have h20 : N ≤ 20 := by omega
        have h0N : 0 < N := by omega
        rw [← hN] at e1 e2 hcap hlen ⊢
        clear hF h1 h2 hN
        by_cases hk3 : kind = 3
        · have q1 : ((kind != 3) : Bool) = false := by rw [hk3]; rfl
          have HK3 := Lib.hid hk3
          clear hk3
          go_enter Try.func9, Try.ntmps9
          go_wp2_with fail
          refine hck.mono ?_
          rintro e X ⟨rfl, hb1⟩
          have GB := Lib.hid hb1
          have GL := Lib.hid (HLW.out.keep hb1)
          have GA : Hid (allowsL kind l = true) := by show _ = _; unfold allowsL; rw [List.all_eq_true]; intro u _; unfold allowsB; rw [HK3.out]; simp
          have GN : Hid (l.length = N) := HN.out.symm
          obtain ⟨m, hm⟩ : ∃ m, m = l := ⟨_, rfl⟩
          rw [← hm] at GL GA GN
          obtain ⟨cap', hcap'⟩ : ∃ c, c = cap := ⟨_, rfl⟩
          rw [← hcap'] at hcap ⊢
          clear hck hb1 HLW HN hm hcap' HK3
          have hsc := scan_good hF0.out GL.out GA.out (by rw [GN.out]; omega) cap'
          rw [GN.out] at hsc
          go_wp2_with fail
          refine hsc.mono ?_
          rintro e w2 ⟨gs, rfl, hsr, hb2⟩
          have HS := Lib.hid hsr
          have HL := Lib.hid (GL.out.keep hb2)
          have HB := Lib.hid (GB.out.trans (hb2.mono GB.out.size))
          clear hsc hsr hb2 GL GB
          go_wp2_with fail
          go_loopw [73] (fun i wr => ∃ k : Nat, k ≤ N ∧ i = .int .i64 k ∧ Hid (Below w2.heap.size w2 wr)) (fun i _ => N - (intOf i).toNat)
          case atStart => exact ⟨0, Nat.zero_le _, rfl, Below.refl _ _⟩
          case round =>
            obtain ⟨k, hk, rfl, HM⟩ := hrel
            by_cases hlt : k < N
            · have hkm : k < m.length := by rw [GN.out]; exact hlt
              have hred := red_good hF0.out ((HL.out.keep HM.out).take (k + 1)) (by intro e; have h9 := congrArg List.length e; rw [List.length_take, List.length_nil] at h9; omega) (allowsL_take kind GA.out (k + 1)) cap'
              rw [show (m.take (k + 1)).length = k + 1 by rw [List.length_take]; omega] at hred
              obtain ⟨u, hu⟩ : ∃ u, u = accV op kind (m.take (k + 1)) := ⟨_, rfl⟩
              rw [← hu] at hred
              have hat := scanV_at op kind m k hkm
              have hks : k < (scanV op kind m).length := by rw [scanV_len]; exact hkm
              have hsx := rowV_x _ k hks
              have hsp := rowV_p _ k hks
              rw [hat, ← hu] at hsx hsp
              have hq := neq_V u.x u.x u.p u.p
              rw [show eqV ⟨u.x, u.p⟩ ⟨u.x, u.p⟩ = true from (eqV_iff _ _).2 rfl] at hq
              have hred2 := Lib.hid hred
              have hk1 : (0 : Int) ≤ (k : Int) + 1 := by omega
              have hk2 : (k : Int) + 1 ≤ (cap' : Int) := by omega
              clear hu hat hred
              go_wp2_with fail
              refine hred2.out.mono ?_
              rintro e w5 ⟨rfl, hb5⟩
              have hn5 := heap_alloc_new w5 (.cells #[.int .u64 u.x, .int .i64 u.p] 54)
              have hb6 := (Below.refl w5.heap.size w5).alloc (Nat.le_refl _) (.cells #[.int .u64 u.x, .int .i64 u.p] 54)
              have KS := heapB hb6 (heapB hb5 (heapB HM.out HS.out))
              have y0 := cellR 0 hn5 rfl
              have y1 := cellR 1 hn5 rfl
              have z0 := cellR (k * 2) KS hsx
              have z1 := cellR (k * 2 + 1) KS hsp
              have HM6 := Lib.hid ((HM.out.trans (hb5.mono HM.out.size)).trans (hb6.mono (Nat.le_trans HM.out.size hb5.size)))
              clear hred2 hb5 hn5 hb6 KS HM hsx hsp
              go_wp2_with fail
              generalize w5.alloc (.cells #[.int .u64 u.x, .int .i64 u.p] 54) = X5 at *
              go_quiet (fail)
              go_wp2_with fail
              go_round
              case rel => exact ⟨k + 1, by omega, by go_num, below_drewN HM6.out _⟩
              case measure => simp [intOf]; omega
            · have hkn : k = N := by omega
              subst hkn
              obtain ⟨wa, hwa⟩ : ∃ wa : World, wa = wr := ⟨_, rfl⟩
              rw [← hwa] at HM
              rw [← hwa]
              obtain ⟨N, hN9⟩ : ∃ n, n = k := ⟨_, rfl⟩
              rw [← hN9] at e1 e2 hlen h20 h0N GN hcap
              rw [← hN9]
              clear hwa hN9
              have hb6 := (Below.refl wa.heap.size wa).alloc (Nat.le_refl _) (.cells #[.slice a N cap', .slice (some ⟨gs, 0, none⟩) N N] 52)
              have hn6 := heap_alloc_new wa (.cells #[.slice a N cap', .slice (some ⟨gs, 0, none⟩) N N] 52)
              have hvs : Vls (wa.alloc (.cells #[.slice a N cap', .slice (some ⟨gs, 0, none⟩) N N] 52)) (some ⟨gs, 0, none⟩) (scanV op kind m) := VRow.vls (show VRow _ _ _ from heapB hb6 (heapB HM.out HS.out)) (by rw [scanV_len, GN.out]; omega) (scanV_ok op kind HL.out.ok)
              have hvl := (HL.out.keep HM.out).keep hb6
              have hrw : Rws (wa.alloc (.cells #[.slice a N cap', .slice (some ⟨gs, 0, none⟩) N N] 52)) (some ⟨wa.heap.size, 0, none⟩) [m, scanV op kind m] := by
                refine ⟨by simp, fun _ => ⟨_, 0, rfl, fun i hi => ?_⟩⟩
                have hi2 : i = 0 ∨ i = 1 := by simp at hi; omega
                rcases hi2 with rfl | rfl
                · exact ⟨_, cap', by rw [cellR 0 hn6 rfl]; simp [GN.out], hvl⟩
                · exact ⟨_, N, by rw [cellR 1 hn6 rfl]; simp [GN.out], hvs⟩
              have hrd := Reduces_ok op kind hrw N (by omega) (by simp) (by intro r hr; simp at hr; rcases hr with rfl | rfl; exact GN.out; rw [scanV_len]; exact GN.out) (by intro r hr; simp at hr; rcases hr with rfl | rfl; exact GA.out; exact scanV_valid op kind GA.out) hF0.out 2
              have HRD := Lib.hid hrd
              have HM6 := Lib.hid ((HB.out.trans (HM.out.mono HB.out.size)).trans (hb6.mono (Nat.le_trans HB.out.size HM.out.size)))
              have KL := Lib.hid hvl
              have KS := Lib.hid (heapB hb6 (heapB HM.out HS.out))
              clear hb6 hn6 hvs hvl hrw hrd HM HB HL HS
              go_wp2_with fail
              generalize wa.alloc (.cells #[.slice a N cap', .slice (some ⟨gs, 0, none⟩) N N] 52) = X6 at *
              refine HRD.out.mono ?_
              rintro e w7 ⟨go, _, rfl, hro, hb7⟩
              have HO := Lib.hid hro
              have HL := Lib.hid (KL.out.keep hb7)
              have HS := Lib.hid (heapB hb7 KS.out)
              have HB := Lib.hid (HM6.out.trans (hb7.mono HM6.out.size))
              clear HRD HM6 KL KS hro hb7
              go_wp2_with fail
              go_loopw [117] (fun i wr => ∃ k : Nat, k ≤ N ∧ i = .int .i64 k ∧ Hid (Below w7.heap.size w7 wr)) (fun i _ => N - (intOf i).toNat)
              case atStart => exact ⟨0, Nat.zero_le _, rfl, Below.refl _ _⟩
              case round =>
                obtain ⟨k, hk, rfl, HM⟩ := hrel
                by_cases hlt : k < N
                · have hkm : k < m.length := by rw [GN.out]; exact hlt
                  obtain ⟨ga, oa, hga, hca⟩ := (HL.out.keep HM.out).at_ (by intro e; rw [e] at hkm; exact absurd hkm (Nat.not_lt_zero _))
                  subst hga
                  obtain ⟨x0, x1⟩ := hca k hkm
                  have hks : k < (scanV op kind m).length := by rw [scanV_len]; exact hkm
                  have HUO : Hid ((m[k]).Ok) := HL.out.ok _ (List.getElem_mem hkm)
                  have HVO : Hid (((scanV op kind m)[k]).Ok) := scanV_ok op kind HL.out.ok _ (List.getElem_mem hks)
                  have HUA : Hid (allowsB kind m[k] = true) := (List.all_eq_true.1 GA.out) _ (List.getElem_mem hkm)
                  have HVA : Hid (allowsB kind (scanV op kind m)[k] = true) := (List.all_eq_true.1 (scanV_valid op kind GA.out)) _ (List.getElem_mem hks)
                  have hoc := outC_at op kind m (scanV op kind m) (scanV_len op kind m) k hkm
                  have hko : k < (outC op kind [m, scanV op kind m] N N).length := by rw [outC_len]; exact hlt
                  have hcx := rowV_x _ k hko
                  have hcp := rowV_p _ k hko
                  have hsx := rowV_x _ k hks
                  have hsp := rowV_p _ k hks
                  rw [show (outC op kind [m, scanV op kind m] N N)[k] = accV op kind [m[k], (scanV op kind m)[k]] by simp only [← GN.out]; exact hoc] at hcx hcp
                  obtain ⟨u, hu⟩ : ∃ u, u = m[k] := ⟨_, rfl⟩
                  obtain ⟨v, hv⟩ : ∃ v, v = (scanV op kind m)[k] := ⟨_, rfl⟩
                  rw [← hu] at x0 x1 HUO HUA hcx hcp
                  rw [← hv] at HVO HVA hcx hcp hsx hsp
                  obtain ⟨r, hr⟩ : ∃ r, r = accV op kind [u, v] := ⟨_, rfl⟩
                  rw [← hr] at hcx hcp
                  have HRR := Lib.hid hr
                  have z0 := cellR (k * 2) (heapB HM.out HS.out) hsx
                  have z1 := cellR (k * 2 + 1) (heapB HM.out HS.out) hsp
                  have HX0 := Lib.hid x0
                  have HX1 := Lib.hid x1
                  have HZ0 := Lib.hid z0
                  have HZ1 := Lib.hid z1
                  have HCX := Lib.hid hcx
                  have HCP := Lib.hid hcp
                  clear hu hv hr hoc hca hcx hcp hsx hsp x0 x1 z0 z1 hko hks hkm
                  go_wp2_with fail
                  refine (wpIn_wide (n := 0)).1 ?_
                  refine region_det (by kernel_rfl) (I := fun listed a' w' => ∃ (g b : Nat), Hid (Below wr.heap.size wr w') ∧ Hid (listed.getD 10 false = true → listed.getD 11 false = false → w'.heap[g]? = some (.cells #[.int .u64 u.x, .int .i64 u.p, .int .u64 v.x, .int .i64 v.p] 54 (0, 0))) ∧ Hid (listed.getD 15 false = true → wr.heap.size ≤ b ∧ ∃ y0 y1, w'.heap[b]? = some (.cells #[y0, y1] 54 (0, 0))) ∧ Hid (listed.getD 16 false = true → w'.heap[b]? = some (.cells #[.int .u64 r.x, .int .i64 r.p] 54 (0, 0))) ∧ Hid (listed.getD 11 false = true → listed.getD 10 false = true) ∧ Hid (listed.getD 12 false = true → listed.getD 11 false = true) ∧ Hid (listed.getD 13 false = true → listed.getD 12 false = true) ∧ Hid (listed.getD 16 false = true → listed.getD 15 false = true ∧ listed.getD 13 false = true) ∧ a' = ⟨#[Value.int IntKind.i64 op, Value.int IntKind.i64 kind, Value.slice (some ⟨ga, oa, none⟩) N cap', undef, undef, undef, u6, undef, undef, undef, Value.slice (some ⟨gs, 0, none⟩) N N, Value.int IntKind.i64 0, u12, u13, u14, Value.slice (some ⟨go, 0, none⟩) N N, Value.int IntKind.i64 0, Value.int IntKind.i64 ↑k, (if listed.getD 15 false = true then Value.pointer (some ⟨b, 0, none⟩) else u18), (if listed.getD 17 false = true then Value.int IntKind.i64 0 else u19), Value.slice (some ⟨ga, oa, none⟩) N cap', Value.int IntKind.i64 ↑N, Value.bool false, Value.bool false, Value.slice (some ⟨ga, oa, none⟩) N cap', Value.int IntKind.i64 ↑N, Value.bool false, Value.bool false, Value.bool false, Value.int IntKind.i64 op, Value.int IntKind.i64 kind, Value.int IntKind.i64 0, Value.bool false, Value.bool false, undef, Value.int IntKind.i64 kind, Value.bool false, undef, undef, undef, undef, undef, undef, undef, undef, undef, undef, undef, undef, undef, undef, undef, undef, undef, undef, Value.tuple #[Value.slice (some ⟨gs, 0, none⟩) N N, Value.int IntKind.i64 0], Value.int IntKind.i64 op, Value.int IntKind.i64 kind, Value.slice (some ⟨ga, oa, none⟩) N cap', Value.tuple #[Value.slice (some ⟨gs, 0, none⟩) N N, Value.int IntKind.i64 0], Value.slice (some ⟨gs, 0, none⟩) N N, Value.int IntKind.i64 0, Value.int IntKind.i64 0, Value.bool false, Value.bool false, Value.slice (some ⟨gs, 0, none⟩) N N, Value.int IntKind.i64 ↑N, Value.slice (some ⟨ga, oa, none⟩) N cap', Value.int IntKind.i64 ↑N, Value.bool false, Value.bool false, Value.slice (some ⟨gs, 0, none⟩) N N, Value.int IntKind.i64 ↑N, Value.int IntKind.i64 ↑N, Value.bool false, u75, u76, u77, u78, u79, u80, u81, u82, u83, u84, u85, u86, u87, u88, u89, u90, u91, u92, u93, u94, u95, u96, Value.tuple #[Value.slice (some ⟨go, 0, none⟩) N N, Value.int IntKind.i64 0], Value.int IntKind.i64 op, Value.int IntKind.i64 kind, Value.slice (some ⟨ga, oa, none⟩) N cap', Value.slice (some ⟨gs, 0, none⟩) N N, Value.slice (some ⟨wa.heap.size, 0, none⟩) 2 2, Value.tuple #[Value.slice (some ⟨go, 0, none⟩) N N, Value.int IntKind.i64 0], Value.slice (some ⟨go, 0, none⟩) N N, Value.int IntKind.i64 0, Value.int IntKind.i64 0, Value.bool false, Value.bool false, Value.slice (some ⟨go, 0, none⟩) N N, Value.int IntKind.i64 ↑N, Value.slice (some ⟨ga, oa, none⟩) N cap', Value.int IntKind.i64 ↑N, Value.bool false, Value.bool false, Value.slice (some ⟨go, 0, none⟩) N N, Value.int IntKind.i64 ↑N, Value.int IntKind.i64 ↑k, Value.bool true, Value.int IntKind.i64 ↑k, (if listed.getD 12 false = true then Value.tuple #[Value.agg #[Value.int IntKind.u64 ↑r.x, Value.int IntKind.i64 r.p], Value.int IntKind.i64 0] else u120), (if listed.getD 0 false = true then Value.int IntKind.i64 op else u121), (if listed.getD 1 false = true then Value.int IntKind.i64 kind else u122), (if listed.getD 2 false = true then Value.slice (some ⟨ga, oa, none⟩) N cap' else u123), (if listed.getD 3 false = true then Value.int IntKind.i64 ↑k else u124), (if listed.getD 4 false = true then Value.pointer (some ⟨ga, (oa + k * 2), none⟩) else u125), (if listed.getD 5 false = true then Value.agg #[Value.int IntKind.u64 ↑u.x, Value.int IntKind.i64 u.p] else u126), (if listed.getD 6 false = true then Value.slice (some ⟨gs, 0, none⟩) N N else u127), (if listed.getD 7 false = true then Value.int IntKind.i64 ↑k else u128), (if listed.getD 8 false = true then Value.pointer (some ⟨gs, (k * 2), none⟩) else u129), (if listed.getD 9 false = true then Value.agg #[Value.int IntKind.u64 ↑v.x, Value.int IntKind.i64 v.p] else u130), (if listed.getD 10 false = true then Value.slice (some ⟨g, 0, none⟩) 2 2 else u131), (if listed.getD 11 false = true then Value.tuple #[Value.agg #[Value.int IntKind.u64 ↑r.x, Value.int IntKind.i64 r.p], Value.int IntKind.i64 0] else u132), (if listed.getD 13 false = true then Value.agg #[Value.int IntKind.u64 ↑r.x, Value.int IntKind.i64 r.p] else u133), (if listed.getD 14 false = true then Value.int IntKind.i64 0 else u134), u135, u136, u137, u138, u139, u140, u141, u142, u143, u144, u145, undef], []⟩) (hup_check (by kernel_rfl)) ?h0 ?step ?fin
                  case h0 => exact ⟨0, 0, (Below.refl _ _).drew, (fun h => by simp at h), (fun h => by simp at h), (fun h => by simp at h), (fun h => by simp at h), (fun h => by simp at h), (fun h => by simp at h), (fun h => by simp at h), rfl⟩
                  case step =>
                    intro listed a' w' i hs hbi hdep hi ⟨g, b, IB, IG, IA, IS, J11, J12, J13, J16, ha⟩
                    obtain ⟨ls⟩ := listed
                    match ls, hs with
                    | [x0, x1, x2, x3, x4, x5, x6, x7, x8, x9, x10, x11, x12, x13, x14, x15, x16, x17], _ =>
                    subst ha
                    have hi' : i = 0 ∨ i = 1 ∨ i = 2 ∨ i = 3 ∨ i = 4 ∨ i = 5 ∨ i = 6 ∨ i = 7 ∨ i = 8 ∨ i = 9 ∨ i = 10 ∨ i = 11 ∨ i = 12 ∨ i = 13 ∨ i = 14 ∨ i = 15 ∨ i = 16 ∨ i = 17 := by simp at hi; omega
                    have hltz : (k : Int) < (N : Int) := by omega
                    have hsz9 : wr.heap.size ≤ w'.heap.size := IB.out.size
                    rcases hi' with rfl | rfl | rfl | rfl | rfl | rfl | rfl | rfl | rfl | rfl | rfl | rfl | rfl | rfl | rfl | rfl | rfl | rfl
                    · obtain rfl : x0 = false := by simpa using hbi
                      refine wpOpIn_plain rfl rfl rfl ?_
                      exact ⟨g, b, IB, IG, IA, IS, J11, J12, J13, J16, rfl⟩
                    · obtain rfl : x1 = false := by simpa using hbi
                      refine wpOpIn_plain rfl rfl rfl ?_
                      exact ⟨g, b, IB, IG, IA, IS, J11, J12, J13, J16, rfl⟩
                    · obtain rfl : x2 = false := by simpa using hbi
                      refine wpOpIn_plain rfl rfl rfl ?_
                      exact ⟨g, b, IB, IG, IA, IS, J11, J12, J13, J16, rfl⟩
                    · obtain rfl : x3 = false := by simpa using hbi
                      refine wpOpIn_plain rfl rfl rfl ?_
                      exact ⟨g, b, IB, IG, IA, IS, J11, J12, J13, J16, rfl⟩
                    · obtain rfl : x4 = false := by simpa using hbi
                      obtain rfl : x2 = true := hdep _ rfl ⟨2, .data⟩ (by simp) rfl
                      obtain rfl : x3 = true := hdep _ rfl ⟨3, .data⟩ (by simp) rfl
                      refine wpOpIn_plain (v := Value.pointer (some ⟨ga, (oa + k * 2), none⟩)) (w' := w') rfl rfl (by simp [Oper.semAt, execOp, go_sem, hltz]) ?_
                      exact ⟨g, b, IB, IG, IA, IS, J11, J12, J13, J16, rfl⟩
                    · obtain rfl : x5 = false := by simpa using hbi
                      obtain rfl : x4 = true := hdep _ rfl ⟨4, .data⟩ (by simp) rfl
                      have x0 := kcell IB.out HX0.out
                      have x1 := kcell IB.out HX1.out
                      refine wpOpIn_plain (v := Value.agg #[Value.int IntKind.u64 ↑u.x, Value.int IntKind.i64 u.p]) (w' := w') rfl rfl (by simp [Oper.semAt, execOp, go_sem, x0, x1]) ?_
                      exact ⟨g, b, IB, IG, IA, IS, J11, J12, J13, J16, rfl⟩
                    · obtain rfl : x6 = false := by simpa using hbi
                      refine wpOpIn_plain rfl rfl rfl ?_
                      exact ⟨g, b, IB, IG, IA, IS, J11, J12, J13, J16, rfl⟩
                    · obtain rfl : x7 = false := by simpa using hbi
                      refine wpOpIn_plain rfl rfl rfl ?_
                      exact ⟨g, b, IB, IG, IA, IS, J11, J12, J13, J16, rfl⟩
                    · obtain rfl : x8 = false := by simpa using hbi
                      obtain rfl : x6 = true := hdep _ rfl ⟨6, .data⟩ (by simp) rfl
                      obtain rfl : x7 = true := hdep _ rfl ⟨7, .data⟩ (by simp) rfl
                      refine wpOpIn_plain (v := Value.pointer (some ⟨gs, (k * 2), none⟩)) (w' := w') rfl rfl (by simp [Oper.semAt, execOp, go_sem, hltz]) ?_
                      exact ⟨g, b, IB, IG, IA, IS, J11, J12, J13, J16, rfl⟩
                    · obtain rfl : x9 = false := by simpa using hbi
                      obtain rfl : x8 = true := hdep _ rfl ⟨8, .data⟩ (by simp) rfl
                      have z0 := kcell IB.out HZ0.out
                      have z1 := kcell IB.out HZ1.out
                      refine wpOpIn_plain (v := Value.agg #[Value.int IntKind.u64 ↑v.x, Value.int IntKind.i64 v.p]) (w' := w') rfl rfl (by simp [Oper.semAt, execOp, go_sem, z0, z1]) ?_
                      exact ⟨g, b, IB, IG, IA, IS, J11, J12, J13, J16, rfl⟩
                    · obtain rfl : x10 = false := by simpa using hbi
                      obtain rfl : x5 = true := hdep _ rfl ⟨5, .data⟩ (by simp) rfl
                      obtain rfl : x9 = true := hdep _ rfl ⟨9, .data⟩ (by simp) rfl
                      obtain rfl : x11 = false := Bool.eq_false_iff.2 fun h => by have := J11.out h; cases this
                      refine wpOpIn_plain (v := Value.slice (some ⟨w'.heap.size, 0, none⟩) 2 2) (w' := w'.alloc (.cells #[.int .u64 u.x, .int .i64 u.p, .int .u64 v.x, .int .i64 v.p] 54)) rfl rfl (by simp [Oper.semAt, execOp, go_sem]) ?_
                      have hb9 : Below w'.heap.size w' (w'.alloc (.cells #[.int .u64 u.x, .int .i64 u.p, .int .u64 v.x, .int .i64 v.p] 54)) := (Below.refl _ _).alloc (Nat.le_refl _) _
                      exact ⟨w'.heap.size, b, (IB.out.trans (hb9.mono hsz9)), (fun _ _ => heap_alloc_new w' _), (fun h => ⟨(IA.out h).1, by obtain ⟨y0, y1, hy⟩ := (IA.out h).2; exact ⟨y0, y1, heapB hb9 hy⟩⟩), (fun h => heapB hb9 (IS.out h)), (fun _ => rfl), J12, J13, J16, rfl⟩
                    · obtain rfl : x11 = false := by simpa using hbi
                      obtain rfl : x0 = true := hdep _ rfl ⟨0, .data⟩ (by simp) rfl
                      obtain rfl : x1 = true := hdep _ rfl ⟨1, .data⟩ (by simp) rfl
                      obtain rfl : x10 = true := hdep _ rfl ⟨10, .data⟩ (by simp) rfl
                      have hG := IG.out rfl rfl
                      have hrd := red_good hF0.out (pair_vls hG HUO.out HVO.out) (by simp) (pair_ok HUA.out HVA.out) 2
                      rw [← HRR.out] at hrd
                      refine wpOpIn_call (args := #[Value.int IntKind.i64 op, Value.int IntKind.i64 kind, Value.slice (some ⟨g, 0, none⟩) 2 2]) rfl rfl (sem_call3 rfl rfl rfl rfl (enters_of Try.func23 (by kernel_rfl) rfl)) hrd ?_
                      rintro e W ⟨rfl, hb9⟩
                      exact ⟨_, rfl, g, b, (IB.out.trans (hb9.mono hsz9)), (fun _ h => by cases h), (fun h => ⟨(IA.out h).1, by obtain ⟨y0, y1, hy⟩ := (IA.out h).2; exact ⟨y0, y1, heapB hb9 hy⟩⟩), (fun h => heapB hb9 (IS.out h)), (fun _ => rfl), (fun _ => rfl), J13, J16, rfl⟩
                    · obtain rfl : x12 = false := by simpa using hbi
                      obtain rfl : x11 = true := hdep _ rfl ⟨11, .data⟩ (by simp) rfl
                      refine wpOpIn_plain rfl rfl rfl ?_
                      exact ⟨g, b, IB, IG, IA, IS, J11, (fun _ => rfl), (fun _ => rfl), J16, rfl⟩
                    · obtain rfl : x13 = false := by simpa using hbi
                      obtain rfl : x12 = true := hdep _ rfl ⟨12, .data⟩ (by simp) rfl
                      refine wpOpIn_plain (v := Value.agg #[Value.int IntKind.u64 ↑r.x, Value.int IntKind.i64 r.p]) (w' := w') rfl rfl (by simp [Oper.semAt, execOp, go_sem]) ?_
                      exact ⟨g, b, IB, IG, IA, IS, J11, J12, (fun _ => rfl), (fun h => ⟨(J16.out h).1, rfl⟩), rfl⟩
                    · obtain rfl : x14 = false := by simpa using hbi
                      obtain rfl : x12 = true := hdep _ rfl ⟨12, .data⟩ (by simp) rfl
                      refine wpOpIn_plain (v := Value.int IntKind.i64 0) (w' := w') rfl rfl (by simp [Oper.semAt, execOp, go_sem]) ?_
                      exact ⟨g, b, IB, IG, IA, IS, J11, J12, J13, J16, rfl⟩
                    · obtain rfl : x15 = false := by simpa using hbi
                      obtain rfl : x16 = false := Bool.eq_false_iff.2 fun h => by have := (J16.out h).1; cases this
                      refine wpOpIn_plain (v := Value.pointer (some ⟨w'.heap.size, 0, none⟩)) (w' := w'.alloc (.cells #[.int .u64 0, .int .i64 0] 54)) rfl rfl (by simp [Oper.semAt, execOp, go_sem]) ?_
                      have hb9 : Below w'.heap.size w' (w'.alloc (.cells #[.int .u64 0, .int .i64 0] 54)) := (Below.refl _ _).alloc (Nat.le_refl _) _
                      exact ⟨g, w'.heap.size, (IB.out.trans (hb9.mono hsz9)), (fun h h' => heapB hb9 (IG.out h h')), (fun _ => ⟨hsz9, _, _, heap_alloc_new w' _⟩), (fun h => by have := J16.out h; cases this.1), J11, J12, J13, (fun h => ⟨rfl, (J16.out h).2⟩), rfl⟩
                    · obtain rfl : x16 = false := by simpa using hbi
                      obtain rfl : x15 = true := hdep _ rfl ⟨15, .data⟩ (by simp) rfl
                      obtain rfl : x13 = true := hdep _ rfl ⟨13, .data⟩ (by simp) rfl
                      obtain ⟨hbl, y0, y1, hy⟩ := IA.out rfl
                      refine wpOpIn_store_part rfl rfl 54 _ _ rfl b 0 #[.int .u64 r.x, .int .i64 r.p] rfl rfl 54 #[] #[y0, y1] #[] (by simpa using hy) rfl info54 rfl (by simp [Value.oneCell']) ?_
                      have hs9 : Sole b w' (w'.setRow b (#[] ++ #[.int .u64 r.x, .int .i64 r.p] ++ #[])) := Sole.row _
                      have hr9 : (w'.setRow b (#[] ++ #[.int .u64 r.x, .int .i64 r.p] ++ #[])).heap[b]? = some (.cells #[.int .u64 r.x, .int .i64 r.p] 54 (0, 0)) := by rw [setRow_heap w' b _ _ 54 _ hy]; simp
                      exact ⟨g, b, (IB.out.trans (hs9.below hbl hsz9)), (fun _ h => Bool.noConfusion ((J12.out (J13.out rfl)).symm.trans h)), (fun _ => ⟨hbl, _, _, hr9⟩), (fun _ => hr9), J11, J12, J13, (fun _ => ⟨rfl, rfl⟩), rfl⟩
                    · obtain rfl : x17 = false := by simpa using hbi
                      obtain rfl : x14 = true := hdep _ rfl ⟨14, .data⟩ (by simp) rfl
                      refine wpOpIn_plain rfl rfl rfl ?_
                      exact ⟨g, b, IB, IG, IA, IS, J11, J12, J13, J16, rfl⟩
                  case fin =>
                  intro listed a' wz hs hall ⟨g, b, IB, IG, IA, IS, J11, J12, J13, J16, ha⟩
                  obtain ⟨ls⟩ := listed
                  match ls, hs with
                  | [x0, x1, x2, x3, x4, x5, x6, x7, x8, x9, x10, x11, x12, x13, x14, x15, x16, x17], _ =>
                  obtain rfl : x0 = true := hall 0 (by simp)
                  obtain rfl : x1 = true := hall 1 (by simp)
                  obtain rfl : x2 = true := hall 2 (by simp)
                  obtain rfl : x3 = true := hall 3 (by simp)
                  obtain rfl : x4 = true := hall 4 (by simp)
                  obtain rfl : x5 = true := hall 5 (by simp)
                  obtain rfl : x6 = true := hall 6 (by simp)
                  obtain rfl : x7 = true := hall 7 (by simp)
                  obtain rfl : x8 = true := hall 8 (by simp)
                  obtain rfl : x9 = true := hall 9 (by simp)
                  obtain rfl : x10 = true := hall 10 (by simp)
                  obtain rfl : x11 = true := hall 11 (by simp)
                  obtain rfl : x12 = true := hall 12 (by simp)
                  obtain rfl : x13 = true := hall 13 (by simp)
                  obtain rfl : x14 = true := hall 14 (by simp)
                  obtain rfl : x15 = true := hall 15 (by simp)
                  obtain rfl : x16 = true := hall 16 (by simp)
                  obtain rfl : x17 = true := hall 17 (by simp)
                  subst ha
                  have h9 := IS.out rfl
                  have y0 := cellR 0 h9 rfl
                  have y1 := cellR 1 h9 rfl
                  have KO := heapB IB.out (heapB HM.out HO.out)
                  have z0 := cellR (k * 2) KO HCX.out
                  have z1 := cellR (k * 2 + 1) KO HCP.out
                  have hq := neq_V r.x r.x r.p r.p
                  rw [show eqV ⟨r.x, r.p⟩ ⟨r.x, r.p⟩ = true from (eqV_iff _ _).2 rfl] at hq
                  have HM6 := Lib.hid (HM.out.trans (IB.out.mono HM.out.size))
                  clear IB IG IA IS J11 J12 J13 J16 hall hs HM HUO HVO HUA HVA HRR HX0 HX1 HZ0 HZ1 HCX HCP h9 KO
                  dsimp only [Exit.then, Exit.inBlock]
                  go_wp2_with fail
                  go_quiet (fail)
                  go_wp2_with fail
                  go_round
                  case rel => exact ⟨k + 1, by omega, by go_num, below_drewN HM6.out _⟩
                  case measure => simp [intOf]; omega
                · have hkn : k = N := by omega
                  subst hkn
                  go_wp2_with fail
                  refine (works_any _).mono ?_
                  rintro e w9 ⟨rfl, hb9⟩
                  have hbb := (HB.out.trans (HM.out.mono HB.out.size)).trans (hb9.mono (Nat.le_trans HB.out.size HM.out.size))
                  go_wp2_with fail
                  go_ret
                  exact ⟨rfl, hbb⟩
        · have q1 : ((kind != 3) : Bool) = true := bne_iff_ne.2 hk3
          have HK3 := Lib.hid hk3
          clear hk3
          go_enter Try.func9, Try.ntmps9
          go_wp2_with fail
          refine hck.mono ?_
          rintro e w1 ⟨rfl, hb1⟩
          have hmk := make_vals N (by omega) w1
          have hb2 := (Below.refl w1.heap.size w1).alloc (Nat.le_refl _) (.cells (rowV (List.replicate N ⟨0, 0⟩)) 54)
          have G0 : Hid (VRow (w1.alloc (.cells (rowV (List.replicate N ⟨0, 0⟩)) 54)) w1.heap.size (ownL l 0)) := by
            show VRow _ _ _
            rw [ownL_zero, ← HN.out]
            exact heap_alloc_new _ _
          have HB := Lib.hid (hb1.trans (hb2.mono hb1.size))
          have hsz := hb1.size
          clear hck hb1 hb2
          go_wp2_with fail
          clear hmk
          generalize w1.alloc (.cells (rowV (List.replicate N ⟨0, 0⟩)) 54) = Y at *
          go_loopw [42] (fun i wr => ∃ k : Nat, k ≤ N ∧ i = .int .i64 k ∧ Hid (Below w1.heap.size Y wr) ∧ Hid (VRow wr w1.heap.size (ownL l k))) (fun i _ => N - (intOf i).toNat)
          case atStart => exact ⟨0, Nat.zero_le _, rfl, Below.refl _ _, G0.out⟩
          case round =>
            obtain ⟨k, hk, rfl, HM, KO⟩ := hrel
            have KB := Lib.hid (HB.out.trans (HM.out.mono hsz))
            by_cases hlt : k < N
            · have hkl : k < l.length := by rw [← HN.out]; exact hlt
              obtain ⟨ga, oa, rfl, hca⟩ := (HLW.out.keep KB.out).at_ (by intro e; rw [e] at hkl; exact absurd hkl (Nat.not_lt_zero _))
              obtain ⟨x0, x1⟩ := hca k hkl
              obtain ⟨u, hu⟩ : ∃ u, u = l[k] := ⟨_, rfl⟩
              rw [← hu] at x0 x1
              have hnx := heap_alloc_new wr (.cells #[.int .u64 u.x, .int .i64 u.p] 54)
              have hbx := (Below.refl wr.heap.size wr).alloc (Nat.le_refl _) (.cells #[.int .u64 u.x, .int .i64 u.p] 54)
              have K1 := Lib.hid (heapB hbx KO.out)
              have hk2 : k < (ownL l k).length := by rw [ownL_len]; exact hkl
              have y0 := cellR 0 hnx rfl
              have d0 := cellR (k * 2) K1.out (rowV_x _ k hk2)
              have f0 := frozen_of_row _ _ (k * 2) _ _ K1.out
              have l0 := (Array.getElem?_eq_some_iff.1 K1.out).1
              have M6 : Hid (VRow ((wr.alloc (.cells #[.int .u64 u.x, .int .i64 u.p] 54)).setCell ⟨w1.heap.size, k * 2, none⟩ (.int .u64 u.x)) w1.heap.size (ownL l (k + 1))) := by
                show VRow _ _ _
                rw [← ownL_set l k hkl, ← hu]
                exact VRow.putx K1.out k hk2 u.x
              have hwr : w1.heap.size ≤ wr.heap.size := Nat.le_of_lt KO.out.lt
              have M7 := Lib.hid ((HM.out.trans (hbx.mono hwr)).setCell (p := ⟨w1.heap.size, k * 2, none⟩) (show w1.heap.size ≤ w1.heap.size from Nat.le_refl _) (.int .u64 u.x))
              clear hca hu hnx hbx K1 KO HM KB
              go_wp2_with fail
              go_round
              case rel => exact ⟨k + 1, by omega, by go_num, M7, M6⟩
              case measure => simp [intOf]; omega
            · have hkn : k = N := by omega
              subst hkn
              have GB := KB
              have hrow := KO.out
              rw [HN.out, ownL_all] at hrow
              have GN : Hid ((l.map bare).length = k) := by show _ = _; rw [List.length_map]; exact HN.out.symm
              have GL : Hid (Vls wr (some ⟨w1.heap.size, 0, none⟩) (l.map bare)) := hrow.vls (by rw [GN.out]; omega) (by intro u hu; obtain ⟨v, hv, rfl⟩ := List.mem_map.1 hu; exact bare_ok (HLW.out.ok v hv))
              have GA : Hid (allowsL kind (l.map bare) = true) := by
                show _ = _
                unfold allowsL
                rw [List.all_eq_true]
                intro u hu
                obtain ⟨v, hv, rfl⟩ := List.mem_map.1 hu
                simp [allowsB, bare]
              obtain ⟨m, hm⟩ : ∃ m, m = l.map bare := ⟨_, rfl⟩
              rw [← hm] at GL GA GN
              obtain ⟨N, hN9⟩ : ∃ n, n = k := ⟨_, rfl⟩
              rw [← hN9] at e1 e2 hlen h20 h0N GN hcap
              rw [← hN9]
              have hcap : N ≤ N := Nat.le_refl _
              obtain ⟨X, hX⟩ : ∃ X : World, X = wr := ⟨_, rfl⟩
              rw [← hX] at GL GB
              rw [← hX]
              clear hrow KO HM KB hX hN9 hm
              have hsc := scan_good hF0.out GL.out GA.out (by rw [GN.out]; omega) N
              rw [GN.out] at hsc
              go_wp2_with fail
              refine hsc.mono ?_
              rintro e w2 ⟨gs, rfl, hsr, hb2⟩
              have HS := Lib.hid hsr
              have HL := Lib.hid (GL.out.keep hb2)
              have HB := Lib.hid (GB.out.trans (hb2.mono GB.out.size))
              clear hsc hsr hb2 GL GB
              go_wp2_with fail
              go_loopw [73] (fun i wr => ∃ k : Nat, k ≤ N ∧ i = .int .i64 k ∧ Hid (Below w2.heap.size w2 wr)) (fun i _ => N - (intOf i).toNat)
              case atStart => exact ⟨0, Nat.zero_le _, rfl, Below.refl _ _⟩
              case round =>
                obtain ⟨k, hk, rfl, HM⟩ := hrel
                by_cases hlt : k < N
                · have hkm : k < m.length := by rw [GN.out]; exact hlt
                  have hred := red_good hF0.out ((HL.out.keep HM.out).take (k + 1)) (by intro e; have h9 := congrArg List.length e; rw [List.length_take, List.length_nil] at h9; omega) (allowsL_take kind GA.out (k + 1)) N
                  rw [show (m.take (k + 1)).length = k + 1 by rw [List.length_take]; omega] at hred
                  obtain ⟨u, hu⟩ : ∃ u, u = accV op kind (m.take (k + 1)) := ⟨_, rfl⟩
                  rw [← hu] at hred
                  have hat := scanV_at op kind m k hkm
                  have hks : k < (scanV op kind m).length := by rw [scanV_len]; exact hkm
                  have hsx := rowV_x _ k hks
                  have hsp := rowV_p _ k hks
                  rw [hat, ← hu] at hsx hsp
                  have hq := neq_V u.x u.x u.p u.p
                  rw [show eqV ⟨u.x, u.p⟩ ⟨u.x, u.p⟩ = true from (eqV_iff _ _).2 rfl] at hq
                  have hred2 := Lib.hid hred
                  have hk1 : (0 : Int) ≤ (k : Int) + 1 := by omega
                  have hk2 : (k : Int) + 1 ≤ (N : Int) := by omega
                  clear hu hat hred
                  go_wp2_with fail
                  refine hred2.out.mono ?_
                  rintro e w5 ⟨rfl, hb5⟩
                  have hn5 := heap_alloc_new w5 (.cells #[.int .u64 u.x, .int .i64 u.p] 54)
                  have hb6 := (Below.refl w5.heap.size w5).alloc (Nat.le_refl _) (.cells #[.int .u64 u.x, .int .i64 u.p] 54)
                  have KS := heapB hb6 (heapB hb5 (heapB HM.out HS.out))
                  have y0 := cellR 0 hn5 rfl
                  have y1 := cellR 1 hn5 rfl
                  have z0 := cellR (k * 2) KS hsx
                  have z1 := cellR (k * 2 + 1) KS hsp
                  have HM6 := Lib.hid ((HM.out.trans (hb5.mono HM.out.size)).trans (hb6.mono (Nat.le_trans HM.out.size hb5.size)))
                  clear hred2 hb5 hn5 hb6 KS HM hsx hsp
                  go_wp2_with fail
                  generalize w5.alloc (.cells #[.int .u64 u.x, .int .i64 u.p] 54) = X5 at *
                  go_quiet (fail)
                  go_wp2_with fail
                  go_round
                  case rel => exact ⟨k + 1, by omega, by go_num, below_drewN HM6.out _⟩
                  case measure => simp [intOf]; omega
                · have hkn : k = N := by omega
                  subst hkn
                  obtain ⟨wa, hwa⟩ : ∃ wa : World, wa = wr := ⟨_, rfl⟩
                  rw [← hwa] at HM
                  rw [← hwa]
                  obtain ⟨N, hN9⟩ : ∃ n, n = k := ⟨_, rfl⟩
                  rw [← hN9] at e1 e2 hlen h20 h0N GN hcap
                  rw [← hN9]
                  clear hwa hN9
                  have hb6 := (Below.refl wa.heap.size wa).alloc (Nat.le_refl _) (.cells #[.slice (some ⟨w1.heap.size, 0, none⟩) N N, .slice (some ⟨gs, 0, none⟩) N N] 52)
                  have hn6 := heap_alloc_new wa (.cells #[.slice (some ⟨w1.heap.size, 0, none⟩) N N, .slice (some ⟨gs, 0, none⟩) N N] 52)
                  have hvs : Vls (wa.alloc (.cells #[.slice (some ⟨w1.heap.size, 0, none⟩) N N, .slice (some ⟨gs, 0, none⟩) N N] 52)) (some ⟨gs, 0, none⟩) (scanV op kind m) := VRow.vls (show VRow _ _ _ from heapB hb6 (heapB HM.out HS.out)) (by rw [scanV_len, GN.out]; omega) (scanV_ok op kind HL.out.ok)
                  have hvl := (HL.out.keep HM.out).keep hb6
                  have hrw : Rws (wa.alloc (.cells #[.slice (some ⟨w1.heap.size, 0, none⟩) N N, .slice (some ⟨gs, 0, none⟩) N N] 52)) (some ⟨wa.heap.size, 0, none⟩) [m, scanV op kind m] := by
                    refine ⟨by simp, fun _ => ⟨_, 0, rfl, fun i hi => ?_⟩⟩
                    have hi2 : i = 0 ∨ i = 1 := by simp at hi; omega
                    rcases hi2 with rfl | rfl
                    · exact ⟨_, N, by rw [cellR 0 hn6 rfl]; simp [GN.out], hvl⟩
                    · exact ⟨_, N, by rw [cellR 1 hn6 rfl]; simp [GN.out], hvs⟩
                  have hrd := Reduces_ok op kind hrw N (by omega) (by simp) (by intro r hr; simp at hr; rcases hr with rfl | rfl; exact GN.out; rw [scanV_len]; exact GN.out) (by intro r hr; simp at hr; rcases hr with rfl | rfl; exact GA.out; exact scanV_valid op kind GA.out) hF0.out 2
                  have HRD := Lib.hid hrd
                  have HM6 := Lib.hid ((HB.out.trans (HM.out.mono HB.out.size)).trans (hb6.mono (Nat.le_trans HB.out.size HM.out.size)))
                  have KL := Lib.hid hvl
                  have KS := Lib.hid (heapB hb6 (heapB HM.out HS.out))
                  clear hb6 hn6 hvs hvl hrw hrd HM HB HL HS
                  go_wp2_with fail
                  generalize wa.alloc (.cells #[.slice (some ⟨w1.heap.size, 0, none⟩) N N, .slice (some ⟨gs, 0, none⟩) N N] 52) = X6 at *
                  refine HRD.out.mono ?_
                  rintro e w7 ⟨go, _, rfl, hro, hb7⟩
                  have HO := Lib.hid hro
                  have HL := Lib.hid (KL.out.keep hb7)
                  have HS := Lib.hid (heapB hb7 KS.out)
                  have HB := Lib.hid (HM6.out.trans (hb7.mono HM6.out.size))
                  clear HRD HM6 KL KS hro hb7
                  go_wp2_with fail
                  go_loopw [117] (fun i wr => ∃ k : Nat, k ≤ N ∧ i = .int .i64 k ∧ Hid (Below w7.heap.size w7 wr)) (fun i _ => N - (intOf i).toNat)
                  case atStart => exact ⟨0, Nat.zero_le _, rfl, Below.refl _ _⟩
                  case round =>
                    obtain ⟨k, hk, rfl, HM⟩ := hrel
                    by_cases hlt : k < N
                    · have hkm : k < m.length := by rw [GN.out]; exact hlt
                      obtain ⟨ga, oa, hga, hca⟩ := (HL.out.keep HM.out).at_ (by intro e; rw [e] at hkm; exact absurd hkm (Nat.not_lt_zero _))
                      obtain ⟨rfl, rfl⟩ : w1.heap.size = ga ∧ 0 = oa := by injection hga with e2; injection e2 with e3 e4; exact ⟨e3, e4⟩
                      obtain ⟨x0, x1⟩ := hca k hkm
                      have hks : k < (scanV op kind m).length := by rw [scanV_len]; exact hkm
                      have HUO : Hid ((m[k]).Ok) := HL.out.ok _ (List.getElem_mem hkm)
                      have HVO : Hid (((scanV op kind m)[k]).Ok) := scanV_ok op kind HL.out.ok _ (List.getElem_mem hks)
                      have HUA : Hid (allowsB kind m[k] = true) := (List.all_eq_true.1 GA.out) _ (List.getElem_mem hkm)
                      have HVA : Hid (allowsB kind (scanV op kind m)[k] = true) := (List.all_eq_true.1 (scanV_valid op kind GA.out)) _ (List.getElem_mem hks)
                      have hoc := outC_at op kind m (scanV op kind m) (scanV_len op kind m) k hkm
                      have hko : k < (outC op kind [m, scanV op kind m] N N).length := by rw [outC_len]; exact hlt
                      have hcx := rowV_x _ k hko
                      have hcp := rowV_p _ k hko
                      have hsx := rowV_x _ k hks
                      have hsp := rowV_p _ k hks
                      rw [show (outC op kind [m, scanV op kind m] N N)[k] = accV op kind [m[k], (scanV op kind m)[k]] by simp only [← GN.out]; exact hoc] at hcx hcp
                      obtain ⟨u, hu⟩ : ∃ u, u = m[k] := ⟨_, rfl⟩
                      obtain ⟨v, hv⟩ : ∃ v, v = (scanV op kind m)[k] := ⟨_, rfl⟩
                      rw [← hu] at x0 x1 HUO HUA hcx hcp
                      rw [← hv] at HVO HVA hcx hcp hsx hsp
                      obtain ⟨r, hr⟩ : ∃ r, r = accV op kind [u, v] := ⟨_, rfl⟩
                      rw [← hr] at hcx hcp
                      have HRR := Lib.hid hr
                      have z0 := cellR (k * 2) (heapB HM.out HS.out) hsx
                      have z1 := cellR (k * 2 + 1) (heapB HM.out HS.out) hsp
                      have HX0 := Lib.hid x0
                      have HX1 := Lib.hid x1
                      have HZ0 := Lib.hid z0
                      have HZ1 := Lib.hid z1
                      have HCX := Lib.hid hcx
                      have HCP := Lib.hid hcp
                      clear hu hv hr hoc hca hcx hcp hsx hsp x0 x1 z0 z1 hko hks hkm
                      go_wp2_with fail
                      refine (wpIn_wide (n := 0)).1 ?_
                      refine region_det (by kernel_rfl) (I := fun listed a' w' => ∃ (g b : Nat), Hid (Below wr.heap.size wr w') ∧ Hid (listed.getD 10 false = true → listed.getD 11 false = false → w'.heap[g]? = some (.cells #[.int .u64 u.x, .int .i64 u.p, .int .u64 v.x, .int .i64 v.p] 54 (0, 0))) ∧ Hid (listed.getD 15 false = true → wr.heap.size ≤ b ∧ ∃ y0 y1, w'.heap[b]? = some (.cells #[y0, y1] 54 (0, 0))) ∧ Hid (listed.getD 16 false = true → w'.heap[b]? = some (.cells #[.int .u64 r.x, .int .i64 r.p] 54 (0, 0))) ∧ Hid (listed.getD 11 false = true → listed.getD 10 false = true) ∧ Hid (listed.getD 12 false = true → listed.getD 11 false = true) ∧ Hid (listed.getD 13 false = true → listed.getD 12 false = true) ∧ Hid (listed.getD 16 false = true → listed.getD 15 false = true ∧ listed.getD 13 false = true) ∧ a' = ⟨#[Value.int IntKind.i64 op, Value.int IntKind.i64 kind, Value.slice (some ⟨w1.heap.size, 0, none⟩) N N, undef, undef, undef, u6, Value.slice (some ⟨w1.heap.size, 0, none⟩) N N, u8, u9, Value.slice (some ⟨gs, 0, none⟩) N N, Value.int IntKind.i64 0, u12, u13, u14, Value.slice (some ⟨go, 0, none⟩) N N, Value.int IntKind.i64 0, Value.int IntKind.i64 ↑k, (if listed.getD 15 false = true then Value.pointer (some ⟨b, 0, none⟩) else u18), (if listed.getD 17 false = true then Value.int IntKind.i64 0 else u19), Value.slice a N cap, Value.int IntKind.i64 ↑N, Value.bool false, Value.bool false, Value.slice a N cap, Value.int IntKind.i64 ↑N, Value.bool false, Value.bool false, Value.bool false, Value.int IntKind.i64 op, Value.int IntKind.i64 kind, Value.int IntKind.i64 0, Value.bool false, Value.bool false, undef, Value.int IntKind.i64 kind, Value.bool true, Value.slice a N cap, Value.int IntKind.i64 ↑N, Value.slice (some ⟨w1.heap.size, 0, none⟩) N N, Value.slice a N cap, Value.int IntKind.i64 ↑N, Value.int IntKind.i64 ↑N, Value.bool false, u44, u45, u46, u47, u48, u49, u50, u51, u52, u53, Value.slice (some ⟨w1.heap.size, 0, none⟩) N N, Value.tuple #[Value.slice (some ⟨gs, 0, none⟩) N N, Value.int IntKind.i64 0], Value.int IntKind.i64 op, Value.int IntKind.i64 kind, Value.slice (some ⟨w1.heap.size, 0, none⟩) N N, Value.tuple #[Value.slice (some ⟨gs, 0, none⟩) N N, Value.int IntKind.i64 0], Value.slice (some ⟨gs, 0, none⟩) N N, Value.int IntKind.i64 0, Value.int IntKind.i64 0, Value.bool false, Value.bool false, Value.slice (some ⟨gs, 0, none⟩) N N, Value.int IntKind.i64 ↑N, Value.slice (some ⟨w1.heap.size, 0, none⟩) N N, Value.int IntKind.i64 ↑N, Value.bool false, Value.bool false, Value.slice (some ⟨gs, 0, none⟩) N N, Value.int IntKind.i64 ↑N, Value.int IntKind.i64 ↑N, Value.bool false, u75, u76, u77, u78, u79, u80, u81, u82, u83, u84, u85, u86, u87, u88, u89, u90, u91, u92, u93, u94, u95, u96, Value.tuple #[Value.slice (some ⟨go, 0, none⟩) N N, Value.int IntKind.i64 0], Value.int IntKind.i64 op, Value.int IntKind.i64 kind, Value.slice (some ⟨w1.heap.size, 0, none⟩) N N, Value.slice (some ⟨gs, 0, none⟩) N N, Value.slice (some ⟨wa.heap.size, 0, none⟩) 2 2, Value.tuple #[Value.slice (some ⟨go, 0, none⟩) N N, Value.int IntKind.i64 0], Value.slice (some ⟨go, 0, none⟩) N N, Value.int IntKind.i64 0, Value.int IntKind.i64 0, Value.bool false, Value.bool false, Value.slice (some ⟨go, 0, none⟩) N N, Value.int IntKind.i64 ↑N, Value.slice (some ⟨w1.heap.size, 0, none⟩) N N, Value.int IntKind.i64 ↑N, Value.bool false, Value.bool false, Value.slice (some ⟨go, 0, none⟩) N N, Value.int IntKind.i64 ↑N, Value.int IntKind.i64 ↑k, Value.bool true, Value.int IntKind.i64 ↑k, (if listed.getD 12 false = true then Value.tuple #[Value.agg #[Value.int IntKind.u64 ↑r.x, Value.int IntKind.i64 r.p], Value.int IntKind.i64 0] else u120), (if listed.getD 0 false = true then Value.int IntKind.i64 op else u121), (if listed.getD 1 false = true then Value.int IntKind.i64 kind else u122), (if listed.getD 2 false = true then Value.slice (some ⟨w1.heap.size, 0, none⟩) N N else u123), (if listed.getD 3 false = true then Value.int IntKind.i64 ↑k else u124), (if listed.getD 4 false = true then Value.pointer (some ⟨w1.heap.size, (k * 2), none⟩) else u125), (if listed.getD 5 false = true then Value.agg #[Value.int IntKind.u64 ↑u.x, Value.int IntKind.i64 u.p] else u126), (if listed.getD 6 false = true then Value.slice (some ⟨gs, 0, none⟩) N N else u127), (if listed.getD 7 false = true then Value.int IntKind.i64 ↑k else u128), (if listed.getD 8 false = true then Value.pointer (some ⟨gs, (k * 2), none⟩) else u129), (if listed.getD 9 false = true then Value.agg #[Value.int IntKind.u64 ↑v.x, Value.int IntKind.i64 v.p] else u130), (if listed.getD 10 false = true then Value.slice (some ⟨g, 0, none⟩) 2 2 else u131), (if listed.getD 11 false = true then Value.tuple #[Value.agg #[Value.int IntKind.u64 ↑r.x, Value.int IntKind.i64 r.p], Value.int IntKind.i64 0] else u132), (if listed.getD 13 false = true then Value.agg #[Value.int IntKind.u64 ↑r.x, Value.int IntKind.i64 r.p] else u133), (if listed.getD 14 false = true then Value.int IntKind.i64 0 else u134), u135, u136, u137, u138, u139, u140, u141, u142, u143, u144, u145, undef], []⟩) (hup_check (by kernel_rfl)) ?h0 ?step ?fin
                      case h0 => exact ⟨0, 0, (Below.refl _ _).drew, (fun h => by simp at h), (fun h => by simp at h), (fun h => by simp at h), (fun h => by simp at h), (fun h => by simp at h), (fun h => by simp at h), (fun h => by simp at h), rfl⟩
                      case step =>
                        intro listed a' w' i hs hbi hdep hi ⟨g, b, IB, IG, IA, IS, J11, J12, J13, J16, ha⟩
                        obtain ⟨ls⟩ := listed
                        match ls, hs with
                        | [x0, x1, x2, x3, x4, x5, x6, x7, x8, x9, x10, x11, x12, x13, x14, x15, x16, x17], _ =>
                        subst ha
                        have hi' : i = 0 ∨ i = 1 ∨ i = 2 ∨ i = 3 ∨ i = 4 ∨ i = 5 ∨ i = 6 ∨ i = 7 ∨ i = 8 ∨ i = 9 ∨ i = 10 ∨ i = 11 ∨ i = 12 ∨ i = 13 ∨ i = 14 ∨ i = 15 ∨ i = 16 ∨ i = 17 := by simp at hi; omega
                        have hltz : (k : Int) < (N : Int) := by omega
                        have hsz9 : wr.heap.size ≤ w'.heap.size := IB.out.size
                        rcases hi' with rfl | rfl | rfl | rfl | rfl | rfl | rfl | rfl | rfl | rfl | rfl | rfl | rfl | rfl | rfl | rfl | rfl | rfl
                        · obtain rfl : x0 = false := by simpa using hbi
                          refine wpOpIn_plain rfl rfl rfl ?_
                          exact ⟨g, b, IB, IG, IA, IS, J11, J12, J13, J16, rfl⟩
                        · obtain rfl : x1 = false := by simpa using hbi
                          refine wpOpIn_plain rfl rfl rfl ?_
                          exact ⟨g, b, IB, IG, IA, IS, J11, J12, J13, J16, rfl⟩
                        · obtain rfl : x2 = false := by simpa using hbi
                          refine wpOpIn_plain rfl rfl rfl ?_
                          exact ⟨g, b, IB, IG, IA, IS, J11, J12, J13, J16, rfl⟩
                        · obtain rfl : x3 = false := by simpa using hbi
                          refine wpOpIn_plain rfl rfl rfl ?_
                          exact ⟨g, b, IB, IG, IA, IS, J11, J12, J13, J16, rfl⟩
                        · obtain rfl : x4 = false := by simpa using hbi
                          obtain rfl : x2 = true := hdep _ rfl ⟨2, .data⟩ (by simp) rfl
                          obtain rfl : x3 = true := hdep _ rfl ⟨3, .data⟩ (by simp) rfl
                          refine wpOpIn_plain (v := Value.pointer (some ⟨w1.heap.size, (k * 2), none⟩)) (w' := w') rfl rfl (by simp [Oper.semAt, execOp, go_sem, hltz]) ?_
                          exact ⟨g, b, IB, IG, IA, IS, J11, J12, J13, J16, rfl⟩
                        · obtain rfl : x5 = false := by simpa using hbi
                          obtain rfl : x4 = true := hdep _ rfl ⟨4, .data⟩ (by simp) rfl
                          have x0 := kcell IB.out HX0.out
                          have x1 := kcell IB.out HX1.out
                          rw [Nat.zero_add] at x0 x1
                          refine wpOpIn_plain (v := Value.agg #[Value.int IntKind.u64 ↑u.x, Value.int IntKind.i64 u.p]) (w' := w') rfl rfl (by simp [Oper.semAt, execOp, go_sem, x0, x1]) ?_
                          exact ⟨g, b, IB, IG, IA, IS, J11, J12, J13, J16, rfl⟩
                        · obtain rfl : x6 = false := by simpa using hbi
                          refine wpOpIn_plain rfl rfl rfl ?_
                          exact ⟨g, b, IB, IG, IA, IS, J11, J12, J13, J16, rfl⟩
                        · obtain rfl : x7 = false := by simpa using hbi
                          refine wpOpIn_plain rfl rfl rfl ?_
                          exact ⟨g, b, IB, IG, IA, IS, J11, J12, J13, J16, rfl⟩
                        · obtain rfl : x8 = false := by simpa using hbi
                          obtain rfl : x6 = true := hdep _ rfl ⟨6, .data⟩ (by simp) rfl
                          obtain rfl : x7 = true := hdep _ rfl ⟨7, .data⟩ (by simp) rfl
                          refine wpOpIn_plain (v := Value.pointer (some ⟨gs, (k * 2), none⟩)) (w' := w') rfl rfl (by simp [Oper.semAt, execOp, go_sem, hltz]) ?_
                          exact ⟨g, b, IB, IG, IA, IS, J11, J12, J13, J16, rfl⟩
                        · obtain rfl : x9 = false := by simpa using hbi
                          obtain rfl : x8 = true := hdep _ rfl ⟨8, .data⟩ (by simp) rfl
                          have z0 := kcell IB.out HZ0.out
                          have z1 := kcell IB.out HZ1.out
                          refine wpOpIn_plain (v := Value.agg #[Value.int IntKind.u64 ↑v.x, Value.int IntKind.i64 v.p]) (w' := w') rfl rfl (by simp [Oper.semAt, execOp, go_sem, z0, z1]) ?_
                          exact ⟨g, b, IB, IG, IA, IS, J11, J12, J13, J16, rfl⟩
                        · obtain rfl : x10 = false := by simpa using hbi
                          obtain rfl : x5 = true := hdep _ rfl ⟨5, .data⟩ (by simp) rfl
                          obtain rfl : x9 = true := hdep _ rfl ⟨9, .data⟩ (by simp) rfl
                          obtain rfl : x11 = false := Bool.eq_false_iff.2 fun h => by have := J11.out h; cases this
                          refine wpOpIn_plain (v := Value.slice (some ⟨w'.heap.size, 0, none⟩) 2 2) (w' := w'.alloc (.cells #[.int .u64 u.x, .int .i64 u.p, .int .u64 v.x, .int .i64 v.p] 54)) rfl rfl (by simp [Oper.semAt, execOp, go_sem]) ?_
                          have hb9 : Below w'.heap.size w' (w'.alloc (.cells #[.int .u64 u.x, .int .i64 u.p, .int .u64 v.x, .int .i64 v.p] 54)) := (Below.refl _ _).alloc (Nat.le_refl _) _
                          exact ⟨w'.heap.size, b, (IB.out.trans (hb9.mono hsz9)), (fun _ _ => heap_alloc_new w' _), (fun h => ⟨(IA.out h).1, by obtain ⟨y0, y1, hy⟩ := (IA.out h).2; exact ⟨y0, y1, heapB hb9 hy⟩⟩), (fun h => heapB hb9 (IS.out h)), (fun _ => rfl), J12, J13, J16, rfl⟩
                        · obtain rfl : x11 = false := by simpa using hbi
                          obtain rfl : x0 = true := hdep _ rfl ⟨0, .data⟩ (by simp) rfl
                          obtain rfl : x1 = true := hdep _ rfl ⟨1, .data⟩ (by simp) rfl
                          obtain rfl : x10 = true := hdep _ rfl ⟨10, .data⟩ (by simp) rfl
                          have hG := IG.out rfl rfl
                          have hrd := red_good hF0.out (pair_vls hG HUO.out HVO.out) (by simp) (pair_ok HUA.out HVA.out) 2
                          rw [← HRR.out] at hrd
                          refine wpOpIn_call (args := #[Value.int IntKind.i64 op, Value.int IntKind.i64 kind, Value.slice (some ⟨g, 0, none⟩) 2 2]) rfl rfl (sem_call3 rfl rfl rfl rfl (enters_of Try.func23 (by kernel_rfl) rfl)) hrd ?_
                          rintro e W ⟨rfl, hb9⟩
                          exact ⟨_, rfl, g, b, (IB.out.trans (hb9.mono hsz9)), (fun _ h => by cases h), (fun h => ⟨(IA.out h).1, by obtain ⟨y0, y1, hy⟩ := (IA.out h).2; exact ⟨y0, y1, heapB hb9 hy⟩⟩), (fun h => heapB hb9 (IS.out h)), (fun _ => rfl), (fun _ => rfl), J13, J16, rfl⟩
                        · obtain rfl : x12 = false := by simpa using hbi
                          obtain rfl : x11 = true := hdep _ rfl ⟨11, .data⟩ (by simp) rfl
                          refine wpOpIn_plain rfl rfl rfl ?_
                          exact ⟨g, b, IB, IG, IA, IS, J11, (fun _ => rfl), (fun _ => rfl), J16, rfl⟩
                        · obtain rfl : x13 = false := by simpa using hbi
                          obtain rfl : x12 = true := hdep _ rfl ⟨12, .data⟩ (by simp) rfl
                          refine wpOpIn_plain (v := Value.agg #[Value.int IntKind.u64 ↑r.x, Value.int IntKind.i64 r.p]) (w' := w') rfl rfl (by simp [Oper.semAt, execOp, go_sem]) ?_
                          exact ⟨g, b, IB, IG, IA, IS, J11, J12, (fun _ => rfl), (fun h => ⟨(J16.out h).1, rfl⟩), rfl⟩
                        · obtain rfl : x14 = false := by simpa using hbi
                          obtain rfl : x12 = true := hdep _ rfl ⟨12, .data⟩ (by simp) rfl
                          refine wpOpIn_plain (v := Value.int IntKind.i64 0) (w' := w') rfl rfl (by simp [Oper.semAt, execOp, go_sem]) ?_
                          exact ⟨g, b, IB, IG, IA, IS, J11, J12, J13, J16, rfl⟩
                        · obtain rfl : x15 = false := by simpa using hbi
                          obtain rfl : x16 = false := Bool.eq_false_iff.2 fun h => by have := (J16.out h).1; cases this
                          refine wpOpIn_plain (v := Value.pointer (some ⟨w'.heap.size, 0, none⟩)) (w' := w'.alloc (.cells #[.int .u64 0, .int .i64 0] 54)) rfl rfl (by simp [Oper.semAt, execOp, go_sem]) ?_
                          have hb9 : Below w'.heap.size w' (w'.alloc (.cells #[.int .u64 0, .int .i64 0] 54)) := (Below.refl _ _).alloc (Nat.le_refl _) _
                          exact ⟨g, w'.heap.size, (IB.out.trans (hb9.mono hsz9)), (fun h h' => heapB hb9 (IG.out h h')), (fun _ => ⟨hsz9, _, _, heap_alloc_new w' _⟩), (fun h => by have := J16.out h; cases this.1), J11, J12, J13, (fun h => ⟨rfl, (J16.out h).2⟩), rfl⟩
                        · obtain rfl : x16 = false := by simpa using hbi
                          obtain rfl : x15 = true := hdep _ rfl ⟨15, .data⟩ (by simp) rfl
                          obtain rfl : x13 = true := hdep _ rfl ⟨13, .data⟩ (by simp) rfl
                          obtain ⟨hbl, y0, y1, hy⟩ := IA.out rfl
                          refine wpOpIn_store_part rfl rfl 54 _ _ rfl b 0 #[.int .u64 r.x, .int .i64 r.p] rfl rfl 54 #[] #[y0, y1] #[] (by simpa using hy) rfl info54 rfl (by simp [Value.oneCell']) ?_
                          have hs9 : Sole b w' (w'.setRow b (#[] ++ #[.int .u64 r.x, .int .i64 r.p] ++ #[])) := Sole.row _
                          have hr9 : (w'.setRow b (#[] ++ #[.int .u64 r.x, .int .i64 r.p] ++ #[])).heap[b]? = some (.cells #[.int .u64 r.x, .int .i64 r.p] 54 (0, 0)) := by rw [setRow_heap w' b _ _ 54 _ hy]; simp
                          exact ⟨g, b, (IB.out.trans (hs9.below hbl hsz9)), (fun _ h => Bool.noConfusion ((J12.out (J13.out rfl)).symm.trans h)), (fun _ => ⟨hbl, _, _, hr9⟩), (fun _ => hr9), J11, J12, J13, (fun _ => ⟨rfl, rfl⟩), rfl⟩
                        · obtain rfl : x17 = false := by simpa using hbi
                          obtain rfl : x14 = true := hdep _ rfl ⟨14, .data⟩ (by simp) rfl
                          refine wpOpIn_plain rfl rfl rfl ?_
                          exact ⟨g, b, IB, IG, IA, IS, J11, J12, J13, J16, rfl⟩
                      case fin =>
                      intro listed a' wz hs hall ⟨g, b, IB, IG, IA, IS, J11, J12, J13, J16, ha⟩
                      obtain ⟨ls⟩ := listed
                      match ls, hs with
                      | [x0, x1, x2, x3, x4, x5, x6, x7, x8, x9, x10, x11, x12, x13, x14, x15, x16, x17], _ =>
                      obtain rfl : x0 = true := hall 0 (by simp)
                      obtain rfl : x1 = true := hall 1 (by simp)
                      obtain rfl : x2 = true := hall 2 (by simp)
                      obtain rfl : x3 = true := hall 3 (by simp)
                      obtain rfl : x4 = true := hall 4 (by simp)
                      obtain rfl : x5 = true := hall 5 (by simp)
                      obtain rfl : x6 = true := hall 6 (by simp)
                      obtain rfl : x7 = true := hall 7 (by simp)
                      obtain rfl : x8 = true := hall 8 (by simp)
                      obtain rfl : x9 = true := hall 9 (by simp)
                      obtain rfl : x10 = true := hall 10 (by simp)
                      obtain rfl : x11 = true := hall 11 (by simp)
                      obtain rfl : x12 = true := hall 12 (by simp)
                      obtain rfl : x13 = true := hall 13 (by simp)
                      obtain rfl : x14 = true := hall 14 (by simp)
                      obtain rfl : x15 = true := hall 15 (by simp)
                      obtain rfl : x16 = true := hall 16 (by simp)
                      obtain rfl : x17 = true := hall 17 (by simp)
                      subst ha
                      have h9 := IS.out rfl
                      have y0 := cellR 0 h9 rfl
                      have y1 := cellR 1 h9 rfl
                      have KO := heapB IB.out (heapB HM.out HO.out)
                      have z0 := cellR (k * 2) KO HCX.out
                      have z1 := cellR (k * 2 + 1) KO HCP.out
                      have hq := neq_V r.x r.x r.p r.p
                      rw [show eqV ⟨r.x, r.p⟩ ⟨r.x, r.p⟩ = true from (eqV_iff _ _).2 rfl] at hq
                      have HM6 := Lib.hid (HM.out.trans (IB.out.mono HM.out.size))
                      clear IB IG IA IS J11 J12 J13 J16 hall hs HM HUO HVO HUA HVA HRR HX0 HX1 HZ0 HZ1 HCX HCP h9 KO
                      dsimp only [Exit.then, Exit.inBlock]
                      go_wp2_with fail
                      go_quiet (fail)
                      go_wp2_with fail
                      go_round
                      case rel => exact ⟨k + 1, by omega, by go_num, below_drewN HM6.out _⟩
                      case measure => simp [intOf]; omega
                    · have hkn : k = N := by omega
                      subst hkn
                      go_wp2_with fail
                      refine (works_any _).mono ?_
                      rintro e w9 ⟨rfl, hb9⟩
                      have hbb := (HB.out.trans (HM.out.mono HB.out.size)).trans (hb9.mono (Nat.le_trans HB.out.size HM.out.size))
                      go_wp2_with fail
                      go_ret
                      exact ⟨rfl, hbb⟩

      · obtain ⟨E, hE⟩ : ∃ E, E = findE op kind := ⟨_, rfl⟩
        rw [← hE] at hck hF
        have q1 : ((E != 0) : Bool) = true := bne_iff_ne.2 hF
        clear hE h1 h2 hF
        go_enter Try.func9, Try.ntmps9
        go_wp2_with fail
        refine hck.mono ?_
        rintro e w1 ⟨rfl, hb1⟩
        go_wp2_with fail
        refine (works_any _).mono ?_
        rintro e w9 ⟨rfl, hb9⟩
        go_wp2_with fail
        go_ret
        exact ⟨rfl, hb1.trans (hb9.mono hb1.size)⟩
end Go.Proofs.Ytjcdnaandbockaa

namespace Go.Proofs.Ytjcdnaandbockaa
open Go.ChangeShapes Go.WideShapes Go.ChangeAt Go.RowKit Go.Deep
set_option maxRecDepth 100000

/-- an argument that is a slice of values -/
theorem vals_of_trod {H : Type} {enc : TypeId × Value → H} {W : World} {x : Option Addr} {len cap : Nat} {d : DataW H} {ps : List MemPlace} (h : DataW.Trod enc Try.prog W 0 (fun _ => true) true 52 (.slice x len cap) d ps) :
    ∃ l : List Vl, l.length = len ∧ len ≤ cap ∧ Vls W x l := by
  obtain ⟨fuel, hf⟩ := h
  rcases open_slice_pairs Try.underlying52 Try.underlying54 Try.cells54 rfl rfl (by kernel_rfl) (by kernel_rfl) hf with ⟨hcs, hx⟩ | ⟨a, len', cap', m, n, V0, V1, D0, D1, P0, P1, hcs, _, hl, hm, hmm, hx, hall⟩
  · have e : (Value.slice x len cap) = .slice none 0 0 := by simpa [Value.cells] using hcs
    cases e
    exact ⟨[], rfl, Nat.le_refl _, ⟨by simp, (fun u hu => by cases hu), fun hl => absurd rfl hl⟩⟩
  · have e : (Value.slice x len cap) = .slice (some a) len' cap' := by simpa [Value.cells] using hcs
    cases e
    simp only [if_true] at hmm
    have each : ∀ i, i < len → ∃ u : Vl, u.Ok ∧ W.cell? (a.add (i * 2)) = some (.int .u64 u.x) ∧ W.cell? (a.add (i * 2 + 1)) = some (.int .i64 u.p) := by
      intro i hi
      obtain ⟨c0, c1, t0, t1⟩ := hall i (by omega)
      obtain ⟨y, ey, _, wy⟩ := DataW.trod_int Try.underlying33 t0
      obtain ⟨p, ep, _, wp⟩ := DataW.trod_int Try.underlying2 t1
      obtain ⟨k, rfl, hk⟩ := u64_nat wy
      have hp := i64_ok wp
      simp at ey ep
      exact ⟨⟨k, p⟩, ⟨hk, hp.1, hp.2⟩, by rw [c0, ey], by rw [c1, ep]⟩
    have hlist : ∀ n, n ≤ len → ∃ l : List Vl, l.length = n ∧ ∀ i, (hi : i < l.length) → (l[i]).Ok ∧ W.cell? (a.add (i * 2)) = some (.int .u64 (l[i]).x) ∧ W.cell? (a.add (i * 2 + 1)) = some (.int .i64 (l[i]).p) := by
      intro n
      induction n with
      | zero => intro _; exact ⟨[], rfl, fun i hi => by simp at hi⟩
      | succ n ih =>
        intro hn
        obtain ⟨l, hl1, hl2⟩ := ih (by omega)
        obtain ⟨u, hu⟩ := each n (by omega)
        refine ⟨l ++ [u], by simp [hl1], fun i hi => ?_⟩
        by_cases hin : i < l.length
        · rw [List.getElem_append_left hin]
          exact hl2 i hin
        · have hin2 : i = n := by simp at hi; omega
          subst hin2
          rw [List.getElem_append_right (by omega)]
          simpa [hl1] using hu
    obtain ⟨l, hl1, hl2⟩ := hlist len (Nat.le_refl _)
    refine ⟨l, hl1, hl, ⟨by rw [hl1]; unfold maxLen at hm; omega, ?_, fun hne => ?_⟩⟩
    · intro u hu
      obtain ⟨i, hi, rfl⟩ := List.getElem_of_mem hu
      exact (hl2 i hi).1
    · have hp : 0 < l.length := by cases l with | nil => exact absurd rfl hne | cons _ _ => simp
      obtain ⟨b, off, q⟩ := a
      have hq : q = none := by simpa [Addr.add] using World.cell?_spot (hl2 0 hp).2.1
      subst hq
      refine ⟨b, off, rfl, fun i hi => ?_⟩
      have := hl2 i hi
      simpa [part_add, Nat.add_assoc] using this.2
end Go.Proofs.Ytjcdnaandbockaa
