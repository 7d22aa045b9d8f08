import Derived.Test.YtjcdnaandbockaaGreatGl
namespace Go.Proofs.YtjcdnaandbockaaGreat
open Go.RowKit Go.Shelf
attribute [local go_sem] Oper.semAt_some
set_option maxRecDepth 100000
set_option maxHeartbeats 2000000

theorem sem_callV1 {P : Program} {o : Oper} {a : Act} {w : World} {f x : Operand} {g : FuncId} {cs : Array Value} {ts : Array TypeId} {vx : Value} (hop : o.op = .call { callee := .value f, args := #[x], argTypes := ts }) (hf : a.eval f = .func (.func g) #[] cs) (hx : a.eval x = vx)
    (eg : ∀ args w, (callFunc g args).run P w = .ok (.enter g args) w) : (o.semAt none a.eval).run P w = .ok (.enter g (#[vx] ++ cs)) w := by
  simp [Oper.semAt, hop, execOp, resolve, invoke, eg, hf, hx, Deferred.ofValue]
/-- rows of values in memory -/
structure Rws (w : World) (a : Option Addr) (rows : List (List Vl)) : Prop where
  len : rows.length ≤ 9223372036854775807
  at_ : rows ≠ [] → ∃ g o, a = some ⟨g, o, none⟩ ∧ ∀ i, (h : i < rows.length) → ∃ ai ci, w.cell? ⟨g, o + i, none⟩ = some (.slice ai (rows[i]).length ci) ∧ Vls w ai rows[i]
theorem Rws.keep {w w' : World} {a : Option Addr} {rows : List (List Vl)} (h : Rws w a rows) (hb : Below w.heap.size w w') : Rws w' a rows := by
  refine ⟨h.len, fun hne => ?_⟩
  obtain ⟨g, o, ha, hc⟩ := h.at_ hne
  refine ⟨g, o, ha, fun i hi => ?_⟩
  obtain ⟨ai, ci, h1, h2⟩ := hc i hi
  exact ⟨ai, ci, kcell hb h1, h2.keep hb⟩
/-- a column -/
def colL (rows : List (List Vl)) (j : Nat) : List Vl := rows.map fun r => r.getD j ⟨0, 0⟩
/-- the first k results -/
def outC (op kind : Int) (rows : List (List Vl)) (N k : Nat) : List Vl := (List.range N).map fun j => if j < k then accV op kind (colL rows j) else ⟨0, 0⟩
@[simp] theorem outC_len (op kind : Int) (rows : List (List Vl)) (N k : Nat) : (outC op kind rows N k).length = N := by simp [outC]
theorem outC_zero (op kind : Int) (rows : List (List Vl)) (N : Nat) : outC op kind rows N 0 = List.replicate N ⟨0, 0⟩ := by
  apply List.ext_getElem
  · simp
  · intro i h1 h2; simp [outC]
theorem outC_set (op kind : Int) (rows : List (List Vl)) (N k : Nat) : (outC op kind rows N k).set k (accV op kind (colL rows k)) = outC op kind rows N (k + 1) := by
  apply List.ext_getElem
  · simp
  · intro i h1 h2
    simp only [List.getElem_set, outC, List.getElem_map, List.getElem_range]
    by_cases e : k = i
    · subst e; simp
    · rw [if_neg e]
      by_cases h : i < k
      · rw [if_pos h, if_pos (by omega)]
      · rw [if_neg h, if_neg (by omega)]
theorem Reduces_ok (op kind : Int) {w : World} {a : Option Addr} {rows : List (List Vl)} (h : Rws w a rows) (N : Nat) (h44 : N ≤ 17592186044416) (hne : rows ≠ []) (hN : ∀ r ∈ rows, r.length = N) (hA : ∀ r ∈ rows, allowsL kind r = true) (h0 : findE op kind = 0) (cap : Nat) :
    Calls Tryz.prog 13 #[.int .i64 op, .int .i64 kind, .slice a rows.length cap] w fun e w' => ∃ g, w.heap.size ≤ g ∧ e = .returned (.tuple #[.slice (some ⟨g, 0, none⟩) N N, .int .i64 0]) ∧ VRow w' g (outC op kind rows N N) ∧ Below w.heap.size w w' := by
  have hlen := h.len
  have HLW := Lib.hid h
  have HNE := Lib.hid hne
  have HN := Lib.hid hN
  have HA := Lib.hid hA
  have hl0 : ¬ (rows.length : Int) = 0 := by
    intro h9; exact hne (List.length_eq_zero_iff.1 (by omega))
  have hl1 : 0 < rows.length := by omega
  have hf := find_any op kind w
  clear h hne hN hA
  go_enter Tryz.func13, Tryz.ntmps13
  go_wp2_with fail
  refine hf.mono ?_
  rintro e w1 ⟨⟨h9, rfl⟩ | ⟨_, n, cs, rfl, hd⟩, hb⟩
  · exact absurd h0 h9
  · have hst := store_fnv (heap_alloc_new w1 (.cells #[.int .i64 op, .int .i64 kind, .nilFunc] 67)) (.func (.func n) #[] cs) rfl
    have hsz := hb.size
    obtain ⟨hb2, h4, h5, hz⟩ := two w1 (.cells #[.int .i64 op, .int .i64 kind, .func (.func n) #[] cs] 67) (.cells (rowV (List.replicate N ⟨0, 0⟩)) 24)
    have hbr := (Below.refl w1.heap.size w1).alloc (Nat.le_refl _) (.cells #[.int .i64 op, .int .i64 kind, .func (.func n) #[] cs] 67)
    obtain ⟨g0, o0, rfl, hrc⟩ := (HLW.out.keep hb).at_ HNE.out
    obtain ⟨ai, ci, hc0, _⟩ := hrc 0 hl1
    rw [HN.out _ (List.getElem_mem hl1)] at hc0
    rw [Nat.add_zero] at hc0
    have hc0' := kcell hbr hc0
    have hmk := make_vals N h44 (w1.alloc (.cells #[.int .i64 op, .int .i64 kind, .func (.func n) #[] cs] 67))
    have H4 := Lib.hid h4
    have H5 : Hid (VRow ((w1.alloc (.cells #[.int .i64 op, .int .i64 kind, .func (.func n) #[] cs] 67)).alloc (.cells (rowV (List.replicate N ⟨0, 0⟩)) 24)) (w1.heap.size + 1) (outC op kind rows N 0)) := by show VRow _ _ _; rw [outC_zero]; exact h5
    have HB := Lib.hid (hb.trans (hb2.mono hb.size))
    have HD := Lib.hid hd
    have HB1 := Lib.hid hb2
    unfold rA
    clear hf hb hd hb2 h4 h5 hbr hrc hc0
    go_wp2_with fail
    clear hst hmk hc0'
    generalize (w1.alloc (.cells #[.int .i64 op, .int .i64 kind, .func (.func n) #[] cs] 67)).alloc (.cells (rowV (List.replicate N ⟨0, 0⟩)) 24) = Y at *
    go_loop [40] (fun i => ∃ k : Nat, k ≤ rows.length ∧ i = .int .i64 k) (fun i => rows.length - (intOf i).toNat)
    case atStart => exact ⟨0, Nat.zero_le _, rfl⟩
    case round =>
      obtain ⟨k, hk, rfl⟩ := hrel
      by_cases hlt : k < rows.length
      · obtain ⟨g1, o1, e1, hrc⟩ := (HLW.out.keep HB.out).at_ HNE.out
        obtain ⟨rfl, rfl⟩ : g0 = g1 ∧ o0 = o1 := by injection e1 with e2; injection e2 with e3 e4; exact ⟨e3, e4⟩
        obtain ⟨ak, ck, hc0, _⟩ := hrc k hlt
        rw [HN.out _ (List.getElem_mem hlt)] at hc0
        clear hrc e1
        go_wp2_with fail
        go_round
        case rel => exact ⟨k + 1, by omega, by go_num⟩
        case measure => simp [intOf]; omega
      · have hkn : k = rows.length := by omega
        subst hkn
        go_wp2_with fail
        go_loopw [52] (fun i wr => ∃ k : Nat, k ≤ rows.length ∧ i = .int .i64 k ∧ Hid (Below Y.heap.size Y wr)) (fun i _ => rows.length - (intOf i).toNat)
        case atStart => exact ⟨0, Nat.zero_le _, rfl, Below.refl _ _⟩
        case round =>
          obtain ⟨k, hk, rfl, HM⟩ := hrel
          have KB := Lib.hid (HB.out.trans (HM.out.mono HB.out.size))
          by_cases hlt : k < rows.length
          · obtain ⟨g1, o1, e1, hrc⟩ := (HLW.out.keep KB.out).at_ HNE.out
            obtain ⟨rfl, rfl⟩ : g0 = g1 ∧ o0 = o1 := by injection e1 with e2; injection e2 with e3 e4; exact ⟨e3, e4⟩
            obtain ⟨ak, ck, hc0, hv⟩ := hrc k hlt
            have ha := allowsAll_any hv ck op kind n cs
            rw [HA.out _ (List.getElem_mem hlt)] at ha
            unfold rA at ha
            have K4 := heapB HM.out H4.out
            have c0 := cellR 0 K4 rfl
            have c1 := cellR 1 K4 rfl
            have c2 := cellR 2 K4 rfl
            clear hrc e1 hv K4
            go_wp2_with fail
            refine ha.mono ?_
            rintro e w5 ⟨rfl, hb5⟩
            have HM5 := Lib.hid (HM.out.trans (hb5.mono HM.out.size))
            clear ha hb5 HM KB hc0 c0 c1 c2
            go_wp2_with fail
            go_round
            case rel => exact ⟨k + 1, by omega, by go_num, HM5⟩
            case measure => simp [intOf]; omega
          · have hkn : k = rows.length := by omega
            subst hkn
            have H6 : Hid (VRow wr (w1.heap.size + 1) (outC op kind rows N 0)) := heapB HM.out H5.out
            have HM0 := Lib.hid (HM.out.mono (show w1.heap.size + 1 ≤ Y.heap.size by omega))
            have hwy := HM.out.size
            clear KB
            go_wp2_with fail
            clear HM
            obtain ⟨wo, hwo⟩ : ∃ wo : World, wo = wr := ⟨_, rfl⟩
            rw [← hwo] at H6 HM0 hwy
            rw [← hwo]
            clear hwo wr
            go_loopw [63] (fun i wr => ∃ k : Nat, k ≤ N ∧ i = .int .i64 k ∧ Hid (Below (w1.heap.size + 1) Y wr) ∧ Hid (VRow wr (w1.heap.size + 1) (outC op kind rows N k)) ∧ wo.heap.size ≤ wr.heap.size) (fun i _ => N - (intOf i).toNat)
            case atStart => exact ⟨0, Nat.zero_le _, rfl, HM0.out, H6.out, Nat.le_refl _⟩
            case round =>
              obtain ⟨k, hk, rfl, HM, KO, hwz⟩ := hrel
              have KB := Lib.hid (HB.out.trans (HM.out.mono (show w.heap.size ≤ w1.heap.size + 1 by omega)))
              by_cases hlt : k < N
              · have K4 := (HM.out.block _ (Nat.lt_succ_self w1.heap.size)).trans H4.out
                have c0 := cellR 0 K4 rfl
                have c1 := cellR 1 K4 rfl
                have c2 := cellR 2 K4 rfl
                have hbeg := begin_any op kind (HD.out.later (.of_below (HB1.out.trans (HM.out.mono (Nat.le_succ _)))))
                unfold rA fnv at hbeg
                clear K4
                go_wp2_with fail
                refine hbeg.mono ?_
                rintro e w3 ⟨T, S, rfl, hT, hb3⟩
                obtain ⟨nt, ct, nr, cr, rfl, rfl, en1, en2⟩ := hT.form
                unfold fnv at hT
                unfold fnv
                have hst0 := store_row 0 (heap_alloc_new w3 (.cells #[.nilFunc, .nilFunc] 80)) (.func (.func nt) #[] ct) (by simp) rfl
                have hst1 := store_row 1 (heap_alloc_new w3 (.cells #[.func (.func nt) #[] ct, .nilFunc] 80)) (.func (.func nr) #[] cr) (by simp) rfl
                have hb4 := (Below.refl w3.heap.size w3).alloc (Nat.le_refl _) (.cells #[.func (.func nt) #[] ct, .func (.func nr) #[] cr] 80)
                have G5 := Lib.hid (heap_alloc_new w3 (.cells #[.func (.func nt) #[] ct, .func (.func nr) #[] cr] 80))
                have GT := Lib.hid (hT.keep hb4)
                have GO : Hid (VRow (w3.alloc (.cells #[.func (.func nt) #[] ct, .func (.func nr) #[] cr] 80)) (w1.heap.size + 1) (outC op kind rows N k)) := heapB hb4 (heapB hb3 KO.out)
                have hwr : w1.heap.size + 1 < wr.heap.size := KO.out.lt
                have hC := hb3.size
                have GM := Lib.hid ((HM.out.trans (hb3.mono (Nat.le_of_lt hwr))).trans (hb4.mono (by omega)))
                have hzq : (w3.alloc (.cells #[.func (.func nt) #[] ct, .func (.func nr) #[] cr] 80)).heap.size = w3.heap.size + 1 := by simp
                clear hT hbeg c0 c1 c2 KO HM KB
                go_wp2_with fail
                clear hst0 hst1 hb3 hb4
                generalize w3.alloc (.cells #[.func (.func nt) #[] ct, .func (.func nr) #[] cr] 80) = Z at *
                obtain ⟨wB, hwB⟩ : ∃ wB : World, wB = wr := ⟨_, rfl⟩
                rw [← hwB] at GT hwr hC hwz
                clear hwB wr
                have hcl : (colL rows k).length = rows.length := by simp [colL]
                go_loopw [70] (fun i wr => ∃ q : Nat, q ≤ rows.length ∧ i = .int .i64 q ∧ Hid (Took wB.heap.size w3.heap.size wr (.func (.func nt) #[] ct) (.func (.func nr) #[] cr) op kind ((colL rows k).take q)) ∧ Hid (Mid wB.heap.size w3.heap.size Z wr)) (fun i _ => rows.length - (intOf i).toNat)
                case atStart => exact ⟨0, Nat.zero_le _, rfl, GT.out, Mid.of_below (Below.refl _ _)⟩
                case round =>
                  obtain ⟨q, hq, rfl, HT, HMI⟩ := hrel
                  have hZY : Y.heap.size ≤ Z.heap.size := GM.out.size
                  have hsB : w1.heap.size + 1 ≤ Z.heap.size := by omega
                  have KM := Lib.hid (GM.out.trans (HMI.out.below (show w1.heap.size + 1 ≤ wB.heap.size by omega) hsB))
                  have KB := Lib.hid (HB.out.trans (KM.out.mono (show w.heap.size ≤ w1.heap.size + 1 by omega)))
                  by_cases hlq : q < rows.length
                  · obtain ⟨g1, o1, e1, hrc⟩ := (HLW.out.keep KB.out).at_ HNE.out
                    obtain ⟨rfl, rfl⟩ : g0 = g1 ∧ o0 = o1 := by injection e1 with e2; injection e2 with e3 e4; exact ⟨e3, e4⟩
                    obtain ⟨ak, ck, hc0, hv⟩ := hrc q hlq
                    have hrl := HN.out _ (List.getElem_mem hlq)
                    have hkr : k < (rows[q]).length := by rw [hrl]; exact hlt
                    obtain ⟨ga, oa, rfl, hca⟩ := hv.at_ (by intro e; rw [e] at hkr; exact absurd hkr (Nat.not_lt_zero _))
                    obtain ⟨q0, q1⟩ := hca k hkr
                    rw [hrl] at hc0
                    have HU : Hid ((rows[q])[k].Ok) := hv.ok _ (List.getElem_mem hkr)
                    obtain ⟨u, hu⟩ : ∃ u, u = (rows[q])[k] := ⟨_, rfl⟩
                    rw [← hu] at q0 q1 HU
                    have HTS : Hid ((colL rows k).take q ++ [u] = (colL rows k).take (q + 1)) := by
                      show _ = _
                      rw [← takeS (colL rows k) q (by rw [hcl]; exact hlq)]
                      congr 1
                      rw [hu]
                      simp [colL, hkr]
                    have Q0 := Lib.hid q0
                    have Q1 := Lib.hid q1
                    have HOKS : Hid (∀ v ∈ (colL rows k).take q, v.Ok) := by
                      intro v hv9
                      obtain ⟨r, hr, rfl⟩ := List.mem_map.1 (List.mem_of_mem_take hv9)
                      obtain ⟨j, hj, rfl⟩ := List.getElem_of_mem hr
                      obtain ⟨_, _, _, hvj⟩ := hrc j hj
                      rw [List.getD_eq_getElem?_getD]
                      have : k < (rows[j]).length := by rw [HN.out _ (List.getElem_mem hj)]; exact hlt
                      simp only [List.getElem?_eq_getElem this, Option.getD_some]
                      exact hvj.ok _ (List.getElem_mem this)
                    have K5 := Lib.hid (HMI.out.heap G5.out (.inr (Nat.le_refl _)))
                    clear hrc e1 hv hca q0 q1 hu hkr hrl
                    go_wp2_with fail
                    refine (wpIn_wide (n := 0)).1 ?_
                    refine region_det (by kernel_rfl) (I := fun listed a' w' => Hid (listed.getD 6 false = false → Below wr.heap.size wr w') ∧ Hid (listed.getD 6 false = true → Took wB.heap.size w3.heap.size w' (.func (.func nt) #[] ct) (.func (.func nr) #[] cr) op kind ((colL rows k).take (q + 1)) ∧ Mid wB.heap.size w3.heap.size wr w') ∧ Hid (listed.getD 6 false = true → listed.getD 1 false = true ∧ listed.getD 5 false = true) ∧ a' = ⟨#[Value.int IntKind.i64 op, Value.int IntKind.i64 kind, Value.slice (some ⟨g0, o0, none⟩) rows.length cap, undef, undef, undef, u6, u7, Value.pointer (some ⟨w1.heap.size, 0, none⟩), Value.int IntKind.i64 0, Value.slice (some ⟨(w1.heap.size + 1), 0, none⟩) N N, undef, u12, undef, u14, Value.int IntKind.i64 ↑k, Value.pointer (some ⟨w3.heap.size, 0, none⟩), undef, Value.slice (some ⟨ga, oa, none⟩) N ck, Value.tuple #[Value.agg #[Value.int IntKind.i64 op, Value.int IntKind.i64 kind, Value.func (Fn.func n) #[] cs], Value.int IntKind.i64 0], Value.int IntKind.i64 op, Value.int IntKind.i64 kind, Value.tuple #[Value.agg #[Value.int IntKind.i64 op, Value.int IntKind.i64 kind, Value.func (Fn.func n) #[] cs], Value.int IntKind.i64 0], Value.agg #[Value.int IntKind.i64 op, Value.int IntKind.i64 kind, Value.func (Fn.func n) #[] cs], Value.int IntKind.i64 0, Value.bool false, Value.int IntKind.i64 0, Value.bool false, undef, Value.bool false, Value.slice (some ⟨g0, o0, none⟩) rows.length cap, Value.int IntKind.i64 ↑rows.length, Value.bool false, Value.slice (some ⟨g0, o0, none⟩) rows.length cap, Value.pointer (some ⟨g0, o0, none⟩), Value.slice ai N ci, Value.int IntKind.i64 ↑N, Value.slice (some ⟨(w1.heap.size + 1), 0, none⟩) N N, Value.slice (some ⟨g0, o0, none⟩) rows.length cap, Value.int IntKind.i64 ↑rows.length, Value.int IntKind.i64 ↑rows.length, Value.bool false, u42, u43, u44, u45, u46, u47, u48, u49, Value.slice (some ⟨g0, o0, none⟩) rows.length cap, Value.int IntKind.i64 ↑rows.length, Value.int IntKind.i64 ↑rows.length, Value.bool false, u54, u55, u56, u57, u58, u59, u60, Value.slice (some ⟨(w1.heap.size + 1), 0, none⟩) N N, Value.int IntKind.i64 ↑N, Value.int IntKind.i64 ↑k, Value.bool true, Value.int IntKind.i64 ↑k, Value.agg #[Value.int IntKind.i64 op, Value.int IntKind.i64 kind, Value.func (Fn.func n) #[] cs], Value.agg #[Value.func (Fn.func nt) #[] ct, Value.func (Fn.func nr) #[] cr], Value.slice (some ⟨g0, o0, none⟩) rows.length cap, Value.int IntKind.i64 ↑rows.length, Value.int IntKind.i64 ↑q, Value.bool true, Value.pointer (some ⟨g0, (o0 + q), none⟩), Value.slice (some ⟨ga, oa, none⟩) N ck, (if listed.getD 0 false = true then Value.pointer (some ⟨w3.heap.size, 0, none⟩) else u74), (if listed.getD 1 false = true then Value.func (.func nt) #[] ct else u75), (if listed.getD 2 false = true then Value.slice (some ⟨ga, oa, none⟩) N ck else u76), (if listed.getD 3 false = true then Value.int IntKind.i64 ↑k else u77), (if listed.getD 4 false = true then Value.pointer (some ⟨ga, (oa + k * 2), none⟩) else u78), (if listed.getD 5 false = true then Value.agg #[Value.int IntKind.u64 ↑u.x, Value.int IntKind.i64 u.p] else u79), (if listed.getD 6 false = true then Value.tuple #[] else u80), u81, u82, u83, u84, u85, u86, u87, u88, undef], []⟩) (hup_check (by kernel_rfl)) ?h0 ?step ?fin
                    case h0 => exact ⟨(fun _ => (Below.refl _ _).drew), (fun h => by simp at h), (fun h => by simp at h), rfl⟩
                    case step =>
                      intro listed a' w' i hs hbi hdep hi ⟨IB, IC, J6, ha⟩
                      obtain ⟨ls⟩ := listed
                      match ls, hs with
                      | [x0, x1, x2, x3, x4, x5, x6], _ =>
                      subst ha
                      have hi' : i = 0 ∨ i = 1 ∨ i = 2 ∨ i = 3 ∨ i = 4 ∨ i = 5 ∨ i = 6 := by simp at hi; omega
                      have hltz : (k : Int) < (N : Int) := by omega
                      rcases hi' with rfl | rfl | rfl | rfl | rfl | rfl | rfl
                      · obtain rfl : x0 = false := by simpa using hbi
                        refine wpOpIn_plain (v := Value.pointer (some ⟨w3.heap.size, 0, none⟩)) (w' := w') rfl rfl (by simp [Oper.semAt, execOp, go_sem]) ?_
                        exact ⟨IB, IC, J6, rfl⟩
                      · obtain rfl : x1 = false := by simpa using hbi
                        obtain rfl : x0 = true := hdep _ rfl ⟨0, .data⟩ (by simp) rfl
                        obtain rfl : x6 = false := Bool.eq_false_iff.2 fun h => by have := (J6.out h).1; cases this
                        have bx := IB.out rfl
                        have t0 := cellR 0 (heapB bx K5.out) rfl
                        refine wpOpIn_plain (v := Value.func (.func nt) #[] ct) (w' := w') rfl rfl (by simp [Oper.semAt, execOp, go_sem, t0]) ?_
                        exact ⟨IB, IC, (fun h => ⟨rfl, (J6.out h).2⟩), rfl⟩
                      · obtain rfl : x2 = false := by simpa using hbi
                        refine wpOpIn_plain rfl rfl rfl ?_
                        exact ⟨IB, IC, J6, rfl⟩
                      · obtain rfl : x3 = false := by simpa using hbi
                        refine wpOpIn_plain rfl rfl rfl ?_
                        exact ⟨IB, IC, J6, rfl⟩
                      · obtain rfl : x4 = false := by simpa using hbi
                        obtain rfl : x2 = true := hdep _ rfl ⟨2, .data⟩ (by simp) rfl
                        obtain rfl : x3 = true := hdep _ rfl ⟨3, .data⟩ (by simp) rfl
                        refine wpOpIn_plain (v := Value.pointer (some ⟨ga, (oa + k * 2), none⟩)) (w' := w') rfl rfl (by simp [Oper.semAt, execOp, go_sem, hltz]) ?_
                        exact ⟨IB, IC, J6, rfl⟩
                      · obtain rfl : x5 = false := by simpa using hbi
                        obtain rfl : x4 = true := hdep _ rfl ⟨4, .data⟩ (by simp) rfl
                        obtain rfl : x6 = false := Bool.eq_false_iff.2 fun h => by have := (J6.out h).2; cases this
                        have bx := IB.out rfl
                        have x0 := kcell bx Q0.out
                        have x1 := kcell bx Q1.out
                        refine wpOpIn_plain (v := Value.agg #[Value.int IntKind.u64 ↑u.x, Value.int IntKind.i64 u.p]) (w' := w') rfl rfl (by simp [Oper.semAt, execOp, go_sem, x0, x1]) ?_
                        exact ⟨IB, IC, (fun h => ⟨(J6.out h).1, rfl⟩), rfl⟩
                      · obtain rfl : x6 = false := by simpa using hbi
                        obtain rfl : x1 = true := hdep _ rfl ⟨1, .data⟩ (by simp) rfl
                        obtain rfl : x5 = true := hdep _ rfl ⟨5, .data⟩ (by simp) rfl
                        have bx := IB.out rfl
                        have hcw : w3.heap.size ≤ wr.heap.size := Nat.le_of_lt (Array.getElem?_eq_some_iff.1 K5.out).1
                        have tk := take_any (u := u) (show Took wB.heap.size w3.heap.size w' (fnv nt ct) (fnv nr cr) op kind ((colL rows k).take q) from HT.out.keep (bx.mono hcw)) HOKS.out HU.out
                        unfold vA at tk
                        refine wpOpIn_call (args := #[Value.agg #[Value.int IntKind.u64 ↑u.x, Value.int IntKind.i64 u.p]] ++ ct) rfl rfl (sem_callV1 rfl rfl rfl en1) tk ?_
                        rintro e W ⟨rfl, hT9, hM9⟩
                        rw [HTS.out] at hT9
                        exact ⟨_, rfl, (fun h => by cases h), (fun _ => ⟨hT9, (Mid.of_below bx).trans hM9⟩), (fun _ => ⟨rfl, rfl⟩), rfl⟩
                    case fin =>
                    intro listed a' wz hs hall ⟨IB, IC, J6, ha⟩
                    obtain ⟨ls⟩ := listed
                    match ls, hs with
                    | [x0, x1, x2, x3, x4, x5, x6], _ =>
                    obtain rfl : x0 = true := hall 0 (by simp)
                    obtain rfl : x1 = true := hall 1 (by simp)
                    obtain rfl : x2 = true := hall 2 (by simp)
                    obtain rfl : x3 = true := hall 3 (by simp)
                    obtain rfl : x4 = true := hall 4 (by simp)
                    obtain rfl : x5 = true := hall 5 (by simp)
                    obtain rfl : x6 = true := hall 6 (by simp)
                    subst ha
                    have hfin := IC.out rfl
                    have HT9 := Lib.hid hfin.1
                    have HM9 := Lib.hid (HMI.out.trans hfin.2)
                    clear IB IC J6 hfin hall hs HT HMI KM KB Q0 Q1 HU HTS HOKS K5
                    dsimp only [Exit.then, Exit.inBlock]
                    go_wp2_with fail
                    go_round
                    case rel => exact ⟨q + 1, by omega, by go_num, HT9, HM9⟩
                    case measure => simp [intOf]; omega
                  · have hkn : q = rows.length := by omega
                    subst hkn
                    have hT9 := HT.out
                    rw [show (colL rows k).take rows.length = colL rows k by rw [← hcl, List.take_length]] at hT9
                    have hcok : ∀ v ∈ colL rows k, v.Ok := by
                      intro v hv9
                      obtain ⟨r, hr, rfl⟩ := List.mem_map.1 hv9
                      obtain ⟨j, hj, rfl⟩ := List.getElem_of_mem hr
                      obtain ⟨_, _, _, hrc⟩ := (HLW.out.keep KB.out).at_ HNE.out
                      obtain ⟨_, _, _, hvj⟩ := hrc j hj
                      rw [List.getD_eq_getElem?_getD]
                      have : k < (rows[j]).length := by rw [HN.out _ (List.getElem_mem hj)]; exact hlt
                      simp only [List.getElem?_eq_getElem this, Option.getD_some]
                      exact hvj.ok _ (List.getElem_mem this)
                    have rs := Lib.hid (result_any (T := .func (.func nt) #[] ct) (m := nr) (ds := cr) hT9 hcok (by rw [hcl]; exact hlen))
                    have t1 := cellR 1 (HMI.out.heap G5.out (.inr (Nat.le_refl _))) rfl
                    have K6 : Hid (VRow wr (w1.heap.size + 1) (outC op kind rows N k)) := HMI.out.heap GO.out (.inl hwr)
                    have eg2 : ∀ args w, (callFunc nr args).run Tryz.prog w = .ok (.enter nr args) w := en2
                    have hwrs : wB.heap.size ≤ wr.heap.size := by have := HMI.out.size; omega
                    clear hT9 hcok HT
                    go_wp2_with fail
                    refine rs.out.mono ?_
                    rintro e w10 ⟨rfl, hb10⟩
                    have hk2 : k < (outC op kind rows N k).length := by rw [outC_len]; exact hlt
                    obtain ⟨u, hu⟩ : ∃ u, u = accV op kind (colL rows k) := ⟨_, rfl⟩
                    rw [← hu]
                    have L6 := Lib.hid (heapB hb10 K6.out)
                    have hs2 : Sole (w1.heap.size + 1) w10 ((w10.setCell ⟨w1.heap.size + 1, k * 2, none⟩ (.int .u64 u.x)).setCell ⟨w1.heap.size + 1, k * 2 + 1, none⟩ (.int .i64 u.p)) := (Sole.set _).trans (Sole.set _)
                    have M6 : Hid (VRow ((w10.setCell ⟨w1.heap.size + 1, k * 2, none⟩ (.int .u64 u.x)).setCell ⟨w1.heap.size + 1, k * 2 + 1, none⟩ (.int .i64 u.p)) (w1.heap.size + 1) (outC op kind rows N (k + 1))) := by
                      show VRow _ _ _
                      rw [← outC_set, ← hu]
                      exact VRow.put L6.out k hk2 u
                    have hw10 : wr.heap.size ≤ w10.heap.size := hb10.size
                    have MB := Lib.hid ((KM.out.trans (hb10.mono (show w1.heap.size + 1 ≤ wr.heap.size by omega))).trans (hs2.below (Nat.le_refl _) (by omega)))
                    have hsz9 : wo.heap.size ≤ ((w10.setCell ⟨w1.heap.size + 1, k * 2, none⟩ (.int .u64 u.x)).setCell ⟨w1.heap.size + 1, k * 2 + 1, none⟩ (.int .i64 u.p)).heap.size := by have := hs2.size; omega
                    have d0 := cellR (k * 2) L6.out (rowV_x _ k hk2)
                    have d1 := cellR (k * 2 + 1) L6.out (rowV_p _ k hk2)
                    have f0 := frozen_of_row w10 _ (k * 2) _ _ L6.out
                    have f1 := frozen_of_row w10 _ (k * 2 + 1) _ _ L6.out
                    have l0 : w1.heap.size + 1 < w10.heap.size := (Array.getElem?_eq_some_iff.1 L6.out).1
                    unfold vA
                    clear rs t1 K6 KM KB HMI hb10 hs2 L6 hu hw10
                    go_wp2_with fail
                    go_round
                    case rel => exact ⟨k + 1, by omega, by go_num, MB, M6, hsz9⟩
                    case measure => simp [intOf]; omega
              · have hkn : k = N := by omega
                subst hkn
                go_wp2_with fail
                go_ret2
                exact ⟨w1.heap.size + 1, by omega, rfl, KO.out, KB.out⟩
end Go.Proofs.YtjcdnaandbockaaGreat

namespace Go.Proofs.YtjcdnaandbockaaGreat
open Go.RowKit Go.Shelf
set_option maxRecDepth 100000
set_option maxHeartbeats 1000000

theorem joinF_assoc (f g h : Facts) : joinF (joinF f g) h = joinF f (joinF g h) := by
  unfold joinF
  simp only [Nat.mod_add_mod, Nat.add_mod_mod, Nat.add_assoc, Nat.or_assoc, Nat.max_assoc]
instance : Std.Associative joinF := ⟨joinF_assoc⟩
instance : Std.Commutative joinF := ⟨joinF_comm⟩
def zeroF : Facts := ⟨0, 0, 0⟩
theorem zeroF_join {f : Facts} (h : f.V < big) : joinF zeroF f = f := by
  obtain ⟨V, s, z⟩ := f
  unfold joinF zeroF
  simp only [Nat.zero_add, Nat.zero_or, Nat.zero_max]
  rw [Nat.mod_eq_of_lt h]
theorem join_zeroF {f : Facts} (h : f.V < big) : joinF f zeroF = f := by rw [joinF_comm]; exact zeroF_join h
/-- what the sum of a list of numbers knows -/
def fF : List Nat → Facts
  | [] => zeroF
  | x :: l => joinF (factsN x) (fF l)
def Small (l : List Nat) : Prop := ∀ x ∈ l, x < 18446744073709551616
theorem fF_ok : ∀ {l : List Nat}, Small l → (fF l).Ok
  | [], _ => ok_zero
  | x :: l, h => joinF_ok (factsN_ok (h x (by simp))) (fF_ok fun y hy => h y (by simp [hy]))
theorem fF_append : ∀ {l m : List Nat}, Small m → fF (l ++ m) = joinF (fF l) (fF m)
  | [], m, h => (zeroF_join (fF_ok h).V).symm
  | x :: l, m, h => by
    show joinF (factsN x) (fF (l ++ m)) = joinF (joinF (factsN x) (fF l)) (fF m)
    rw [fF_append h, joinF_assoc]
theorem fF_snoc {l : List Nat} {x : Nat} (hl : Small l) (hx : x < 18446744073709551616) : fF (l ++ [x]) = joinF (fF l) (factsN x) := by
  rw [fF_append (by intro y hy; simp at hy; rw [hy]; exact hx)]
  show joinF (fF l) (joinF (factsN x) zeroF) = _
  rw [join_zeroF (factsN_ok hx).V]
theorem foldl_fF : ∀ (l : List Nat) (f : Facts), f.V < big → Small l → (l.map v0).foldl (fun f u => joinF f (factsN u.x)) f = joinF f (fF l)
  | [], f, hf, _ => (join_zeroF hf).symm
  | x :: l, f, hf, h => by
    have hx := h x (by simp)
    show (l.map v0).foldl _ (joinF f (factsN x)) = joinF f (joinF (factsN x) (fF l))
    rw [foldl_fF l _ (Nat.mod_lt _ big_pos) (fun y hy => h y (by simp [hy])), joinF_assoc]
theorem foldF_fF {l : List Nat} (h : Small l) : foldF (l.map v0) = fF l := by
  unfold foldF
  rw [foldl_fF l _ big_pos h]
  exact zeroF_join (fF_ok h).V
/-- how great what a sum knows is -/
def Lim (f : Facts) (n : Nat) : Prop := (iv f.V).natAbs ≤ n * mid
theorem lim_zero (n : Nat) : Lim zeroF n := by show (iv 0).natAbs ≤ _; rw [iv_zero]; simp
theorem Lim.mono {f : Facts} {m n : Nat} (h : Lim f m) (hm : m ≤ n) : Lim f n := Nat.le_trans h (Nat.mul_le_mul_right _ hm)
theorem lim_one {x : Nat} (hx : x < 18446744073709551616) : Lim (factsN x) 1 := by have := factsN_abs hx; unfold Lim; omega
theorem small_top {n : Nat} (h : n ≤ 1000) : n * mid ≤ top := by
  have h1 := mid_top
  have h2 : n * mid ≤ 9223372036854775808 * mid := Nat.mul_le_mul_right _ (by omega)
  omega
theorem lim_join {f g : Facts} {m n : Nat} (hf : f.Ok) (hg : g.Ok) (h1 : Lim f m) (h2 : Lim g n) (hmn : m + n ≤ 1000) : Lim (joinF f g) (m + n) := by
  have h3 := small_top hmn
  have ht : top ≤ 9223372036854775808 * top := Nat.le_mul_of_pos_left _ (by decide)
  have hp := top_pos
  have ht2 : top < 9223372036854775808 * top := by
    have : 2 * top ≤ 9223372036854775808 * top := Nat.mul_le_mul_right _ (by decide)
    omega
  unfold Lim at *
  rw [Nat.add_mul] at *
  show (iv ((f.V + g.V) % big)).natAbs ≤ _
  obtain ⟨T, hT⟩ : ∃ T, T = 9223372036854775808 * top := ⟨_, rfl⟩
  rw [iv_add hf.V hg.V (by rw [← hT] at ht2 ⊢; omega) (by rw [← hT] at ht2 ⊢; omega)]
  omega
theorem lim_fit {f : Facts} {n : Nat} (hf : f.Ok) (h : Lim f n) (hn : n ≤ 999) : absN f.V < top := by
  have h3 := small_top (show n + 1 ≤ 1000 by omega)
  have hp := mid_pos
  rw [Nat.add_mul] at h3
  unfold Lim at h
  rw [abs_iv hf.V]
  omega
theorem res_ok {f g : Facts} {m n : Nat} (hf : f.Ok) (hg : g.Ok) (h1 : Lim f m) (h2 : Lim g n) (hmn : m + n ≤ 999) : resE f g = 0 ∧ resF f g = joinF f g := by
  have h := lim_fit (joinF_ok hf hg) (lim_join hf hg h1 h2 (by omega)) hmn
  have h4 : fitN ((f.V + g.V) % big) = true := (fit_iff (Nat.mod_lt _ big_pos)).2 h
  unfold resE resF
  rw [if_pos h4, if_pos h4]
  exact ⟨rfl, rfl⟩
theorem fF_lim : ∀ {l : List Nat}, Small l → l.length ≤ 900 → Lim (fF l) l.length
  | [], _, _ => lim_zero _
  | x :: l, h, hl => by
    have hx := h x (by simp)
    have hl2 : l.length + 1 ≤ 900 := by simpa using hl
    have hs : Small l := fun y hy => h y (by simp [hy])
    have := lim_join (factsN_ok hx) (fF_ok hs) (lim_one hx) (fF_lim hs (by omega)) (by omega)
    rw [Nat.add_comm] at this
    exact this
/-- what a sum can know -/
def Poss (f : Facts) : Prop := f.zero = 2 ∨ (f.zero < 2 ∧ f.V = 0 ∧ f.saw = 0)
theorem poss_zero : Poss zeroF := .inr ⟨by decide, rfl, rfl⟩
theorem poss_facts (x : Nat) : Poss (factsN x) := by
  unfold factsN
  split
  · exact .inl rfl
  · split
    · exact .inl rfl
    · split
      · exact .inl rfl
      · split
        · exact .inr ⟨by decide, rfl, rfl⟩
        · exact .inl rfl
theorem poss_join {f g : Facts} (hf : Poss f) (hg : Poss g) (h1 : f.Ok) (h2 : g.Ok) : Poss (joinF f g) := by
  have h3 := h1.zero
  have h4 := h2.zero
  unfold Poss joinF at *
  simp only
  rcases hf with hf | ⟨hf, hf2, hf3⟩ <;> rcases hg with hg | ⟨hg, hg2, hg3⟩
  · left; omega
  · left; omega
  · left; omega
  · right
    rw [hf2, hg2, hf3, hg3]
    exact ⟨by omega, by simp, by simp⟩
theorem poss_N {f : Facts} (h : Poss f) : possN f = true := by
  unfold possN
  rcases h with h | ⟨h1, h2, h3⟩
  · simp [h]
  · simp [h1, h2, h3]
theorem opp_opp {V : Nat} (h : V < big) (h0 : 0 < V) : opp (opp V) = V := by
  unfold opp
  have e : (big - V) % big = big - V := Nat.mod_eq_of_lt (by omega)
  rw [e]
  have e2 : big - (big - V) = V := by clear e; omega
  rw [e2, Nat.mod_eq_of_lt h]
theorem dec_enc {f : Facts} (hf : f.Ok) : decN (encN f) = f := by
  obtain ⟨V, s, z⟩ := f
  have hs : s < 8 := hf.saw
  have hV : V < big := hf.V
  have hd : (encN ⟨V, s, z⟩).drop 2 = bytesN (absN V) := rfl
  have h0 : (encN ⟨V, s, z⟩).getD 0 0 = s + 8 * z := rfl
  have h1 : (encN ⟨V, s, z⟩).getD 1 0 = if negN V = true then 1 else 0 := rfl
  unfold decN
  rw [hd, h0, h1, wordsN_bytesN]
  have e1 : (s + 8 * z) % 8 = s := by omega
  have e2 : (s + 8 * z) / 8 = z := by omega
  rw [e1, e2]
  congr 1
  cases hn : negN V with
  | true =>
    have hp : 0 < V := by
      have h2 := (neg_iff hV).1 hn
      have h3 := top_pos
      have h4 : top ≤ 9223372036854775808 * top := Nat.le_mul_of_pos_left _ (by decide)
      exact Nat.lt_of_lt_of_le h3 (Nat.le_trans h4 h2)
    simp only [if_true]
    unfold absN
    rw [hn]
    exact opp_opp hV hp
  | false =>
    simp only [Bool.false_eq_true, if_false]
    unfold absN
    rw [hn]
    simp
theorem dec_ok {f : Facts} (hf : f.Ok) (hp : Poss f) : decOk (encN f) := by
  unfold decOk
  rw [dec_enc hf]
  exact ⟨poss_N hp, rfl⟩
theorem enc_len {f : Facts} (hf : f.Ok) (h : absN f.V < top) : 2 ≤ (encN f).length ∧ (encN f).length ≤ 282 := by
  have hb : blen (absN f.V) ≤ 2240 := blen_le.2 (by rw [← top_eq]; exact h)
  unfold encN
  simp only [List.length_cons, bytesN_len]
  omega
/-- the join of four -/
def J4 (f : Nat → Facts) : Facts := joinF (joinF (f 0) (f 1)) (joinF (f 2) (f 3))
def up (f : Nat → Facts) (k : Nat) (g : Facts) : Nat → Facts := fun j => if j = k then joinF (f j) g else f j
theorem J4_up (f : Nat → Facts) (k : Nat) (hk : k < 4) (g : Facts) : J4 (up f k g) = joinF g (J4 f) := by
  have h : k = 0 ∨ k = 1 ∨ k = 2 ∨ k = 3 := by omega
  rcases h with rfl | rfl | rfl | rfl <;> simp [J4, up] <;> ac_rfl
/-- the join of the first i of four parts, from part r on -/
def T4 (f : Nat → Facts) (r : Nat) : Nat → Facts
  | 0 => zeroF
  | i + 1 => joinF (T4 f r i) (f ((i + r) % 4))
theorem T4_all (f : Nat → Facts) (r : Nat) (hf : ∀ k, k < 4 → (f k).V < big) : T4 f r 4 = J4 f := by
  have h0 := zeroF_join (hf ((0 + r) % 4) (Nat.mod_lt _ (by decide)))
  show joinF (joinF (joinF (joinF zeroF (f ((0 + r) % 4))) (f ((1 + r) % 4))) (f ((2 + r) % 4))) (f ((3 + r) % 4)) = J4 f
  rw [h0]
  have h : r % 4 = 0 ∨ r % 4 = 1 ∨ r % 4 = 2 ∨ r % 4 = 3 := by omega
  unfold J4
  rcases h with h | h | h | h
  · rw [show (0 + r) % 4 = 0 by omega, show (1 + r) % 4 = 1 by omega, show (2 + r) % 4 = 2 by omega, show (3 + r) % 4 = 3 by omega]; ac_rfl
  · rw [show (0 + r) % 4 = 1 by omega, show (1 + r) % 4 = 2 by omega, show (2 + r) % 4 = 3 by omega, show (3 + r) % 4 = 0 by omega]; ac_rfl
  · rw [show (0 + r) % 4 = 2 by omega, show (1 + r) % 4 = 3 by omega, show (2 + r) % 4 = 0 by omega, show (3 + r) % 4 = 1 by omega]; ac_rfl
  · rw [show (0 + r) % 4 = 3 by omega, show (1 + r) % 4 = 0 by omega, show (2 + r) % 4 = 1 by omega, show (3 + r) % 4 = 2 by omega]; ac_rfl
/-- a list turned -/
def rotL (l : List Nat) (o : Nat) : List Nat := (List.range l.length).map fun i => l.getD ((i + o) % l.length) 0
theorem rotL_eq (l : List Nat) (o : Nat) (hl : 0 < l.length) : rotL l o = l.drop (o % l.length) ++ l.take (o % l.length) := by
  have hs : o % l.length < l.length := Nat.mod_lt _ hl
  apply List.ext_getElem
  · simp [rotL]; omega
  · intro i h1 h2
    have hi : i < l.length := by simpa [rotL] using h1
    simp only [rotL, List.getElem_map, List.getElem_range]
    have e : (i + o) % l.length = if i < l.length - o % l.length then o % l.length + i else i - (l.length - o % l.length) := by
      rw [Nat.add_mod, Nat.mod_eq_of_lt hi]
      split
      · rw [Nat.mod_eq_of_lt (by omega)]; omega
      · rw [Nat.mod_eq_sub_mod (by omega), Nat.mod_eq_of_lt (by omega)]; omega
    rw [e]
    by_cases hc : i < l.length - o % l.length
    · rw [if_pos hc, List.getElem_append_left (by simp; omega), List.getElem_drop]
      simp [show o % l.length + i < l.length by omega]
    · rw [if_neg hc, List.getElem_append_right (by simp; omega), List.getElem_take]
      simp [show i - (l.length - o % l.length) < l.length by omega]
theorem rotL_fF (l : List Nat) (o : Nat) (hl : 0 < l.length) (h : Small l) : fF (rotL l o) = fF l := by
  have h1 : Small (l.take (o % l.length)) := fun x hx => h x (List.mem_of_mem_take hx)
  have h2 : Small (l.drop (o % l.length)) := fun x hx => h x (List.mem_of_mem_drop hx)
  rw [rotL_eq l o hl, fF_append h1, joinF_comm, ← fF_append h2, List.take_append_drop]
theorem rotL_small {l : List Nat} (o : Nat) (hl : 0 < l.length) (h : Small l) : Small (rotL l o) := by
  rw [rotL_eq l o hl]
  intro x hx
  rcases List.mem_append.1 hx with hx | hx
  · exact h x (List.mem_of_mem_drop hx)
  · exact h x (List.mem_of_mem_take hx)
end Go.Proofs.YtjcdnaandbockaaGreat
