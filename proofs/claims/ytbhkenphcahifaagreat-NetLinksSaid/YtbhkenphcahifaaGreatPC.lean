import Derived.Test.YtbhkenphcahifaaGreatPB
import Derived.Test.YtbhkenphcahifaaGreatNQ
namespace Go.Proofs.YtbhkenphcahifaaGreat
open Go.RowKit Go.Shelf
attribute [local go_sem] Oper.semAt_some
set_option maxRecDepth 100000
set_option maxHeartbeats 4000000

theorem contains_any {w : World} {a : Option Addr} {l : List Int} (h : Ints w a l) (cap : Nat) (x : Int) :
    Calls Tryz.prog 35 #[.slice a l.length cap, .int .i64 x] w fun e w' => e = .returned (.bool (decide (x ∈ l))) ∧ w = w' := by
  have hlen := h.len
  have HL := Lib.hid h
  obtain ⟨N, hN⟩ : ∃ N, N = l.length := ⟨_, rfl⟩
  have HN := Lib.hid hN
  rw [← hN] at hlen ⊢
  clear h hN
  go_enter Tryz.func35, Tryz.ntmps35
  go_wp2_with fail
  go_loop [5] (fun i => ∃ (k : Nat), k ≤ N ∧ i = .int .i64 (k : Int) ∧ Hid (x ∈ l ↔ x ∈ l.drop k)) (fun i => N - (intOf i).toNat)
  case atStart => exact ⟨0, Nat.zero_le _, rfl, by show _ ↔ _; simp⟩
  case round =>
    obtain ⟨k, hk, rfl, HD⟩ := hrel
    by_cases hlt : k < N
    · have hk1 : k < l.length := by rw [← HN.out]; exact hlt
      obtain ⟨g, o, rfl, hc⟩ := HL.out.at_ (ne_nil_of_lt hk1)
      have e0 := hc k hk1
      have HD2 : Hid (x ∈ l ↔ x = l[k] ∨ x ∈ l.drop (k + 1)) := by
        have h1 := HD.out
        rw [List.drop_eq_getElem_cons hk1, List.mem_cons] at h1
        exact h1
      generalize l[k] = y at *
      clear hc hk1 HD
      by_cases he : y = x
      · subst he
        have HT : Hid (decide (y ∈ l) = true) := by show _ = _; rw [decide_eq_true_iff, HD2.out]; exact .inl rfl
        clear HD2
        go_wp2_with fail
        go_ret
        exact ⟨by rw [HT.out]; rfl, rfl⟩
      · have HD3 : Hid (x ∈ l ↔ x ∈ l.drop (k + 1)) := by
          show _ ↔ _; rw [HD2.out]
          exact ⟨fun h => h.resolve_left (fun e => he e.symm), .inr⟩
        clear HD2
        go_wp2_with fail
        go_round
        case rel => exact ⟨k + 1, by omega, by go_num, HD3⟩
        case measure => simp [intOf]; omega
    · have HT : Hid (decide (x ∈ l) = false) := by
        show _ = _
        rw [decide_eq_false_iff_not, HD.out, List.drop_eq_nil_of_le (by rw [← HN.out]; omega)]; simp
      clear HD HL
      go_wp2_with fail
      go_ret
      exact ⟨by rw [HT.out]; rfl, rfl⟩

theorem Ext.of_drew {F F' : Nat → Prop} {w w' : World} (h : Ext F w.drew F' w') : Ext F w F' w' := ⟨((Below.refl 0 w).drew).trans h.b0, h.far, h.inn⟩
/-- which waits for which goes up -/
structure Good (rk : N3 → Nat) (q : Nat) (ns : List N3) (ts : List (List Int)) : Prop where
  len : ts.length = ns.length
  nb : ns.length ≤ q
  tb : ∀ i, (ts.getD i []).length ≤ q
  up : ∀ i (k : Int), i < ts.length → k ∈ ts.getD i [] → ∃ m : Nat, k = (m : Int) ∧ m < ns.length ∧ rk (ns.getD i (0, 0, 0)) < rk (ns.getD m (0, 0, 0))
theorem Good.mono {rk : N3 → Nat} {q q' : Nat} {ns : List N3} {ts : List (List Int)} (h : Good rk q ns ts) (hq : q ≤ q') : Good rk q' ns ts :=
  ⟨h.len, by have := h.nb; omega, fun i => by have := h.tb i; omega, h.up⟩
theorem getD_app {α} (l : List α) (x d : α) (i : Nat) : (l ++ [x]).getD i d = if i < l.length then l.getD i d else if i = l.length then x else d := by
  by_cases h : i < l.length
  · rw [if_pos h]; simp [List.getD, List.getElem?_append_left h]
  · rw [if_neg h]
    by_cases h2 : i = l.length
    · subst h2; simp [List.getD]
    · rw [if_neg h2]; simp [List.getD, List.getElem?_eq_none (show (l ++ [x]).length ≤ i by simp; omega)]
theorem Good.node {rk : N3 → Nat} {q : Nat} {ns ns' : List N3} {ts ts' : List (List Int)} {t : N3} (h : Good rk q ns ts) (hor : (ns' = ns ∧ ts' = ts) ∨ (ns' = ns ++ [t] ∧ ts' = ts ++ [[]])) : Good rk (q + 1) ns' ts' := by
  rcases hor with ⟨rfl, rfl⟩ | ⟨rfl, rfl⟩
  · exact h.mono (by omega)
  · have hl := h.len
    refine ⟨by simp [hl], by simp; exact h.nb, fun i => ?_, fun i k hi hk => ?_⟩
    · rw [getD_app]
      split
      · have := h.tb i; omega
      · split <;> simp
    · rw [List.length_append, List.length_singleton] at hi
      rw [getD_app] at hk
      by_cases hi2 : i < ts.length
      · rw [if_pos hi2] at hk
        obtain ⟨m, h1, h2, h3⟩ := h.up i k hi2 hk
        refine ⟨m, h1, by simp; omega, ?_⟩
        rw [getD_app, getD_app, if_pos (by omega), if_pos h2]
        exact h3
      · rw [if_neg hi2] at hk
        split at hk <;> simp at hk
theorem Good.edge {rk : N3 → Nat} {q : Nat} {ns : List N3} {ts : List (List Int)} (h : Good rk q ns ts) {m k : Nat} {t u : N3} (hm : ns[m]? = some t) (hk : ns[k]? = some u) (hr : rk t < rk u) : Good rk (q + 1) ns (ts.set m (ts.getD m [] ++ [(k : Int)])) := by
  have hl := h.len
  have hm1 := (List.getElem?_eq_some_iff.1 hm).1
  have hk1 := (List.getElem?_eq_some_iff.1 hk).1
  refine ⟨by simp [hl], by have := h.nb; omega, fun i => ?_, fun i j hi hj => ?_⟩
  · by_cases him : m = i
    · subst him
      rw [getD_set_same ts m _ _ (by omega)]; simp; exact h.tb m
    · rw [getD_set_other ts m i _ _ him]; have := h.tb i; omega
  · rw [List.length_set] at hi
    by_cases him : m = i
    · subst him
      rw [getD_set_same ts m _ _ (by omega), List.mem_append, List.mem_singleton] at hj
      rcases hj with hj | rfl
      · exact h.up m j hi hj
      · refine ⟨k, rfl, hk1, ?_⟩
        simp only [List.getD, hm, hk, Option.getD_some]
        exact hr
    · rw [getD_set_other ts m i _ _ him] at hj
      exact h.up i j hi hj
theorem Good.grow {ns ns' : List N3} {ts ts' : List (List Int)} {t u : N3} {m : Nat} (hor : (ns' = ns ∧ ts' = ts) ∨ (ns' = ns ++ [t] ∧ ts' = ts ++ [[]])) (hm : ns[m]? = some u) : ns'[m]? = some u := by
  rcases hor with ⟨rfl, rfl⟩ | ⟨rfl, rfl⟩
  · exact hm
  · rw [List.getElem?_append_left (List.getElem?_eq_some_iff.1 hm).1]; exact hm
/-- the channels of a route go up -/
def Rises (rk : N3 → Nat) (P C : List Int) : Prop := ∀ i, i + 2 < P.length → rk (P.getD i 0, P.getD (i + 1) 0, C.getD i 0) < rk (P.getD (i + 1) 0, P.getD (i + 2) 0, C.getD (i + 1) 0)
/-- the state behind j channels of a route -/
def AddS (rk : N3 → Nat) (F : Nat → Prop) (lo B q : Nat) (w : World) (P C : List Int) (j : Nat) (last : Int) (w' : World) : Prop :=
  ∃ (F' : Nat → Prop) (ns' : List N3) (ts' : List (List Int)) (nv' tv' : Value) (us' : List Value), Wt F' lo B ns' ts' nv' tv' us' w' ∧ Ext F w F' w' ∧ Good rk (q + 2 * j) ns' ts' ∧
    ((j = 0 ∧ last = -1) ∨ (∃ m : Nat, last = (m : Int) ∧ 1 ≤ j ∧ ns'[m]? = some (P.getD (j - 1) 0, P.getD j 0, C.getD (j - 1) 0)))

theorem add_any {rk : N3 → Nat} {F : Nat → Prop} {lo B q : Nat} {ns : List N3} {ts : List (List Int)} {nv tv : Value} {us : List Value} {w : World} (h : Wt F lo B ns ts nv tv us w) (hs : lo ≤ w.heap.size) (hG : Good rk q ns ts)
    {pa ca : Option Addr} {P C : List Int} (hP : Ints w pa P) (hC : Ints w ca C) (fP : ∀ b, pa.map (·.block) = some b → ¬ F b) (fC : ∀ b, ca.map (·.block) = some b → ¬ F b) (pc cc : Nat) (hl : q + 2 * P.length ≤ 1000000000) (hlen : P.length = C.length + 1) (hR : Rises rk P C) :
    Calls Tryz.prog 38 #[.pointer (some ⟨B, 0, none⟩), .slice pa P.length pc, .slice ca C.length cc] w fun e w' => (∃ v, e = .returned v) ∧ ∃ last, AddS rk F lo B q w P C C.length last w' := by
  have H0 : Hid (AddS rk F lo B q w P C 0 (-1) w) := ⟨F, ns, ts, nv, tv, us, h, Ext.refl _ _, hG.mono (by omega), .inl ⟨rfl, rfl⟩⟩
  have HPP := Lib.hid hP
  have HCC := Lib.hid hC
  have HFP := Lib.hid fP
  have HFC := Lib.hid fC
  have HRR := Lib.hid hR
  have HS := Lib.hid hs
  obtain ⟨N, hN⟩ : ∃ N, N = C.length := ⟨_, rfl⟩
  have HN := Lib.hid hN
  have HPN := Lib.hid hlen
  have hl2 : q + 2 * N + 2 ≤ 1000000000 := by omega
  rw [hlen]
  rw [← hN]
  clear hP hC fP fC hR hs h hG hl hlen hN
  go_enter Tryz.func38, Tryz.ntmps38
  go_wp2_with fail
  go_loopw [6, 7] (fun a i wr => ∃ (j : Nat) (last : Int), j ≤ N ∧ a = .int .i64 last ∧ i = .int .i64 ((j + 1 : Nat) : Int) ∧ Hid (AddS rk F lo B q w P C j last wr)) (fun _ i _ => N + 1 - (intOf i).toNat)
  case atStart => exact ⟨0, -1, Nat.zero_le _, rfl, rfl, H0⟩
  case round =>
    clear H0
    obtain ⟨j, last, hj, rfl, rfl, HA⟩ := hrel
    by_cases hlt : j < N
    · go_wp2_with fail
      have hp0 : j < P.length := by rw [HPN.out, ← HN.out]; omega
      have hp1 : j + 1 < P.length := by rw [HPN.out, ← HN.out]; omega
      have hc0 : j < C.length := by rw [← HN.out]; omega
      obtain ⟨F', ns', ts', nv', tv', us', hW, hX, hGd, hlast⟩ := HA.out
      obtain ⟨gp, op, rfl, hpc⟩ := HPP.out.at_ (ne_nil_of_lt hp0)
      obtain ⟨gc, oc, rfl, hcc⟩ := HCC.out.at_ (ne_nil_of_lt hc0)
      have q0 := hpc j hp0
      have q1 := hpc (j + 1) hp1
      have q2 := hcc j hc0
      have gpl : gp < w.heap.size := block_lt_of_cell q0
      have gcl : gc < w.heap.size := block_lt_of_cell q2
      have gpF := HFP.out gp rfl
      have gcF := HFC.out gc rfl
      have a0 := (World.cell?_of_block (a := ⟨gp, op + j, none⟩) (hX.far gp gpl gpF)).trans q0
      have a1 := (World.cell?_of_block (a := ⟨gp, op + (j + 1), none⟩) (hX.far gp gpl gpF)).trans q1
      have a2 := (World.cell?_of_block (a := ⟨gc, oc + j, none⟩) (hX.far gc gcl gcF)).trans q2
      have hsz := hX.b0.size
      have gpF' : ¬ F' gp := fun e => by rcases hX.inn gp e with e | e; exact gpF e; omega
      have gcF' : ¬ F' gc := fun e => by rcases hX.inn gc e with e | e; exact gcF e; omega
      have HND : Hid (∀ wz, wz = wr.drew → Calls Tryz.prog 86 #[.pointer (some ⟨B, 0, none⟩), .int .i64 P[j], .int .i64 P[j + 1], .int .i64 C[j]] wz fun e w' => NodeP F' lo B ns' ts' wr.drew (P[j], P[j + 1], C[j]) e w') := by
        rintro wz rfl
        exact node_any (hW.keep (Below.refl _ _).drew) (by have := HS.out; show lo ≤ wr.heap.size; omega) (by have := hGd.nb; omega) hGd.len _ _ _
      have HKP : Hid (∀ wz e, NodeP F' lo B ns' ts' wr.drew (P[j], P[j + 1], C[j]) e wz → wz.cell? ⟨gp, op + j, none⟩ = some (.int .i64 P[j]) ∧ wz.cell? ⟨gp, op + (j + 1), none⟩ = some (.int .i64 P[j + 1]) ∧ wz.cell? ⟨gc, oc + j, none⟩ = some (.int .i64 C[j])) := by
        rintro wz e ⟨k, F2, _, _, _, _, _, _, _, x2, _⟩
        exact ⟨(World.cell?_of_block (a := ⟨gp, op + j, none⟩) (x2.far gp (block_lt_of_cell a0) gpF')).trans a0, (World.cell?_of_block (a := ⟨gp, op + (j + 1), none⟩) (x2.far gp (block_lt_of_cell a0) gpF')).trans a1, (World.cell?_of_block (a := ⟨gc, oc + j, none⟩) (x2.far gc (block_lt_of_cell a2) gcF')).trans a2⟩
      have HK0 : Hid (wr.drew.cell? ⟨gp, op + j, none⟩ = some (.int .i64 P[j]) ∧ wr.drew.cell? ⟨gp, op + (j + 1), none⟩ = some (.int .i64 P[j + 1]) ∧ wr.drew.cell? ⟨gc, oc + j, none⟩ = some (.int .i64 C[j])) := ⟨a0, a1, a2⟩
      have HQ : Hid (NodeP F' lo B ns' ts' wr.drew (P[j], P[j + 1], C[j]) = NodeP F' lo B ns' ts' wr.drew (P.getD j 0, P.getD (j + 1) 0, C.getD j 0)) := by
        show _ = _
        simp [List.getD, hp0, hp1, hc0]
      have HST : Hid (Wt F' lo B ns' ts' nv' tv' us' wr ∧ Ext F w F' wr ∧ Good rk (q + 2 * j) ns' ts' ∧ ((j = 0 ∧ last = -1) ∨ (∃ m : Nat, last = (m : Int) ∧ 1 ≤ j ∧ ns'[m]? = some (P.getD (j - 1) 0, P.getD j 0, C.getD (j - 1) 0)))) := ⟨hW, hX, hGd, hlast⟩
      have ES : ∀ W, (binOp .sub 3 (.int .i64 ((j + 1 : Nat) : Int)) (.int .i64 1)).run Tryz.prog W = .ok (.int .i64 (j : Int)) W := fun W => by
        have := i64_sub ((j + 1 : Nat) : Int) 1 (by omega) (by omega) W
        rwa [show ((j + 1 : Nat) : Int) - 1 = (j : Int) by omega] at this
      have hb1 : ((N : Int) + 1 ≤ (j : Int)) = False := by simp; omega
      have hb2 : ((j : Int) + 1 < 0) = False := by simp; omega
      have hb3 : ((N : Int) ≤ (j : Int)) = False := by simp; omega
      clear hpc hcc q0 q1 q2 gpl gcl gpF gcF a0 a1 a2 hsz gpF' gcF' hW hX hGd hlast HA HFP HFC HPP HCC
      generalize P[j] = p0 at *
      generalize P[j + 1] = p1 at *
      generalize C[j] = p2 at *
      generalize NodeP F' lo B ns' ts' wr.drew (p0, p1, p2) = NQ at *
      have HNR : Hid (∀ e V, NQ e V → ∃ k2 : Nat, e = .returned (.int .i64 (k2 : Int))) := fun e V hN => by
        rw [HQ.out] at hN
        obtain ⟨k2, _, _, _, _, _, _, he, _⟩ := hN
        exact ⟨k2, he⟩
      refine (wpIn_wide (n := 0)).1 ?_
      refine region_det (by kernel_rfl) (I := fun listed a' w' => ∃ kv : Int, Hid ((listed.getD 15 false = false → w' = wr.drew) ∧ (listed.getD 15 false = true → NQ (.returned (.int .i64 kv)) w')) ∧ Hid (w'.cell? ⟨gp, op + j, none⟩ = some (.int .i64 p0) ∧ w'.cell? ⟨gp, op + (j + 1), none⟩ = some (.int .i64 p1) ∧ w'.cell? ⟨gc, oc + j, none⟩ = some (.int .i64 p2)) ∧ Hid (listed.getD 16 false = true → listed.getD 15 false = true) ∧ a' = ⟨#[Value.pointer (some (⟨B, 0, none⟩)), Value.slice (some ⟨gp, op, none⟩) (N + 1) pc, Value.slice (some ⟨gc, oc, none⟩) N cc, undef, undef, undef, Value.int IntKind.i64 last, Value.int IntKind.i64 (((j + 1 : Nat)) : Int), (if listed.getD 16 false = true then Value.int IntKind.i64 (kv) else u8), Value.int IntKind.i64 (((j + 1 : Nat)) : Int), Value.slice (some ⟨gp, op, none⟩) (N + 1) pc, Value.int IntKind.i64 ((N : Int) + 1), Value.bool true, u13, u14, (if listed.getD 0 false = true then Value.pointer (some ⟨B, 0, none⟩) else u15), (if listed.getD 1 false = true then Value.slice (some ⟨gp, op, none⟩) (N + 1) pc else u16), (if listed.getD 2 false = true then Value.int IntKind.i64 (((j + 1 : Nat) : Int)) else u17), (if listed.getD 3 false = true then Value.int IntKind.i64 ((j : Int)) else u18), (if listed.getD 4 false = true then Value.pointer (some ⟨gp, op + j, none⟩) else u19), (if listed.getD 5 false = true then Value.int IntKind.i64 (p0) else u20), (if listed.getD 6 false = true then Value.slice (some ⟨gp, op, none⟩) (N + 1) pc else u21), (if listed.getD 7 false = true then Value.int IntKind.i64 (((j + 1 : Nat) : Int)) else u22), (if listed.getD 8 false = true then Value.pointer (some ⟨gp, op + (j + 1), none⟩) else u23), (if listed.getD 9 false = true then Value.int IntKind.i64 (p1) else u24), (if listed.getD 10 false = true then Value.slice (some ⟨gc, oc, none⟩) N cc else u25), (if listed.getD 11 false = true then Value.int IntKind.i64 (((j + 1 : Nat) : Int)) else u26), (if listed.getD 12 false = true then Value.int IntKind.i64 ((j : Int)) else u27), (if listed.getD 13 false = true then Value.pointer (some ⟨gc, oc + j, none⟩) else u28), (if listed.getD 14 false = true then Value.int IntKind.i64 (p2) else u29), (if listed.getD 15 false = true then Value.int IntKind.i64 (kv) else u30), u31, u32, u33, u34, u35, u36, u37, u38, u39, u40, u41, u42, u43, u44, u45, u46, u47, u48, u49, u50, u51, u52, u53, u54, u55, u56, u57, u58, u59, u60, u61], []⟩) (hup_check (by kernel_rfl)) ?h0 ?step ?fin
      case h0 => exact ⟨0, ⟨fun _ => rfl, fun h => by simp at h⟩, HK0, (fun h => by simp at h), rfl⟩
      case step =>
        intro listed a' w' i hs hbi hdep hi ⟨kv, ST, KP, J16, ha⟩
        obtain ⟨ls⟩ := listed
        match ls, hs with
        | [x0, x1, x2, x3, x4, x5, x6, x7, x8, x9, x10, x11, x12, x13, x14, x15, x16], _ =>
        subst ha
        have hi' : i = 0 ∨ i = 1 ∨ i = 2 ∨ i = 3 ∨ i = 4 ∨ i = 5 ∨ i = 6 ∨ i = 7 ∨ i = 8 ∨ i = 9 ∨ i = 10 ∨ i = 11 ∨ i = 12 ∨ i = 13 ∨ i = 14 ∨ i = 15 ∨ i = 16 := by simp at hi; omega
        rcases hi' with rfl | rfl | rfl | rfl | rfl | rfl | rfl | rfl | rfl | rfl | rfl | rfl | rfl | rfl | rfl | rfl | rfl
        · obtain rfl : x0 = false := by simpa using hbi
          refine wpOpIn_plain rfl rfl rfl ?_
          exact ⟨kv, ST, KP, J16, rfl⟩
        · obtain rfl : x1 = false := by simpa using hbi
          refine wpOpIn_plain rfl rfl rfl ?_
          exact ⟨kv, ST, KP, J16, rfl⟩
        · obtain rfl : x2 = false := by simpa using hbi
          refine wpOpIn_plain rfl rfl rfl ?_
          exact ⟨kv, ST, KP, J16, rfl⟩
        · obtain rfl : x3 = false := by simpa using hbi
          obtain rfl : x2 = true := hdep _ rfl ⟨2, .data⟩ (by simp) rfl
          refine wpOpIn_plain (v := Value.int IntKind.i64 ((j : Int))) (w' := w') rfl rfl (sem_bin (vx := Value.int IntKind.i64 (((j + 1 : Nat) : Int))) (vy := Value.int IntKind.i64 (1)) rfl rfl rfl rfl (ES w')) ?_
          exact ⟨kv, ST, KP, J16, rfl⟩
        · obtain rfl : x4 = false := by simpa using hbi
          obtain rfl : x1 = true := hdep _ rfl ⟨1, .data⟩ (by simp) rfl
          obtain rfl : x3 = true := hdep _ rfl ⟨3, .data⟩ (by simp) rfl
          refine wpOpIn_plain (v := Value.pointer (some ⟨gp, op + j, none⟩)) (w' := w') rfl rfl (by simp [Oper.semAt, execOp, go_sem, hlt, hb1, hb2, hb3]) ?_
          exact ⟨kv, ST, KP, J16, rfl⟩
        · obtain rfl : x5 = false := by simpa using hbi
          obtain rfl : x4 = true := hdep _ rfl ⟨4, .data⟩ (by simp) rfl
          have c9 := KP.out.1
          refine wpOpIn_plain (v := Value.int IntKind.i64 (p0)) (w' := w') rfl rfl (by simp [Oper.semAt, execOp, go_sem, c9]) ?_
          exact ⟨kv, ST, KP, J16, rfl⟩
        · obtain rfl : x6 = false := by simpa using hbi
          refine wpOpIn_plain rfl rfl rfl ?_
          exact ⟨kv, ST, KP, J16, rfl⟩
        · obtain rfl : x7 = false := by simpa using hbi
          refine wpOpIn_plain rfl rfl rfl ?_
          exact ⟨kv, ST, KP, J16, rfl⟩
        · obtain rfl : x8 = false := by simpa using hbi
          obtain rfl : x6 = true := hdep _ rfl ⟨6, .data⟩ (by simp) rfl
          obtain rfl : x7 = true := hdep _ rfl ⟨7, .data⟩ (by simp) rfl
          refine wpOpIn_plain (v := Value.pointer (some ⟨gp, op + (j + 1), none⟩)) (w' := w') rfl rfl (by simp [Oper.semAt, execOp, go_sem, hlt, hb1, hb2, hb3]) ?_
          exact ⟨kv, ST, KP, J16, rfl⟩
        · obtain rfl : x9 = false := by simpa using hbi
          obtain rfl : x8 = true := hdep _ rfl ⟨8, .data⟩ (by simp) rfl
          have c9 := KP.out.2.1
          refine wpOpIn_plain (v := Value.int IntKind.i64 (p1)) (w' := w') rfl rfl (by simp [Oper.semAt, execOp, go_sem, c9]) ?_
          exact ⟨kv, ST, KP, J16, rfl⟩
        · obtain rfl : x10 = false := by simpa using hbi
          refine wpOpIn_plain rfl rfl rfl ?_
          exact ⟨kv, ST, KP, J16, rfl⟩
        · obtain rfl : x11 = false := by simpa using hbi
          refine wpOpIn_plain rfl rfl rfl ?_
          exact ⟨kv, ST, KP, J16, rfl⟩
        · obtain rfl : x12 = false := by simpa using hbi
          obtain rfl : x11 = true := hdep _ rfl ⟨11, .data⟩ (by simp) rfl
          refine wpOpIn_plain (v := Value.int IntKind.i64 ((j : Int))) (w' := w') rfl rfl (sem_bin (vx := Value.int IntKind.i64 (((j + 1 : Nat) : Int))) (vy := Value.int IntKind.i64 (1)) rfl rfl rfl rfl (ES w')) ?_
          exact ⟨kv, ST, KP, J16, rfl⟩
        · obtain rfl : x13 = false := by simpa using hbi
          obtain rfl : x10 = true := hdep _ rfl ⟨10, .data⟩ (by simp) rfl
          obtain rfl : x12 = true := hdep _ rfl ⟨12, .data⟩ (by simp) rfl
          refine wpOpIn_plain (v := Value.pointer (some ⟨gc, oc + j, none⟩)) (w' := w') rfl rfl (by simp [Oper.semAt, execOp, go_sem, hlt, hb1, hb2, hb3]) ?_
          exact ⟨kv, ST, KP, J16, rfl⟩
        · obtain rfl : x14 = false := by simpa using hbi
          obtain rfl : x13 = true := hdep _ rfl ⟨13, .data⟩ (by simp) rfl
          have c9 := KP.out.2.2
          refine wpOpIn_plain (v := Value.int IntKind.i64 (p2)) (w' := w') rfl rfl (by simp [Oper.semAt, execOp, go_sem, c9]) ?_
          exact ⟨kv, ST, KP, J16, rfl⟩
        · obtain rfl : x15 = false := by simpa using hbi
          obtain rfl : x0 = true := hdep _ rfl ⟨0, .data⟩ (by simp) rfl
          obtain rfl : x5 = true := hdep _ rfl ⟨5, .data⟩ (by simp) rfl
          obtain rfl : x9 = true := hdep _ rfl ⟨9, .data⟩ (by simp) rfl
          obtain rfl : x14 = true := hdep _ rfl ⟨14, .data⟩ (by simp) rfl
          obtain rfl : x16 = false := Bool.eq_false_iff.2 fun h => by have := J16.out h; cases this
          refine wpOpIn_call (args := #[Value.pointer (some ⟨B, 0, none⟩), Value.int IntKind.i64 (p0), Value.int IntKind.i64 (p1), Value.int IntKind.i64 (p2)]) rfl rfl (sem_call4 rfl rfl rfl rfl rfl (enters_of Tryz.func86 (by kernel_rfl) rfl)) (HND.out w' (ST.out.1 rfl)) ?_
          rintro e V hN
          obtain ⟨k2, hk2⟩ := HNR.out e V hN
          subst hk2
          exact ⟨_, rfl, (k2 : Int), ⟨fun h => (by cases h), fun _ => hN⟩, HKP.out _ _ hN, (fun _ => rfl), rfl⟩
        · obtain rfl : x16 = false := by simpa using hbi
          obtain rfl : x15 = true := hdep _ rfl ⟨15, .data⟩ (by simp) rfl
          refine wpOpIn_plain rfl rfl rfl ?_
          exact ⟨kv, ST, KP, (fun _ => rfl), rfl⟩
      case fin =>
      intro listed a' Z hs hall ⟨kv, ST, KP, J16, ha⟩
      obtain ⟨ls⟩ := listed
      match ls, hs with
      | [x0, x1, x2, x3, x4, x5, x6, x7, x8, x9, x10, x11, x12, x13, x14, x15, x16], _ =>
      obtain rfl : x0 = true := hall 0 (by simp)
      obtain rfl : x1 = true := hall 1 (by simp)
      obtain rfl : x2 = true := hall 2 (by simp)
      obtain rfl : x3 = true := hall 3 (by simp)
      obtain rfl : x4 = true := hall 4 (by simp)
      obtain rfl : x5 = true := hall 5 (by simp)
      obtain rfl : x6 = true := hall 6 (by simp)
      obtain rfl : x7 = true := hall 7 (by simp)
      obtain rfl : x8 = true := hall 8 (by simp)
      obtain rfl : x9 = true := hall 9 (by simp)
      obtain rfl : x10 = true := hall 10 (by simp)
      obtain rfl : x11 = true := hall 11 (by simp)
      obtain rfl : x12 = true := hall 12 (by simp)
      obtain rfl : x13 = true := hall 13 (by simp)
      obtain rfl : x14 = true := hall 14 (by simp)
      obtain rfl : x15 = true := hall 15 (by simp)
      obtain rfl : x16 = true := hall 16 (by simp)
      subst ha
      have HZ := Lib.hid (ST.out.2 rfl)
      clear ST KP hall hs HND HKP HK0 ES
      dsimp only [Exit.then, Exit.inBlock]
      rw [HQ.out] at HZ
      obtain ⟨k2, F2, ns2, ts2, nv2, tv2, us2, he, hW2, hX2, hget, hor⟩ := HZ.out
      obtain rfl : kv = (k2 : Int) := by simpa using he
      obtain ⟨hW, hX, hGd, hlast⟩ := HST.out
      have hG2 := hGd.node hor
      have hXX : Ext F w F2 Z := hX.trans hX2.of_drew
      have hlo2 : lo ≤ Z.heap.size := by have := HS.out; have := hXX.b0.size; omega
      rcases hlast with ⟨rfl, rfl⟩ | ⟨m, rfl, hj1, hm⟩
      · have HF : Hid (AddS rk F lo B q w P C 1 (k2 : Int) Z) := ⟨F2, ns2, ts2, nv2, tv2, us2, hW2, hXX, hG2.mono (by omega), .inr ⟨k2, rfl, Nat.le_refl _, hget⟩⟩
        clear he hW2 hX2 hget hor hW hX hGd hG2 hXX hlo2 HST HZ HQ HNR
        go_wp2_with fail
        go_roundw
        case rel => exact ⟨1, (k2 : Int), by omega, rfl, by go_num, HF⟩
        case measure => simp [intOf]; omega
      · have hm2 := Good.grow hor hm
        have hm3 : m < ts2.length := by have := (List.getElem?_eq_some_iff.1 hm2).1; have := hG2.len; omega
        have hme := hG2.tb m
        have hmn : ns2.length ≤ 1000000000 := by have := hG2.nb; omega
        have htn := hG2.len
        have hrk : rk (P.getD (j - 1) 0, P.getD j 0, C.getD (j - 1) 0) < rk (P.getD j 0, P.getD (j + 1) 0, C.getD j 0) := by
          have := HRR.out (j - 1) (by rw [HPN.out, ← HN.out]; omega)
          rw [show j - 1 + 1 = j by omega, show j - 1 + 2 = j + 1 by omega] at this
          exact this
        have hkl := (List.getElem?_eq_some_iff.1 hget).1
        obtain ⟨a, c, gT, cT, gE, cap, w2, hum, hints, htv, hcm, hrun, hB2, hT2, hfz, hTl, hTB, hTlt, hW3, hX3⟩ := Wt.pushE (w := Z.drew) (hW2.keep (Below.refl _ _).drew) m hm3 (k2 : Int) (by omega) (by show lo ≤ Z.heap.size; exact hlo2)
        subst htv
        have hints' : Ints Z a (ts2.getD m []) := ⟨hints.len, hints.at_⟩
        have HCN := Lib.hid (contains_any hints' c (k2 : Int))
        have b0 := cellR 0 hW2.box rfl
        have b1 := cellR 1 hW2.box rfl
        have hcm' : Z.cell? ⟨gT, m, none⟩ = some (.slice a (ts2.getD m []).length c) := hcm
        have hmi : (m : Int) < (ts2.length : Int) := by omega
        have HE1 : Hid (AddS rk F lo B q w P C (j + 1) (k2 : Int) Z) := ⟨F2, ns2, ts2, nv2, _, us2, hW2, hXX, hG2.mono (by omega), .inr ⟨k2, rfl, by omega, hget⟩⟩
        have HE2 : Hid (AddS rk F lo B q w P C (j + 1) (k2 : Int) (w2.setCell ⟨gT, m, none⟩ (.slice (some ⟨gE, 0, none⟩) ((ts2.getD m []).length + 1) cap))) :=
          ⟨_, ns2, _, nv2, _, _, hW3, hXX.trans hX3.of_drew, (hG2.edge hm2 hget hrk).mono (by omega), .inr ⟨k2, rfl, by omega, hget⟩⟩
        have HRUN := Lib.hid hrun
        have d1 := cellR 1 hB2 rfl
        have HD : Hid ((Z.cell? ⟨B, 1, none⟩ = some (.slice (some ⟨gT, 0, none⟩) ts2.length cT) ∧ Z.cell? ⟨gT, m, none⟩ = some (.slice a (ts2.getD m []).length c)) ∧ (w2.cell? ⟨B, 1, none⟩ = some (.slice (some ⟨gT, 0, none⟩) ts2.length cT) ∧ w2.cell? ⟨gT, m, none⟩ = some (.slice a (ts2.getD m []).length c) ∧ w2.frozen? ⟨gT, m, none⟩ = false ∧ gT < w2.heap.size)) := ⟨⟨b1, hcm'⟩, d1, hT2, hfz, hTl⟩
        have HBL : Hid (B < Z.heap.size ∧ gT < Z.heap.size) := ⟨(hW2.lt _ hW2.fB).2, hTlt⟩
        have HA1 : Hid ((Z.drew.alloc (.cells #[.int .i64 (k2 : Int)] 3)).cell? ⟨B, 1, none⟩ = some (.slice (some ⟨gT, 0, none⟩) ts2.length cT) ∧ (Z.drew.alloc (.cells #[.int .i64 (k2 : Int)] 3)).cell? ⟨gT, m, none⟩ = some (.slice a (ts2.getD m []).length c)) := ⟨(World.cell?_of_block (a := ⟨B, 1, none⟩) (Below.heap_alloc _ _ _ (show B < Z.heap.size from (hW2.lt _ hW2.fB).2))).trans b1, (World.cell?_of_block (a := ⟨gT, m, none⟩) (Below.heap_alloc _ _ _ (show gT < Z.heap.size from hTlt))).trans hcm'⟩
        have HA3 : Hid ((w2.setCell ⟨gT, m, none⟩ (.slice (some ⟨gE, 0, none⟩) ((ts2.getD m []).length + 1) cap)).cell? ⟨B, 1, none⟩ = some (.slice (some ⟨gT, 0, none⟩) ts2.length cT)) := cellR 1 hW3.box rfl
        have hb7 : ((m : Int) < 0) = False := by simp
        have hb8 : ((ts2.length : Int) ≤ (m : Int)) = False := by simp; omega
        have htl : ts2.length ≤ 1000000000 := by omega
        clear he hW2 hX2 hget hor hW hX hGd hG2 hXX hlo2 HST HZ HQ HNR hm hm2 hme hmn htn hrk hkl hum hints hrun hB2 hT2 hfz hTl hTB hTlt hW3 hX3 hints' d1 hcm HS HRR
        generalize (ts2.getD m []).length = LL at *
        generalize decide ((k2 : Int) ∈ ts2.getD m []) = bb at *
        generalize ts2.length = TL at *
        go_wp2_with fail
        refine HCN.out.mono ?_
        rintro e wq ⟨rfl, rfl⟩
        clear HCN
        cases bb with
        | true =>
          go_wp2_with fail
          go_roundw
          case rel => exact ⟨j + 1, (k2 : Int), by omega, rfl, by go_num, HE1⟩
          case measure => simp [intOf]; omega
        | false =>
          go_wp2_with fail
          refine (wpIn_wide (n := 0)).1 ?_
          refine region_det (by kernel_rfl) (I := fun listed a' w' => Hid ((listed.getD 13 false = false → w' = Z.drew) ∧ (listed.getD 13 false = true → listed.getD 14 false = false → w' = (Z.drew.alloc (.cells #[.int .i64 (k2 : Int)] 3))) ∧ (listed.getD 14 false = true → listed.getD 16 false = false → w' = w2) ∧ (listed.getD 16 false = true → w' = (w2.setCell ⟨gT, m, none⟩ (.slice (some ⟨gE, 0, none⟩) (LL + 1) cap)))) ∧ Hid (w'.cell? ⟨B, 1, none⟩ = some (Value.slice (some ⟨gT, 0, none⟩) TL cT)) ∧ Hid (listed.getD 11 false = false → w'.cell? ⟨gT, m, none⟩ = some (Value.slice a LL c)) ∧ Hid (listed.getD 14 false = true → listed.getD 11 false = true ∧ listed.getD 13 false = true) ∧ Hid (listed.getD 16 false = true → listed.getD 14 false = true ∧ listed.getD 13 false = true) ∧ a' = ⟨#[Value.pointer (some (⟨B, 0, none⟩)), Value.slice (some (⟨gp, op, none⟩)) (N + 1) pc, Value.slice (some (⟨gc, oc, none⟩)) N cc, undef, undef, undef, Value.int IntKind.i64 (m : Int), Value.int IntKind.i64 ((j : Int) + 1), Value.int IntKind.i64 (k2 : Int), Value.int IntKind.i64 ((j : Int) + 1), Value.slice (some (⟨gp, op, none⟩)) (N + 1) pc, Value.int IntKind.i64 ((N : Int) + 1), Value.bool true, u13, u14, Value.pointer (some (⟨B, 0, none⟩)), Value.slice (some (⟨gp, op, none⟩)) (N + 1) pc, Value.int IntKind.i64 ((j : Int) + 1), Value.int IntKind.i64 (j : Int), Value.pointer (some (⟨gp, (op + j), none⟩)), Value.int IntKind.i64 p0, Value.slice (some (⟨gp, op, none⟩)) (N + 1) pc, Value.int IntKind.i64 ((j : Int) + 1), Value.pointer (some (Addr.mk gp (op + (j + 1)) none)), Value.int IntKind.i64 p1, Value.slice (some (⟨gc, oc, none⟩)) N cc, Value.int IntKind.i64 ((j : Int) + 1), Value.int IntKind.i64 (j : Int), Value.pointer (some (⟨gc, (oc + j), none⟩)), Value.int IntKind.i64 p2, Value.int IntKind.i64 (k2 : Int), Value.int IntKind.i64 (m : Int), Value.bool true, Value.bool true, Value.pointer (some (⟨B, 0, none⟩)), Value.pointer (some (⟨B, 0, none⟩)), Value.pointer (some (⟨B, 1, none⟩)), Value.slice (some (⟨gT, 0, none⟩)) TL cT, Value.int IntKind.i64 (m : Int), Value.pointer (some (⟨gT, m, none⟩)), Value.slice a LL c, Value.int IntKind.i64 (k2 : Int), Value.bool false, Value.bool true, Value.bool true, (if listed.getD 0 false = true then Value.pointer (some ⟨B, 0, none⟩) else u45), (if listed.getD 1 false = true then Value.pointer (some ⟨B, 0, none⟩) else u46), (if listed.getD 2 false = true then Value.pointer (some ⟨B, 1, none⟩) else u47), (if listed.getD 3 false = true then Value.slice (some ⟨gT, 0, none⟩) TL cT else u48), (if listed.getD 4 false = true then Value.int IntKind.i64 ((m : Int)) else u49), (if listed.getD 5 false = true then Value.pointer (some ⟨B, 0, none⟩) else u50), (if listed.getD 6 false = true then Value.pointer (some ⟨B, 0, none⟩) else u51), (if listed.getD 7 false = true then Value.pointer (some ⟨B, 1, none⟩) else u52), (if listed.getD 8 false = true then Value.slice (some ⟨gT, 0, none⟩) TL cT else u53), (if listed.getD 9 false = true then Value.int IntKind.i64 ((m : Int)) else u54), (if listed.getD 10 false = true then Value.pointer (some ⟨gT, m, none⟩) else u55), (if listed.getD 11 false = true then Value.slice a LL c else u56), (if listed.getD 12 false = true then Value.int IntKind.i64 ((k2 : Int)) else u57), (if listed.getD 13 false = true then Value.slice (some ⟨Z.heap.size, 0, none⟩) 1 1 else u58), (if listed.getD 14 false = true then Value.slice (some ⟨gE, 0, none⟩) (LL + 1) cap else u59), (if listed.getD 15 false = true then Value.pointer (some ⟨gT, m, none⟩) else u60), u61], []⟩) (hup_check (by kernel_rfl)) ?h0 ?step ?fin
          case h0 => exact ⟨⟨fun _ => rfl, fun h => (by simp at h), fun h => (by simp at h), fun h => (by simp at h)⟩, HD.out.1.1, (fun _ => HD.out.1.2), (fun h => by simp at h), (fun h => by simp at h), rfl⟩
          case step =>
            intro listed a' w' i hs hbi hdep hi ⟨WS, KB, KU, J14, J16, ha⟩
            obtain ⟨ls⟩ := listed
            match ls, hs with
            | [x0, x1, x2, x3, x4, x5, x6, x7, x8, x9, x10, x11, x12, x13, x14, x15, x16], _ =>
            subst ha
            have hi' : i = 0 ∨ i = 1 ∨ i = 2 ∨ i = 3 ∨ i = 4 ∨ i = 5 ∨ i = 6 ∨ i = 7 ∨ i = 8 ∨ i = 9 ∨ i = 10 ∨ i = 11 ∨ i = 12 ∨ i = 13 ∨ i = 14 ∨ i = 15 ∨ i = 16 := by simp at hi; omega
            rcases hi' with rfl | rfl | rfl | rfl | rfl | rfl | rfl | rfl | rfl | rfl | rfl | rfl | rfl | rfl | rfl | rfl | rfl
            · obtain rfl : x0 = false := by simpa using hbi
              refine wpOpIn_plain rfl rfl rfl ?_
              exact ⟨WS, KB, KU, J14, J16, rfl⟩
            · obtain rfl : x1 = false := by simpa using hbi
              obtain rfl : x0 = true := hdep _ rfl ⟨0, .data⟩ (by simp) rfl
              refine wpOpIn_plain (v := Value.pointer (some ⟨B, 0, none⟩)) (w' := w') rfl rfl (by simp [Oper.semAt, execOp, go_sem]) ?_
              exact ⟨WS, KB, KU, J14, J16, rfl⟩
            · obtain rfl : x2 = false := by simpa using hbi
              obtain rfl : x1 = true := hdep _ rfl ⟨1, .data⟩ (by simp) rfl
              refine wpOpIn_plain (v := Value.pointer (some ⟨B, 1, none⟩)) (w' := w') rfl rfl (by simp [Oper.semAt, execOp, go_sem]) ?_
              exact ⟨WS, KB, KU, J14, J16, rfl⟩
            · obtain rfl : x3 = false := by simpa using hbi
              obtain rfl : x2 = true := hdep _ rfl ⟨2, .data⟩ (by simp) rfl
              have c9 := KB.out
              refine wpOpIn_plain (v := Value.slice (some ⟨gT, 0, none⟩) TL cT) (w' := w') rfl rfl (by simp [Oper.semAt, execOp, go_sem, c9]) ?_
              exact ⟨WS, KB, KU, J14, J16, rfl⟩
            · obtain rfl : x4 = false := by simpa using hbi
              refine wpOpIn_plain rfl rfl rfl ?_
              exact ⟨WS, KB, KU, J14, J16, rfl⟩
            · obtain rfl : x5 = false := by simpa using hbi
              refine wpOpIn_plain rfl rfl rfl ?_
              exact ⟨WS, KB, KU, J14, J16, rfl⟩
            · obtain rfl : x6 = false := by simpa using hbi
              obtain rfl : x5 = true := hdep _ rfl ⟨5, .data⟩ (by simp) rfl
              refine wpOpIn_plain (v := Value.pointer (some ⟨B, 0, none⟩)) (w' := w') rfl rfl (by simp [Oper.semAt, execOp, go_sem]) ?_
              exact ⟨WS, KB, KU, J14, J16, rfl⟩
            · obtain rfl : x7 = false := by simpa using hbi
              obtain rfl : x6 = true := hdep _ rfl ⟨6, .data⟩ (by simp) rfl
              refine wpOpIn_plain (v := Value.pointer (some ⟨B, 1, none⟩)) (w' := w') rfl rfl (by simp [Oper.semAt, execOp, go_sem]) ?_
              exact ⟨WS, KB, KU, J14, J16, rfl⟩
            · obtain rfl : x8 = false := by simpa using hbi
              obtain rfl : x7 = true := hdep _ rfl ⟨7, .data⟩ (by simp) rfl
              have c9 := KB.out
              refine wpOpIn_plain (v := Value.slice (some ⟨gT, 0, none⟩) TL cT) (w' := w') rfl rfl (by simp [Oper.semAt, execOp, go_sem, c9]) ?_
              exact ⟨WS, KB, KU, J14, J16, rfl⟩
            · obtain rfl : x9 = false := by simpa using hbi
              refine wpOpIn_plain rfl rfl rfl ?_
              exact ⟨WS, KB, KU, J14, J16, rfl⟩
            · obtain rfl : x10 = false := by simpa using hbi
              obtain rfl : x8 = true := hdep _ rfl ⟨8, .data⟩ (by simp) rfl
              obtain rfl : x9 = true := hdep _ rfl ⟨9, .data⟩ (by simp) rfl
              refine wpOpIn_plain (v := Value.pointer (some ⟨gT, m, none⟩)) (w' := w') rfl rfl (by simp [Oper.semAt, execOp, go_sem, hmi, hb7, hb8]) ?_
              exact ⟨WS, KB, KU, J14, J16, rfl⟩
            · obtain rfl : x11 = false := by simpa using hbi
              obtain rfl : x10 = true := hdep _ rfl ⟨10, .data⟩ (by simp) rfl
              have c9 := KU.out rfl
              refine wpOpIn_plain (v := Value.slice a LL c) (w' := w') rfl rfl (by simp [Oper.semAt, execOp, go_sem, c9]) ?_
              exact ⟨WS, KB, (fun h => by cases h), (fun h => ⟨rfl, (J14.out h).2⟩), J16, rfl⟩
            · obtain rfl : x12 = false := by simpa using hbi
              refine wpOpIn_plain rfl rfl rfl ?_
              exact ⟨WS, KB, KU, J14, J16, rfl⟩
            · obtain rfl : x13 = false := by simpa using hbi
              obtain rfl : x12 = true := hdep _ rfl ⟨12, .data⟩ (by simp) rfl
              obtain rfl : x14 = false := Bool.eq_false_iff.2 fun h => by have := (J14.out h).2; cases this
              obtain rfl : x16 = false := Bool.eq_false_iff.2 fun h => by have := (J16.out h).2; cases this
              obtain rfl : w' = Z.drew := WS.out.1 rfl
              refine wpOpIn_plain (v := Value.slice (some ⟨Z.heap.size, 0, none⟩) 1 1) (w' := (Z.drew.alloc (.cells #[.int .i64 (k2 : Int)] 3))) rfl rfl (by simp [Oper.semAt, execOp, go_sem]) ?_
              exact ⟨⟨fun h => (by cases h), fun _ _ => rfl, fun h => (by cases h), fun h => (by cases h)⟩, HA1.out.1, (fun _ => HA1.out.2), (fun h => ⟨(J14.out h).1, rfl⟩), (fun h => ⟨(J16.out h).1, rfl⟩), rfl⟩
            · obtain rfl : x14 = false := by simpa using hbi
              obtain rfl : x11 = true := hdep _ rfl ⟨11, .data⟩ (by simp) rfl
              obtain rfl : x13 = true := hdep _ rfl ⟨13, .data⟩ (by simp) rfl
              obtain rfl : x16 = false := Bool.eq_false_iff.2 fun h => by have := (J16.out h).1; cases this
              obtain rfl : w' = (Z.drew.alloc (.cells #[.int .i64 (k2 : Int)] 3)) := WS.out.2.1 rfl rfl
              refine wpOpIn_append rfl rfl (.tmp 56) (.tmp 58) 22 rfl rfl rfl HRUN.out ?_
              exact ⟨⟨fun h => (by cases h), fun _ h => (by cases h), fun _ _ => rfl, fun h => (by cases h)⟩, HD.out.2.1, (fun h => by cases h), (fun _ => ⟨rfl, rfl⟩), (fun h => ⟨rfl, (J16.out h).2⟩), rfl⟩
            · obtain rfl : x15 = false := by simpa using hbi
              obtain rfl : x3 = true := hdep _ rfl ⟨3, .data⟩ (by simp) rfl
              obtain rfl : x4 = true := hdep _ rfl ⟨4, .data⟩ (by simp) rfl
              refine wpOpIn_plain (v := Value.pointer (some ⟨gT, m, none⟩)) (w' := w') rfl rfl (by simp [Oper.semAt, execOp, go_sem, hmi, hb7, hb8]) ?_
              exact ⟨WS, KB, KU, J14, J16, rfl⟩
            · obtain rfl : x16 = false := by simpa using hbi
              obtain rfl : x14 = true := hdep _ rfl ⟨14, .data⟩ (by simp) rfl
              obtain rfl : x15 = true := hdep _ rfl ⟨15, .data⟩ (by simp) rfl
              obtain rfl : w2 = w' := (WS.out.2.2.1 rfl rfl).symm
              obtain rfl : x13 = true := (J14.out rfl).2
              obtain rfl : x11 = true := (J14.out rfl).1
              have c9 := HD.out.2.2.1
              have c8 := HD.out.2.2.2.1
              refine wpOpIn_skip (w' := (w2.setCell ⟨gT, m, none⟩ (.slice (some ⟨gE, 0, none⟩) (LL + 1) cap))) rfl rfl (by simp [Oper.semAt, execOp, go_sem, c9, c8]) ?_
              exact ⟨⟨fun h => (by cases h), fun _ h => (by cases h), fun _ h => (by cases h), fun _ => rfl⟩, HA3.out, (fun h => by cases h), J14, (fun _ => ⟨rfl, rfl⟩), rfl⟩
          case fin =>
          intro listed a' Y hs hall ⟨WS, KB, KU, J14, J16, ha⟩
          obtain ⟨ls⟩ := listed
          match ls, hs with
          | [x0, x1, x2, x3, x4, x5, x6, x7, x8, x9, x10, x11, x12, x13, x14, x15, x16], _ =>
          obtain rfl : x0 = true := hall 0 (by simp)
          obtain rfl : x1 = true := hall 1 (by simp)
          obtain rfl : x2 = true := hall 2 (by simp)
          obtain rfl : x3 = true := hall 3 (by simp)
          obtain rfl : x4 = true := hall 4 (by simp)
          obtain rfl : x5 = true := hall 5 (by simp)
          obtain rfl : x6 = true := hall 6 (by simp)
          obtain rfl : x7 = true := hall 7 (by simp)
          obtain rfl : x8 = true := hall 8 (by simp)
          obtain rfl : x9 = true := hall 9 (by simp)
          obtain rfl : x10 = true := hall 10 (by simp)
          obtain rfl : x11 = true := hall 11 (by simp)
          obtain rfl : x12 = true := hall 12 (by simp)
          obtain rfl : x13 = true := hall 13 (by simp)
          obtain rfl : x14 = true := hall 14 (by simp)
          obtain rfl : x15 = true := hall 15 (by simp)
          obtain rfl : x16 = true := hall 16 (by simp)
          subst ha
          obtain rfl : Y = (w2.setCell ⟨gT, m, none⟩ (.slice (some ⟨gE, 0, none⟩) (LL + 1) cap)) := WS.out.2.2.2 rfl
          clear WS KB KU hall hs
          dsimp only [Exit.then, Exit.inBlock]
          go_wp2_with fail
          go_roundw
          case rel => exact ⟨j + 1, (k2 : Int), by omega, rfl, by go_num, HE2⟩
          case measure => simp [intOf]; omega
    · have hjN : j = N := by omega
      subst hjN
      go_wp2_with fail
      refine bodyPost_end (results_none rfl _ _ _) rfl ?_
      exact ⟨⟨_, rfl⟩, last, HA.out⟩
end Go.Proofs.YtbhkenphcahifaaGreat
