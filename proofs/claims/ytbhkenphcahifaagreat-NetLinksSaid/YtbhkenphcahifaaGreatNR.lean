import Derived.Test.YtbhkenphcahifaaGreatNQ
namespace Go.Proofs.YtbhkenphcahifaaGreat
open Go.RowKit Go.Shelf
attribute [local go_sem] Oper.semAt_some
set_option maxRecDepth 100000
set_option maxHeartbeats 4000000

/-- what an iterator has captured, and what it has made -/
def Cap (n0 o : Nat) (cs : List (Nat × Obj)) (W : World) : Prop := ∀ p ∈ cs, Fq n0 o p.1 W ∧ W.heap[p.1]? = some p.2
theorem Cap.kq {n0 o : Nat} {cs : List (Nat × Obj)} {W W' : World} (h : Cap n0 o cs W) (k : Kq n0 o W W') : Cap n0 o cs W' :=
  fun p hp => ⟨(k.2 _ (h p hp).1).2, ((k.2 _ (h p hp).1).1).trans (h p hp).2⟩
theorem Cap.below {J : World → Prop} {n0 o : Nat} {cs : List (Nat × Obj)} {W W' : World} (h : Cap n0 o cs W) (P : Priv J (Fq n0 o)) (hJ : J W) (hb : Below W.heap.size W W') : Cap n0 o cs W' :=
  fun p hp => ⟨P.grow _ _ _ hJ (h p hp).1 hb, heapB hb (h p hp).2⟩
theorem Cap.drewN {n0 o : Nat} {cs : List (Nat × Obj)} {W : World} (h : Cap n0 o cs W) (q : Nat) : Cap n0 o cs (W.drewN q) := h
theorem Cap.m0 {n0 o : Nat} {p : Nat × Obj} {r : List (Nat × Obj)} {W : World} (h : Cap n0 o (p :: r) W) : W.heap[p.1]? = some p.2 := (h p (by simp)).2
theorem Cap.m1 {n0 o : Nat} {p q : Nat × Obj} {r : List (Nat × Obj)} {W : World} (h : Cap n0 o (p :: q :: r) W) : W.heap[q.1]? = some q.2 := (h q (by simp)).2
theorem Cap.m2 {n0 o : Nat} {p q s : Nat × Obj} {r : List (Nat × Obj)} {W : World} (h : Cap n0 o (p :: q :: s :: r) W) : W.heap[s.1]? = some s.2 := (h s (by simp)).2
abbrev encP : Int × Int → Array Value := fun p => #[.int .i64 p.1, .int .i64 p.2]

/-- a route in a dragonfly -/
def dragL (a h x y : Int) : List (Int × Int) :=
  if x / a ≠ y / a then
    (if x / a * a + ((y / a - x / a - 1) % (a * h + 1)) / h ≠ x then [(x / a * a + ((y / a - x / a - 1) % (a * h + 1)) / h, 0)] else []) ++
    ((x / a + (y / a - x / a - 1) % (a * h + 1) + 1) % (a * h + 1) * a + (a * h + 1 - 2 - (y / a - x / a - 1) % (a * h + 1)) / h, 0) ::
    (if (x / a + (y / a - x / a - 1) % (a * h + 1) + 1) % (a * h + 1) * a + (a * h + 1 - 2 - (y / a - x / a - 1) % (a * h + 1)) / h ≠ y then [(y, 1)] else [])
  else if x ≠ y then [(y, 0)] else []

theorem dragIter (n0 o Bs Bx By : Nat) (a h x y : Int) (ha : 1 ≤ a) (ha2 : a ≤ 16) (hh : 1 ≤ h) (hh2 : h ≤ 4) (hx : 0 ≤ x) (hx2 : x < a * (a * h + 1)) (hy : 0 ≤ y) (hy2 : y < a * (a * h + 1)) {w : World}
    (q0 : w.heap[Bs]? = some (.cells #[.int .i64 a, .int .i64 h, .int .i64 (a * h + 1)] 146 (0, 0))) (q1 : w.heap[Bx]? = some (.cells #[.int .i64 x] 3 (0, 0))) (q2 : w.heap[By]? = some (.cells #[.int .i64 y] 3 (0, 0))) (n : Nat) :
    SeqW n 202 #[.pointer (some ⟨Bx, 0, none⟩), .pointer (some ⟨Bs, 0, none⟩), .pointer (some ⟨By, 0, none⟩)] encP (Kq n0 o) (Fq n0 o) (fun b => b = Bs ∨ b = Bx ∨ b = By) (dragL a h x y) w := by
  intro ll J W hW hnd hP hY h0
  have HC : Hid (Cap n0 o [(Bs, .cells #[.int .i64 a, .int .i64 h, .int .i64 (a * h + 1)] 146 (0, 0)), (Bx, .cells #[.int .i64 x] 3 (0, 0)), (By, .cells #[.int .i64 y] 3 (0, 0))] W) := by
    intro p hp
    simp only [List.mem_cons, List.not_mem_nil, or_false] at hp
    rcases hp with rfl | rfl | rfl
    · exact ⟨hnd _ (.inl rfl), heapB hW q0⟩
    · exact ⟨hnd _ (.inr (.inl rfl)), heapB hW q1⟩
    · exact ⟨hnd _ (.inr (.inr rfl)), heapB hW q2⟩
  have HY := Lib.hid hY
  have HP := Lib.hid hP
  clear hY hnd hW q0 q1 q2 hP
  obtain ⟨b1, b2, b3, b4⟩ : 1 ≤ a * h ∧ a * h ≤ 64 ∧ 1 ≤ a * (a * h + 1) ∧ a * (a * h + 1) ≤ 1040 := drag_bound ha ha2 hh hh2
  obtain ⟨g, hg⟩ : ∃ g, g = a * h + 1 := ⟨_, rfl⟩
  have hg0 : 1 ≤ g := by omega
  have hg1 : g ≤ 1000 := by omega
  have hgx0 := Int.ediv_nonneg hx (show 0 ≤ a by omega)
  have hgy0 := Int.ediv_nonneg hy (show 0 ≤ a by omega)
  have hgx1 : x / a < g := Int.ediv_lt_of_lt_mul (by omega) (by rw [hg, Int.mul_comm]; exact hx2)
  have hgy1 : y / a < g := Int.ediv_lt_of_lt_mul (by omega) (by rw [hg, Int.mul_comm]; exact hy2)
  have E1 : wrap64 (x.tdiv a) = x / a := by rw [Int.tdiv_eq_ediv_of_nonneg hx]; unfold wrap64; omega
  have E2 : wrap64 (y.tdiv a) = y / a := by rw [Int.tdiv_eq_ediv_of_nonneg hy]; unfold wrap64; omega
  have hane : a ≠ 0 := by omega
  have hDL : dragL a h x y = if x / a ≠ y / a then (if x / a * a + ((y / a - x / a - 1) % g) / h ≠ x then [(x / a * a + ((y / a - x / a - 1) % g) / h, 0)] else []) ++ ((x / a + (y / a - x / a - 1) % g + 1) % g * a + (g - 2 - (y / a - x / a - 1) % g) / h, 0) :: (if (x / a + (y / a - x / a - 1) % g + 1) % g * a + (g - 2 - (y / a - x / a - 1) % g) / h ≠ y then [(y, 1)] else []) else if x ≠ y then [(y, 0)] else [] := by rw [hg]; rfl
  rw [← hg] at HC
  clear hg b1 b2 b3 b4 hx2 hy2
  have hpo0 := Int.emod_nonneg (y / a - x / a - 1) (show g ≠ 0 by omega)
  have hpo1 : x / a ≠ y / a → (y / a - x / a - 1) % g ≤ g - 2 := fun hne => by
    have h5 : (y / a - x / a - 1) % g = if x / a < y / a then y / a - x / a - 1 else y / a - x / a - 1 + g := by
      split
      · exact Int.emod_eq_of_lt (by omega) (by omega)
      · rw [← Int.add_emod_right]; exact Int.emod_eq_of_lt (by omega) (by omega)
    rw [h5]; split <;> omega
  have HPT := Lib.hid (fun W => port_any a h g (x / a) (y / a) hg0 hg1 hgx0 (by omega) hgy0 (by omega) W)
  have HOW := Lib.hid (fun (hne : x / a ≠ y / a) W => owner_any a h g (x / a) ((y / a - x / a - 1) % g) ha ha2 hh hh2 hgx0 (by omega) hpo0 (by have := hpo1 hne; omega) W)
  have HBE := Lib.hid (fun (hne : x / a ≠ y / a) W => behind_any a h g (x / a) ((y / a - x / a - 1) % g) ha ha2 hh hh2 hg0 hg1 hgx0 (by omega) hpo0 (hpo1 hne) W)
  generalize (x / a + (y / a - x / a - 1) % g + 1) % g * a + (g - 2 - (y / a - x / a - 1) % g) / h = bh at *
  generalize x / a * a + ((y / a - x / a - 1) % g) / h = ex at *
  generalize (y / a - x / a - 1) % g = po at *
  generalize x / a = gx at *
  generalize y / a = gy at *
  clear ha ha2 hh hh2 hx hy hg0 hg1 hgx0 hgy0 hgx1 hgy1 hpo0 hpo1
  have HDL := Lib.hid hDL
  clear hDL
  generalize dragL a h x y = DL at *
  by_cases hgg : gx = gy
  · have hne : (gx != gy) = false := by simp [hgg]
    by_cases hxy : x = y
    · have hxe : (x != y) = false := by simp [hxy]
      have HL : DL = [] := by rw [HDL.out, if_neg (by simp [hgg]), if_neg (by simp [hxy])]
      clear HDL hgg hxy HPT HOW HBE
      have k0 := HC.out.m0
      have k1 := HC.out.m1
      have k2 := HC.out.m2
      have c0 := cellR 0 k0 rfl
      have c1 := cellR 1 k0 rfl
      have c2 := cellR 2 k0 rfl
      have d0 := cellR 0 k1 rfl
      have e0 := cellR 0 k2 rfl
      refine callsIn_of_wp Tryz.func202 rfl trivial ?_ rfl
      simp only [Tryz.ntmps202, List.size_toArray, List.length_cons, List.length_nil, Nat.reduceAdd, Nat.reduceSub, Array.replicate_succ, Array.replicate_zero, List.push_toArray, List.append_toArray, List.nil_append, List.cons_append]
      gi_wp2
      refine wpIn_wide.2 ?_
      go_quiet (fail)
      clear k0 k1 k2 c0 c1 c2 d0 e0
      replace HC := Lib.hid (HC.out.drewN nq)
      replace h0 : J [] (W.drewN nq) := (HP.out []).jgrow _ _ h0 (below_drewN (Below.refl _ _) _)
      generalize W.drewN nq = W1 at *
      have k0 := HC.out.m0
      have k1 := HC.out.m1
      have k2 := HC.out.m2
      have c0 := cellR 0 k0 rfl
      have c1 := cellR 1 k0 rfl
      have c2 := cellR 2 k0 rfl
      have d0 := cellR 0 k1 rfl
      have e0 := cellR 0 k2 rfl
      gi_wp2
      go_end0
      exact ⟨⟨_, rfl⟩, by first | exact h0 | (rw [HL]; exact h0)⟩
    · have hxe : (x != y) = true := bne_iff_ne.2 hxy
      have HL : DL = [(y, 0)] := by rw [HDL.out, if_neg (by simp [hgg]), if_pos hxy]
      clear HDL hgg hxy HPT HOW HBE
      have k0 := HC.out.m0
      have k1 := HC.out.m1
      have k2 := HC.out.m2
      have c0 := cellR 0 k0 rfl
      have c1 := cellR 1 k0 rfl
      have c2 := cellR 2 k0 rfl
      have d0 := cellR 0 k1 rfl
      have e0 := cellR 0 k2 rfl
      refine callsIn_of_wp Tryz.func202 rfl trivial ?_ rfl
      simp only [Tryz.ntmps202, List.size_toArray, List.length_cons, List.length_nil, Nat.reduceAdd, Nat.reduceSub, Array.replicate_succ, Array.replicate_zero, List.push_toArray, List.append_toArray, List.nil_append, List.cons_append]
      gi_wp2
      refine wpIn_wide.2 ?_
      go_quiet (fail)
      clear k0 k1 k2 c0 c1 c2 d0 e0
      replace HC := Lib.hid (HC.out.drewN nq)
      replace h0 : J [] (W.drewN nq) := (HP.out []).jgrow _ _ h0 (below_drewN (Below.refl _ _) _)
      generalize W.drewN nq = W1 at *
      have k0 := HC.out.m0
      have k1 := HC.out.m1
      have k2 := HC.out.m2
      have c0 := cellR 0 k0 rfl
      have c1 := cellR 1 k0 rfl
      have c2 := cellR 2 k0 rfl
      have d0 := cellR 0 k1 rfl
      have e0 := cellR 0 k2 rfl
      obtain ⟨fn, tm, as_, bd, hy, hR⟩ := HY.out [] (y, 0) _ h0 (by rw [HL]; simp)
      gi_wp2
      refine ⟨fun h => (by cases h), ?_⟩
      refine hR.mono ?_
      rintro e W2 ⟨rfl, h1, hk⟩
      replace HC := Lib.hid (HC.out.kq hk)
      clear hy hR hk h0 k0 k1 k2 c0 c1 c2 d0 e0
      have h0 := h1
      simp only [List.nil_append, List.cons_append] at h0
      clear h1
      gi_wp2
      go_end0
      exact ⟨⟨_, rfl⟩, by first | exact h0 | (rw [HL]; exact h0)⟩
  · have hne : (gx != gy) = true := bne_iff_ne.2 hgg
    by_cases hex : ex = x
    · have hxe : (ex != x) = false := by simp [hex]
      by_cases hbe : bh = y
      · have hye : (bh != y) = false := by simp [hbe]
        have HL : DL = [(bh, 0)] := by rw [HDL.out, if_pos hgg, if_neg (by simp [hex]), if_neg (by simp [hbe])]; rfl
        have HOW2 := Lib.hid (HOW.out hgg)
        have HBE2 := Lib.hid (HBE.out hgg)
        clear HDL hgg hex hbe HOW HBE
        have k0 := HC.out.m0
        have k1 := HC.out.m1
        have k2 := HC.out.m2
        have c0 := cellR 0 k0 rfl
        have c1 := cellR 1 k0 rfl
        have c2 := cellR 2 k0 rfl
        have d0 := cellR 0 k1 rfl
        have e0 := cellR 0 k2 rfl
        refine callsIn_of_wp Tryz.func202 rfl trivial ?_ rfl
        simp only [Tryz.ntmps202, List.size_toArray, List.length_cons, List.length_nil, Nat.reduceAdd, Nat.reduceSub, Array.replicate_succ, Array.replicate_zero, List.push_toArray, List.append_toArray, List.nil_append, List.cons_append]
        gi_wp2
        refine wpIn_wide.2 ?_
        go_quiet (fail)
        clear k0 k1 k2 c0 c1 c2 d0 e0
        replace HC := Lib.hid (HC.out.drewN nq)
        replace h0 : J [] (W.drewN nq) := (HP.out []).jgrow _ _ h0 (below_drewN (Below.refl _ _) _)
        generalize W.drewN nq = W1 at *
        have k0 := HC.out.m0
        have k1 := HC.out.m1
        have k2 := HC.out.m2
        have c0 := cellR 0 k0 rfl
        have c1 := cellR 1 k0 rfl
        have c2 := cellR 2 k0 rfl
        have d0 := cellR 0 k1 rfl
        have e0 := cellR 0 k2 rfl
        gi_wp2
        refine ⟨trivial, fun h => (by cases h), callsIn_wide.2 ((HPT.out _).mono ?_)⟩
        rintro e W2 ⟨rfl, hb⟩
        replace HC := Lib.hid (HC.out.below (HP.out []) h0 hb)
        replace h0 := (HP.out []).jgrow _ _ h0 hb
        clear hb k0 k1 k2 c0 c1 c2 d0 e0
        clear HPT
        have k0 := HC.out.m0
        have k1 := HC.out.m1
        have k2 := HC.out.m2
        have c0 := cellR 0 k0 rfl
        have c1 := cellR 1 k0 rfl
        have c2 := cellR 2 k0 rfl
        have d0 := cellR 0 k1 rfl
        have e0 := cellR 0 k2 rfl
        gi_wp2
        refine ⟨trivial, fun h => (by cases h), callsIn_wide.2 ((HOW2.out _).mono ?_)⟩
        rintro e W3 ⟨rfl, hb⟩
        replace HC := Lib.hid (HC.out.below (HP.out []) h0 hb)
        replace h0 := (HP.out []).jgrow _ _ h0 hb
        clear hb k0 k1 k2 c0 c1 c2 d0 e0
        clear HOW2
        have k0 := HC.out.m0
        have k1 := HC.out.m1
        have k2 := HC.out.m2
        have c0 := cellR 0 k0 rfl
        have c1 := cellR 1 k0 rfl
        have c2 := cellR 2 k0 rfl
        have d0 := cellR 0 k1 rfl
        have e0 := cellR 0 k2 rfl
        gi_wp2
        refine ⟨fun _ h => (by cases h), ?_⟩
        gi_wp2
        refine ⟨trivial, fun h => (by cases h), callsIn_wide.2 ((HBE2.out _).mono ?_)⟩
        rintro e W5 ⟨rfl, hb⟩
        replace HC := Lib.hid (HC.out.below (HP.out []) h0 hb)
        replace h0 := (HP.out []).jgrow _ _ h0 hb
        clear hb k0 k1 k2 c0 c1 c2 d0 e0
        clear HBE2
        have k0 := HC.out.m0
        have k1 := HC.out.m1
        have k2 := HC.out.m2
        have c0 := cellR 0 k0 rfl
        have c1 := cellR 1 k0 rfl
        have c2 := cellR 2 k0 rfl
        have d0 := cellR 0 k1 rfl
        have e0 := cellR 0 k2 rfl
        obtain ⟨fn, tm, as_, bd, hy, hR⟩ := HY.out [] (bh, 0) _ h0 (by rw [HL]; simp)
        gi_wp2
        refine ⟨fun h => (by cases h), ?_⟩
        refine hR.mono ?_
        rintro e W6 ⟨rfl, h1, hk⟩
        replace HC := Lib.hid (HC.out.kq hk)
        clear hy hR hk h0 k0 k1 k2 c0 c1 c2 d0 e0
        have h0 := h1
        simp only [List.nil_append, List.cons_append] at h0
        clear h1
        have k0 := HC.out.m0
        have k1 := HC.out.m1
        have k2 := HC.out.m2
        have c0 := cellR 0 k0 rfl
        have c1 := cellR 1 k0 rfl
        have c2 := cellR 2 k0 rfl
        have d0 := cellR 0 k1 rfl
        have e0 := cellR 0 k2 rfl
        gi_wp2
        go_end0
        exact ⟨⟨_, rfl⟩, by first | exact h0 | (rw [HL]; exact h0)⟩
      · have hye : (bh != y) = true := bne_iff_ne.2 hbe
        have HL : DL = [(bh, 0), (y, 1)] := by rw [HDL.out, if_pos hgg, if_neg (by simp [hex]), if_pos hbe]; rfl
        have HOW2 := Lib.hid (HOW.out hgg)
        have HBE2 := Lib.hid (HBE.out hgg)
        clear HDL hgg hex hbe HOW HBE
        have k0 := HC.out.m0
        have k1 := HC.out.m1
        have k2 := HC.out.m2
        have c0 := cellR 0 k0 rfl
        have c1 := cellR 1 k0 rfl
        have c2 := cellR 2 k0 rfl
        have d0 := cellR 0 k1 rfl
        have e0 := cellR 0 k2 rfl
        refine callsIn_of_wp Tryz.func202 rfl trivial ?_ rfl
        simp only [Tryz.ntmps202, List.size_toArray, List.length_cons, List.length_nil, Nat.reduceAdd, Nat.reduceSub, Array.replicate_succ, Array.replicate_zero, List.push_toArray, List.append_toArray, List.nil_append, List.cons_append]
        gi_wp2
        refine wpIn_wide.2 ?_
        go_quiet (fail)
        clear k0 k1 k2 c0 c1 c2 d0 e0
        replace HC := Lib.hid (HC.out.drewN nq)
        replace h0 : J [] (W.drewN nq) := (HP.out []).jgrow _ _ h0 (below_drewN (Below.refl _ _) _)
        generalize W.drewN nq = W1 at *
        have k0 := HC.out.m0
        have k1 := HC.out.m1
        have k2 := HC.out.m2
        have c0 := cellR 0 k0 rfl
        have c1 := cellR 1 k0 rfl
        have c2 := cellR 2 k0 rfl
        have d0 := cellR 0 k1 rfl
        have e0 := cellR 0 k2 rfl
        gi_wp2
        refine ⟨trivial, fun h => (by cases h), callsIn_wide.2 ((HPT.out _).mono ?_)⟩
        rintro e W2 ⟨rfl, hb⟩
        replace HC := Lib.hid (HC.out.below (HP.out []) h0 hb)
        replace h0 := (HP.out []).jgrow _ _ h0 hb
        clear hb k0 k1 k2 c0 c1 c2 d0 e0
        clear HPT
        have k0 := HC.out.m0
        have k1 := HC.out.m1
        have k2 := HC.out.m2
        have c0 := cellR 0 k0 rfl
        have c1 := cellR 1 k0 rfl
        have c2 := cellR 2 k0 rfl
        have d0 := cellR 0 k1 rfl
        have e0 := cellR 0 k2 rfl
        gi_wp2
        refine ⟨trivial, fun h => (by cases h), callsIn_wide.2 ((HOW2.out _).mono ?_)⟩
        rintro e W3 ⟨rfl, hb⟩
        replace HC := Lib.hid (HC.out.below (HP.out []) h0 hb)
        replace h0 := (HP.out []).jgrow _ _ h0 hb
        clear hb k0 k1 k2 c0 c1 c2 d0 e0
        clear HOW2
        have k0 := HC.out.m0
        have k1 := HC.out.m1
        have k2 := HC.out.m2
        have c0 := cellR 0 k0 rfl
        have c1 := cellR 1 k0 rfl
        have c2 := cellR 2 k0 rfl
        have d0 := cellR 0 k1 rfl
        have e0 := cellR 0 k2 rfl
        gi_wp2
        refine ⟨fun _ h => (by cases h), ?_⟩
        gi_wp2
        refine ⟨trivial, fun h => (by cases h), callsIn_wide.2 ((HBE2.out _).mono ?_)⟩
        rintro e W5 ⟨rfl, hb⟩
        replace HC := Lib.hid (HC.out.below (HP.out []) h0 hb)
        replace h0 := (HP.out []).jgrow _ _ h0 hb
        clear hb k0 k1 k2 c0 c1 c2 d0 e0
        clear HBE2
        have k0 := HC.out.m0
        have k1 := HC.out.m1
        have k2 := HC.out.m2
        have c0 := cellR 0 k0 rfl
        have c1 := cellR 1 k0 rfl
        have c2 := cellR 2 k0 rfl
        have d0 := cellR 0 k1 rfl
        have e0 := cellR 0 k2 rfl
        obtain ⟨fn, tm, as_, bd, hy, hR⟩ := HY.out [] (bh, 0) _ h0 (by rw [HL]; simp)
        gi_wp2
        refine ⟨fun h => (by cases h), ?_⟩
        refine hR.mono ?_
        rintro e W6 ⟨rfl, h1, hk⟩
        replace HC := Lib.hid (HC.out.kq hk)
        clear hy hR hk h0 k0 k1 k2 c0 c1 c2 d0 e0
        have h0 := h1
        simp only [List.nil_append, List.cons_append] at h0
        clear h1
        have k0 := HC.out.m0
        have k1 := HC.out.m1
        have k2 := HC.out.m2
        have c0 := cellR 0 k0 rfl
        have c1 := cellR 1 k0 rfl
        have c2 := cellR 2 k0 rfl
        have d0 := cellR 0 k1 rfl
        have e0 := cellR 0 k2 rfl
        obtain ⟨fn, tm, as_, bd, hy, hR⟩ := HY.out [(bh, 0)] (y, 1) _ h0 (by rw [HL]; simp)
        gi_wp2
        refine ⟨fun h => (by cases h), ?_⟩
        refine hR.mono ?_
        rintro e W7 ⟨rfl, h1, hk⟩
        replace HC := Lib.hid (HC.out.kq hk)
        clear hy hR hk h0 k0 k1 k2 c0 c1 c2 d0 e0
        have h0 := h1
        simp only [List.nil_append, List.cons_append] at h0
        clear h1
        gi_wp2
        go_end0
        exact ⟨⟨_, rfl⟩, by first | exact h0 | (rw [HL]; exact h0)⟩
    · have hxe : (ex != x) = true := bne_iff_ne.2 hex
      by_cases hbe : bh = y
      · have hye : (bh != y) = false := by simp [hbe]
        have HL : DL = [(ex, 0), (bh, 0)] := by rw [HDL.out, if_pos hgg, if_pos hex, if_neg (by simp [hbe])]; rfl
        have HOW2 := Lib.hid (HOW.out hgg)
        have HBE2 := Lib.hid (HBE.out hgg)
        clear HDL hgg hex hbe HOW HBE
        have k0 := HC.out.m0
        have k1 := HC.out.m1
        have k2 := HC.out.m2
        have c0 := cellR 0 k0 rfl
        have c1 := cellR 1 k0 rfl
        have c2 := cellR 2 k0 rfl
        have d0 := cellR 0 k1 rfl
        have e0 := cellR 0 k2 rfl
        refine callsIn_of_wp Tryz.func202 rfl trivial ?_ rfl
        simp only [Tryz.ntmps202, List.size_toArray, List.length_cons, List.length_nil, Nat.reduceAdd, Nat.reduceSub, Array.replicate_succ, Array.replicate_zero, List.push_toArray, List.append_toArray, List.nil_append, List.cons_append]
        gi_wp2
        refine wpIn_wide.2 ?_
        go_quiet (fail)
        clear k0 k1 k2 c0 c1 c2 d0 e0
        replace HC := Lib.hid (HC.out.drewN nq)
        replace h0 : J [] (W.drewN nq) := (HP.out []).jgrow _ _ h0 (below_drewN (Below.refl _ _) _)
        generalize W.drewN nq = W1 at *
        have k0 := HC.out.m0
        have k1 := HC.out.m1
        have k2 := HC.out.m2
        have c0 := cellR 0 k0 rfl
        have c1 := cellR 1 k0 rfl
        have c2 := cellR 2 k0 rfl
        have d0 := cellR 0 k1 rfl
        have e0 := cellR 0 k2 rfl
        gi_wp2
        refine ⟨trivial, fun h => (by cases h), callsIn_wide.2 ((HPT.out _).mono ?_)⟩
        rintro e W2 ⟨rfl, hb⟩
        replace HC := Lib.hid (HC.out.below (HP.out []) h0 hb)
        replace h0 := (HP.out []).jgrow _ _ h0 hb
        clear hb k0 k1 k2 c0 c1 c2 d0 e0
        clear HPT
        have k0 := HC.out.m0
        have k1 := HC.out.m1
        have k2 := HC.out.m2
        have c0 := cellR 0 k0 rfl
        have c1 := cellR 1 k0 rfl
        have c2 := cellR 2 k0 rfl
        have d0 := cellR 0 k1 rfl
        have e0 := cellR 0 k2 rfl
        gi_wp2
        refine ⟨trivial, fun h => (by cases h), callsIn_wide.2 ((HOW2.out _).mono ?_)⟩
        rintro e W3 ⟨rfl, hb⟩
        replace HC := Lib.hid (HC.out.below (HP.out []) h0 hb)
        replace h0 := (HP.out []).jgrow _ _ h0 hb
        clear hb k0 k1 k2 c0 c1 c2 d0 e0
        clear HOW2
        have k0 := HC.out.m0
        have k1 := HC.out.m1
        have k2 := HC.out.m2
        have c0 := cellR 0 k0 rfl
        have c1 := cellR 1 k0 rfl
        have c2 := cellR 2 k0 rfl
        have d0 := cellR 0 k1 rfl
        have e0 := cellR 0 k2 rfl
        obtain ⟨fn, tm, as_, bd, hy, hR⟩ := HY.out [] (ex, 0) _ h0 (by rw [HL]; simp)
        gi_wp2
        refine ⟨fun h => (by cases h), ?_⟩
        refine hR.mono ?_
        rintro e W4 ⟨rfl, h1, hk⟩
        replace HC := Lib.hid (HC.out.kq hk)
        clear hy hR hk h0 k0 k1 k2 c0 c1 c2 d0 e0
        have h0 := h1
        simp only [List.nil_append, List.cons_append] at h0
        clear h1
        have k0 := HC.out.m0
        have k1 := HC.out.m1
        have k2 := HC.out.m2
        have c0 := cellR 0 k0 rfl
        have c1 := cellR 1 k0 rfl
        have c2 := cellR 2 k0 rfl
        have d0 := cellR 0 k1 rfl
        have e0 := cellR 0 k2 rfl
        gi_wp2
        refine ⟨trivial, fun h => (by cases h), callsIn_wide.2 ((HBE2.out _).mono ?_)⟩
        rintro e W5 ⟨rfl, hb⟩
        replace HC := Lib.hid (HC.out.below (HP.out [(ex, 0)]) h0 hb)
        replace h0 := (HP.out [(ex, 0)]).jgrow _ _ h0 hb
        clear hb k0 k1 k2 c0 c1 c2 d0 e0
        clear HBE2
        have k0 := HC.out.m0
        have k1 := HC.out.m1
        have k2 := HC.out.m2
        have c0 := cellR 0 k0 rfl
        have c1 := cellR 1 k0 rfl
        have c2 := cellR 2 k0 rfl
        have d0 := cellR 0 k1 rfl
        have e0 := cellR 0 k2 rfl
        obtain ⟨fn, tm, as_, bd, hy, hR⟩ := HY.out [(ex, 0)] (bh, 0) _ h0 (by rw [HL]; simp)
        gi_wp2
        refine ⟨fun h => (by cases h), ?_⟩
        refine hR.mono ?_
        rintro e W6 ⟨rfl, h1, hk⟩
        replace HC := Lib.hid (HC.out.kq hk)
        clear hy hR hk h0 k0 k1 k2 c0 c1 c2 d0 e0
        have h0 := h1
        simp only [List.nil_append, List.cons_append] at h0
        clear h1
        have k0 := HC.out.m0
        have k1 := HC.out.m1
        have k2 := HC.out.m2
        have c0 := cellR 0 k0 rfl
        have c1 := cellR 1 k0 rfl
        have c2 := cellR 2 k0 rfl
        have d0 := cellR 0 k1 rfl
        have e0 := cellR 0 k2 rfl
        gi_wp2
        go_end0
        exact ⟨⟨_, rfl⟩, by first | exact h0 | (rw [HL]; exact h0)⟩
      · have hye : (bh != y) = true := bne_iff_ne.2 hbe
        have HL : DL = [(ex, 0), (bh, 0), (y, 1)] := by rw [HDL.out, if_pos hgg, if_pos hex, if_pos hbe]; rfl
        have HOW2 := Lib.hid (HOW.out hgg)
        have HBE2 := Lib.hid (HBE.out hgg)
        clear HDL hgg hex hbe HOW HBE
        have k0 := HC.out.m0
        have k1 := HC.out.m1
        have k2 := HC.out.m2
        have c0 := cellR 0 k0 rfl
        have c1 := cellR 1 k0 rfl
        have c2 := cellR 2 k0 rfl
        have d0 := cellR 0 k1 rfl
        have e0 := cellR 0 k2 rfl
        refine callsIn_of_wp Tryz.func202 rfl trivial ?_ rfl
        simp only [Tryz.ntmps202, List.size_toArray, List.length_cons, List.length_nil, Nat.reduceAdd, Nat.reduceSub, Array.replicate_succ, Array.replicate_zero, List.push_toArray, List.append_toArray, List.nil_append, List.cons_append]
        gi_wp2
        refine wpIn_wide.2 ?_
        go_quiet (fail)
        clear k0 k1 k2 c0 c1 c2 d0 e0
        replace HC := Lib.hid (HC.out.drewN nq)
        replace h0 : J [] (W.drewN nq) := (HP.out []).jgrow _ _ h0 (below_drewN (Below.refl _ _) _)
        generalize W.drewN nq = W1 at *
        have k0 := HC.out.m0
        have k1 := HC.out.m1
        have k2 := HC.out.m2
        have c0 := cellR 0 k0 rfl
        have c1 := cellR 1 k0 rfl
        have c2 := cellR 2 k0 rfl
        have d0 := cellR 0 k1 rfl
        have e0 := cellR 0 k2 rfl
        gi_wp2
        refine ⟨trivial, fun h => (by cases h), callsIn_wide.2 ((HPT.out _).mono ?_)⟩
        rintro e W2 ⟨rfl, hb⟩
        replace HC := Lib.hid (HC.out.below (HP.out []) h0 hb)
        replace h0 := (HP.out []).jgrow _ _ h0 hb
        clear hb k0 k1 k2 c0 c1 c2 d0 e0
        clear HPT
        have k0 := HC.out.m0
        have k1 := HC.out.m1
        have k2 := HC.out.m2
        have c0 := cellR 0 k0 rfl
        have c1 := cellR 1 k0 rfl
        have c2 := cellR 2 k0 rfl
        have d0 := cellR 0 k1 rfl
        have e0 := cellR 0 k2 rfl
        gi_wp2
        refine ⟨trivial, fun h => (by cases h), callsIn_wide.2 ((HOW2.out _).mono ?_)⟩
        rintro e W3 ⟨rfl, hb⟩
        replace HC := Lib.hid (HC.out.below (HP.out []) h0 hb)
        replace h0 := (HP.out []).jgrow _ _ h0 hb
        clear hb k0 k1 k2 c0 c1 c2 d0 e0
        clear HOW2
        have k0 := HC.out.m0
        have k1 := HC.out.m1
        have k2 := HC.out.m2
        have c0 := cellR 0 k0 rfl
        have c1 := cellR 1 k0 rfl
        have c2 := cellR 2 k0 rfl
        have d0 := cellR 0 k1 rfl
        have e0 := cellR 0 k2 rfl
        obtain ⟨fn, tm, as_, bd, hy, hR⟩ := HY.out [] (ex, 0) _ h0 (by rw [HL]; simp)
        gi_wp2
        refine ⟨fun h => (by cases h), ?_⟩
        refine hR.mono ?_
        rintro e W4 ⟨rfl, h1, hk⟩
        replace HC := Lib.hid (HC.out.kq hk)
        clear hy hR hk h0 k0 k1 k2 c0 c1 c2 d0 e0
        have h0 := h1
        simp only [List.nil_append, List.cons_append] at h0
        clear h1
        have k0 := HC.out.m0
        have k1 := HC.out.m1
        have k2 := HC.out.m2
        have c0 := cellR 0 k0 rfl
        have c1 := cellR 1 k0 rfl
        have c2 := cellR 2 k0 rfl
        have d0 := cellR 0 k1 rfl
        have e0 := cellR 0 k2 rfl
        gi_wp2
        refine ⟨trivial, fun h => (by cases h), callsIn_wide.2 ((HBE2.out _).mono ?_)⟩
        rintro e W5 ⟨rfl, hb⟩
        replace HC := Lib.hid (HC.out.below (HP.out [(ex, 0)]) h0 hb)
        replace h0 := (HP.out [(ex, 0)]).jgrow _ _ h0 hb
        clear hb k0 k1 k2 c0 c1 c2 d0 e0
        clear HBE2
        have k0 := HC.out.m0
        have k1 := HC.out.m1
        have k2 := HC.out.m2
        have c0 := cellR 0 k0 rfl
        have c1 := cellR 1 k0 rfl
        have c2 := cellR 2 k0 rfl
        have d0 := cellR 0 k1 rfl
        have e0 := cellR 0 k2 rfl
        obtain ⟨fn, tm, as_, bd, hy, hR⟩ := HY.out [(ex, 0)] (bh, 0) _ h0 (by rw [HL]; simp)
        gi_wp2
        refine ⟨fun h => (by cases h), ?_⟩
        refine hR.mono ?_
        rintro e W6 ⟨rfl, h1, hk⟩
        replace HC := Lib.hid (HC.out.kq hk)
        clear hy hR hk h0 k0 k1 k2 c0 c1 c2 d0 e0
        have h0 := h1
        simp only [List.nil_append, List.cons_append] at h0
        clear h1
        have k0 := HC.out.m0
        have k1 := HC.out.m1
        have k2 := HC.out.m2
        have c0 := cellR 0 k0 rfl
        have c1 := cellR 1 k0 rfl
        have c2 := cellR 2 k0 rfl
        have d0 := cellR 0 k1 rfl
        have e0 := cellR 0 k2 rfl
        obtain ⟨fn, tm, as_, bd, hy, hR⟩ := HY.out [(ex, 0), (bh, 0)] (y, 1) _ h0 (by rw [HL]; simp)
        gi_wp2
        refine ⟨fun h => (by cases h), ?_⟩
        refine hR.mono ?_
        rintro e W7 ⟨rfl, h1, hk⟩
        replace HC := Lib.hid (HC.out.kq hk)
        clear hy hR hk h0 k0 k1 k2 c0 c1 c2 d0 e0
        have h0 := h1
        simp only [List.nil_append, List.cons_append] at h0
        clear h1
        gi_wp2
        go_end0
        exact ⟨⟨_, rfl⟩, by first | exact h0 | (rw [HL]; exact h0)⟩
end Go.Proofs.YtbhkenphcahifaaGreat
