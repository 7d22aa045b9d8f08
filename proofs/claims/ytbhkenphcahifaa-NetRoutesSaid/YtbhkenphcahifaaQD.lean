import Derived.Test.YtbhkenphcahifaaQC
import Derived.Test.YtbhkenphcahifaaOG
namespace Go.Proofs.Ytbhkenphcahifaa
open Go.RowKit Go.Shelf
attribute [local go_sem] Oper.semAt_some
set_option maxRecDepth 100000
set_option maxHeartbeats 4000000

theorem own_lower {w : World} {lo lo' e k n : Nat} {v : Value} {xs : List Value} (h : w.ownsRow lo e k v n xs) (hl : lo' ≤ lo) : w.ownsRow lo' e k v n xs := by
  refine ⟨h.1, ?_⟩
  rcases h.2 with h2 | ⟨g, cap, cur, h1, h3, h4⟩
  · exact .inl h2
  · exact .inr ⟨g, cap, cur, h1, Nat.le_trans hl h3, h4⟩
theorem clr_cases {s c b cl : Int} (hb : b = 1 ∨ b = -1) (h0 : 0 ≤ c) (h1 : c < s) : clI s (c + b) cl = if b = 1 then (if c + 1 = s then 1 else cl) else (if c = 0 then 1 else cl) := by
  unfold clI
  rcases hb with rfl | rfl
  · rw [if_pos rfl]
    by_cases h : c + 1 = s
    · rw [if_neg (by omega), if_pos h]
    · rw [if_pos (by omega), if_neg h]
  · simp only [show ((-1 : Int) = 1) = False by decide, if_false]
    by_cases h : c = 0
    · subst h
      rw [if_neg (by omega), if_pos rfl]
    · rw [if_pos (by omega), if_neg h]
def lenV (v : Value) : Nat := match v with | .slice _ n _ => n | _ => 0
theorem lenV_own {lo : Nat} {w : World} {v : Value} {l : List Int} (h : NewInts lo w v l) : lenV v = l.length := by
  obtain ⟨a, c, rfl, _⟩ := h.ints
  rfl
theorem mvK_stop {l : List Int} {i : Nat} {s b t : Int} {K : List Int → List (Int × Int)} {f : Nat} {c : List Int} {cl : Int} (h : c.getD i 0 = t) : mvK l i s b t K f c cl = K c := by
  cases f with
  | zero => rw [mvK]
  | succ f => rw [mvK, if_neg (by simp only [ne_eq, h, not_true_eq_false, not_false_eq_true])]
theorem by_two {s c t : Int} (hs : 2 ≤ s) (c0 : 0 ≤ c) (c1 : c < s) (t0 : 0 ≤ t) (t1 : t < s) : byI s c t = if 2 * ((t - c) % s) > s then -1 else 1 := by
  unfold byI
  have h0 := Int.emod_nonneg (t - c) (show s ≠ 0 by omega)
  generalize (t - c) % s = r at *
  by_cases h : s / 2 < r
  · rw [if_pos h, if_pos (by omega)]
  · rw [if_neg h, if_neg (by omega)]
/-- the next coordinate and class, as the reference makes them -/
theorem nx_ref {s c b cl : Int} (hb : b = 1 ∨ b = -1) (hs : 2 ≤ s) (c0 : 0 ≤ c) (c1 : c < s) : (c + b + s).tmod s = nxI s (c + b) := by
  rw [Int.tmod_eq_emod_of_nonneg (by omega), Int.add_emod_right, nx_cases hb c0 c1]
  rcases hb with rfl | rfl
  · rw [if_pos rfl]
    by_cases h : c + 1 = s
    · rw [if_pos h, h, Int.emod_self]
    · rw [if_neg h]; exact Int.emod_eq_of_lt (by omega) (by omega)
  · simp only [show ((-1 : Int) = 1) = False by decide, if_false]
    by_cases h : c = 0
    · subst h
      rw [if_pos rfl, show (0 : Int) + -1 = -1 by decide, ← Int.add_emod_right, Int.emod_eq_of_lt (by omega) (by omega)]; omega
    · rw [if_neg h, show c + -1 = c - 1 by omega]; exact Int.emod_eq_of_lt (by omega) (by omega)

theorem rTorus_any {w : World} {sa : Option Addr} {l : List Int} (h : Ints w sa l) (hl1 : 1 ≤ l.length) (hl4 : l.length ≤ 4) (hb : ∀ i, i < l.length → 2 ≤ l.getD i 0 ∧ l.getD i 0 ≤ 16) (sc : Nat) (kind hosts x y : Int) (hx : 0 ≤ x) (hx2 : x ≤ 1000) (hy : 0 ≤ y) (hy2 : y ≤ 1000) :
    Calls Try.prog 53 #[.agg #[.int .i64 kind, .slice sa l.length sc, .int .i64 hosts], .int .i64 x, .int .i64 y] w fun e w' => ∃ pv cv, e = .returned (.tuple #[pv, cv]) ∧ NewInts w.heap.size w' pv (x :: (torusL l x y).map (·.1)) ∧ NewInts w.heap.size w' cv ((torusL l x y).map (·.2)) ∧ Below w.heap.size w w' := by
  have hpos : ∀ s ∈ l, 1 ≤ s ∧ s ≤ 64 := fun s hs => by
    obtain ⟨j, hj, rfl⟩ := List.getElem_of_mem hs
    have := hb j hj
    rw [show l.getD j 0 = l[j] by simp [List.getD, hj]] at this
    omega
  have HL := Lib.hid h
  obtain ⟨N, hN⟩ : ∃ N, N = l.length := ⟨_, rfl⟩
  have HN := Lib.hid hN
  have HBB := Lib.hid hb
  have HCI : Hid (InT l (coordsL l x) ∧ InT l (coordsL l y)) := ⟨coords_in hb x, coords_in hb y⟩
  have HNM : Hid (∀ (W : World) (ga : Nat) (c : List Int), Below w.heap.size w W → RowAt W ga c → InT l c → Calls Try.prog 67 #[.agg #[.int .i64 kind, .slice sa l.length sc, .int .i64 hosts], .slice (some ⟨ga, 0, none⟩) l.length l.length] W fun e w' => e = .returned (.int .i64 (numI l c)) ∧ Below W.heap.size W w') := fun W ga c hbw hr hc => rNumber_any (h.keep hbw) (hr.ints (by rw [hc.1]; omega)) hc.1 hl4 hb hc.2 sc l.length kind hosts
  have HCX : Hid (∀ W, Below w.heap.size w W → Calls Try.prog 49 #[.agg #[.int .i64 kind, .slice sa l.length sc, .int .i64 hosts], .int .i64 x] W fun e w' => ∃ g, e = .returned (.slice (some ⟨g, 0, none⟩) l.length l.length) ∧ W.heap.size ≤ g ∧ RowAt w' g (coordsL l x) ∧ Below W.heap.size W w') := fun W hbw => rCoords_any (h.keep hbw) hpos sc kind hosts x hx hx2
  have HCY : Hid (∀ W, Below w.heap.size w W → Calls Try.prog 49 #[.agg #[.int .i64 kind, .slice sa l.length sc, .int .i64 hosts], .int .i64 y] W fun e w' => ∃ g, e = .returned (.slice (some ⟨g, 0, none⟩) l.length l.length) ∧ W.heap.size ≤ g ∧ RowAt w' g (coordsL l y) ∧ Below W.heap.size W w') := fun W hbw => rCoords_any (h.keep hbw) hpos sc kind hosts y hy hy2
  have HDK : Hid (torusL l x y = dimK l (coordsL l y) N (coordsL l x)) := by show _ = _; rw [hN]; rfl
  rw [← hN] at HNM HCX HCY ⊢
  rw [← hN] at hl1 hl4
  have HB := Lib.hid ((Below.refl w.heap.size w).alloc (Nat.le_refl _) (.cells #[.int .i64 kind, .slice sa N sc, .int .i64 hosts] 30))
  have Q0 := Lib.hid (heap_alloc_new w (.cells #[.int .i64 kind, .slice sa N sc, .int .i64 hosts] 30))
  have hsX : (w.alloc (.cells #[.int .i64 kind, .slice sa N sc, .int .i64 hosts] 30)).heap.size = w.heap.size + 1 := by simp
  clear h hb hN hpos hx hx2 hy hy2
  generalize torusL l x y = TL at *
  generalize coordsL l x = cx at *
  generalize coordsL l y = cy at *
  go_enter Try.func53, Try.ntmps53
  go_wp2_with fail
  generalize w.alloc (.cells #[.int .i64 kind, .slice sa N sc, .int .i64 hosts] 30) = X at *
  refine (wpIn_wide (n := 0)).1 ?_
  refine region_det (by kernel_rfl) (I := fun listed a' w' => ∃ ga ge : Nat, Hid (Below X.heap.size X w') ∧ Hid (listed.getD 2 false = true → RowAt w' ga cx ∧ X.heap.size ≤ ga) ∧ Hid (listed.getD 5 false = true → RowAt w' ge cy ∧ X.heap.size ≤ ge) ∧ Hid (listed.getD 2 false = true → listed.getD 5 false = true → ga ≠ ge) ∧ Hid (listed.getD 6 false = true → listed.getD 2 false = true) ∧ Hid (listed.getD 7 false = true → listed.getD 5 false = true) ∧ a' = ⟨#[Value.agg #[.int .i64 kind, .slice sa N sc, .int .i64 hosts], Value.int IntKind.i64 (x), Value.int IntKind.i64 (y), Value.pointer (some ⟨w.heap.size, 0, none⟩), undef, undef, Value.slice none 0 0, Value.slice none 0 0, (if listed.getD 6 false = true then Value.slice (some ⟨ga, 0, none⟩) N N else undef), (if listed.getD 7 false = true then Value.slice (some ⟨ge, 0, none⟩) N N else undef), undef, undef, undef, undef, undef, undef, (if listed.getD 0 false = true then Value.agg #[.int .i64 kind, .slice sa N sc, .int .i64 hosts] else undef), (if listed.getD 1 false = true then Value.int IntKind.i64 (x) else undef), (if listed.getD 2 false = true then Value.slice (some ⟨ga, 0, none⟩) N N else undef), (if listed.getD 3 false = true then Value.agg #[.int .i64 kind, .slice sa N sc, .int .i64 hosts] else undef), (if listed.getD 4 false = true then Value.int IntKind.i64 (y) else undef), (if listed.getD 5 false = true then Value.slice (some ⟨ge, 0, none⟩) N N else undef), undef, undef, undef, undef, undef, undef, undef, undef, undef, undef, undef, undef, undef, undef, undef, undef, undef, undef, undef, undef, undef, undef, undef, undef, undef, undef, undef, undef, undef, undef, undef, undef, undef, undef, undef, undef, undef, undef, undef, undef, undef, undef, undef, undef, undef, undef, undef, undef, undef, undef, undef, undef, undef, undef, undef, undef, undef, undef, undef, undef, undef, undef, undef, undef, undef, undef, undef, undef, undef, undef, undef, undef, undef, undef, undef, undef, undef, undef, undef, undef, undef, undef, undef, undef, undef], []⟩) (hup_check (by kernel_rfl)) ?h0 ?step ?fin
  case h0 => exact ⟨0, 0, (Below.refl _ _).drew, (fun h => by simp at h), (fun h => by simp at h), (fun h => by simp at h), (fun h => by simp at h), (fun h => by simp at h), rfl⟩
  case step =>
    intro listed a' w' i hs hbi hdep hi ⟨ga, ge, IB, RA, RE, NE, J6, J7, ha⟩
    obtain ⟨ls⟩ := listed
    match ls, hs with
    | [x0, x1, x2, x3, x4, x5, x6, x7], _ =>
    subst ha
    have hi' : i = 0 ∨ i = 1 ∨ i = 2 ∨ i = 3 ∨ i = 4 ∨ i = 5 ∨ i = 6 ∨ i = 7 := by simp at hi; omega
    rcases hi' with rfl | rfl | rfl | rfl | rfl | rfl | rfl | rfl
    · obtain rfl : x0 = false := by simpa using hbi
      refine wpOpIn_load_row rfl rfl 30 _ rfl w.heap.size rfl 30 _ _ _ (heapB IB.out Q0.out) Try.underlying30 rfl info30 ?_
      exact ⟨ga, ge, IB, RA, RE, NE, J6, J7, rfl⟩
    · obtain rfl : x1 = false := by simpa using hbi
      refine wpOpIn_plain rfl rfl rfl ?_
      exact ⟨ga, ge, IB, RA, RE, NE, J6, J7, rfl⟩
    · obtain rfl : x2 = false := by simpa using hbi
      obtain rfl : x0 = true := hdep _ rfl ⟨0, .data⟩ (by simp) rfl
      obtain rfl : x1 = true := hdep _ rfl ⟨1, .data⟩ (by simp) rfl
      obtain rfl : x6 = false := Bool.eq_false_iff.2 fun h => by have := J6.out h; cases this
      refine wpOpIn_call (args := #[Value.agg #[.int .i64 kind, .slice sa N sc, .int .i64 hosts], Value.int IntKind.i64 (x)]) rfl rfl (sem_call2 rfl rfl rfl (enters_of Try.func49 (by kernel_rfl) rfl)) (HCX.out w' (HB.out.trans (IB.out.mono HB.out.size))) ?_
      rintro e V ⟨gn, rfl, hge, hrow, hb⟩
      have hsz := IB.out.size
      exact ⟨_, rfl, gn, ge, (IB.out.trans (hb.mono IB.out.size)), (fun _ => ⟨hrow, by omega⟩), (fun h => ⟨(RE.out h).1.keep hb, (RE.out h).2⟩), (fun _ h => by have := (RE.out h).1.lt; omega), (fun _ => rfl), J7, rfl⟩
    · obtain rfl : x3 = false := by simpa using hbi
      refine wpOpIn_load_row rfl rfl 30 _ rfl w.heap.size rfl 30 _ _ _ (heapB IB.out Q0.out) Try.underlying30 rfl info30 ?_
      exact ⟨ga, ge, IB, RA, RE, NE, J6, J7, rfl⟩
    · obtain rfl : x4 = false := by simpa using hbi
      refine wpOpIn_plain rfl rfl rfl ?_
      exact ⟨ga, ge, IB, RA, RE, NE, J6, J7, rfl⟩
    · obtain rfl : x5 = false := by simpa using hbi
      obtain rfl : x3 = true := hdep _ rfl ⟨3, .data⟩ (by simp) rfl
      obtain rfl : x4 = true := hdep _ rfl ⟨4, .data⟩ (by simp) rfl
      obtain rfl : x7 = false := Bool.eq_false_iff.2 fun h => by have := J7.out h; cases this
      refine wpOpIn_call (args := #[Value.agg #[.int .i64 kind, .slice sa N sc, .int .i64 hosts], Value.int IntKind.i64 (y)]) rfl rfl (sem_call2 rfl rfl rfl (enters_of Try.func49 (by kernel_rfl) rfl)) (HCY.out w' (HB.out.trans (IB.out.mono HB.out.size))) ?_
      rintro e V ⟨gn, rfl, hge, hrow, hb⟩
      have hsz := IB.out.size
      exact ⟨_, rfl, ga, gn, (IB.out.trans (hb.mono IB.out.size)), (fun h => ⟨(RA.out h).1.keep hb, (RA.out h).2⟩), (fun _ => ⟨hrow, by omega⟩), (fun h _ => by have := (RA.out h).1.lt; omega), J6, (fun _ => rfl), rfl⟩
    · obtain rfl : x6 = false := by simpa using hbi
      obtain rfl : x2 = true := hdep _ rfl ⟨2, .data⟩ (by simp) rfl
      refine wpOpIn_plain rfl rfl rfl ?_
      exact ⟨ga, ge, IB, RA, RE, NE, (fun _ => rfl), J7, rfl⟩
    · obtain rfl : x7 = false := by simpa using hbi
      obtain rfl : x5 = true := hdep _ rfl ⟨5, .data⟩ (by simp) rfl
      refine wpOpIn_plain rfl rfl rfl ?_
      exact ⟨ga, ge, IB, RA, RE, NE, J6, (fun _ => rfl), rfl⟩
  case fin =>
  intro listed a' Z hs hall ⟨ga, ge, IB, RA, RE, NE, J6, J7, ha⟩
  obtain ⟨ls⟩ := listed
  match ls, hs with
  | [x0, x1, x2, x3, x4, x5, x6, x7], _ =>
  obtain rfl : x0 = true := hall 0 (by simp)
  obtain rfl : x1 = true := hall 1 (by simp)
  obtain rfl : x2 = true := hall 2 (by simp)
  obtain rfl : x3 = true := hall 3 (by simp)
  obtain rfl : x4 = true := hall 4 (by simp)
  obtain rfl : x5 = true := hall 5 (by simp)
  obtain rfl : x6 = true := hall 6 (by simp)
  obtain rfl : x7 = true := hall 7 (by simp)
  subst ha
  have HZ : Hid (Below X.heap.size X Z) := IB
  have HRA : Hid (RowAt Z ga cx ∧ X.heap.size ≤ ga) := RA.out rfl
  have HRE : Hid (RowAt Z ge cy ∧ X.heap.size ≤ ge) := RE.out rfl
  have HNE : Hid (ga ≠ ge) := NE.out rfl rfl
  clear IB RA RE NE hall hs HCX HCY
  dsimp only [Exit.then, Exit.inBlock]
  have HSZ : Hid (X.heap.size = w.heap.size + 1) := hsX
  have HT0 : Hid (TorS X.heap.size ga ge cy cx (.slice (some ⟨Z.heap.size, 0, none⟩) 1 1) (.slice none 0 0) [x] [] (Z.alloc (.cells #[.int .i64 x] 3)) ∧ Below w.heap.size w (Z.alloc (.cells #[.int .i64 x] 3)) ∧ (Z.alloc (.cells #[.int .i64 x] 3)).heap[w.heap.size]? = some (.cells #[.int .i64 kind, .slice sa N sc, .int .i64 hosts] 30 (0, 0))) := by
    have hz := HZ.out.size
    have hr : RowAt (Z.alloc (.cells #[.int .i64 x] 3)) Z.heap.size [x] := by
      have : rowA [x] = #[.int .i64 x] := by unfold rowA; rfl
      show _ = _
      rw [this]; exact heap_alloc_new Z _
    have ga1 := HRA.out.1.lt
    have ge1 := HRE.out.1.lt
    have hXw : w.heap.size < X.heap.size := by have := hsX; omega
    refine ⟨⟨HRA.out.1.alloc _, HRE.out.1.alloc _, hr.own hz (by simp), ⟨World.ownsRow_nil _ _ _ _, by simp⟩, HNE.out, ?_, ?_, (fun h => by cases h), (fun h => by cases h), (fun b _ h => by cases h), HRA.out.2⟩, ?_, ?_⟩
    · intro e; have : Z.heap.size = ga := by simpa [Value.ownBlock] using e
      omega
    · intro e; have : Z.heap.size = ge := by simpa [Value.ownBlock] using e
      omega
    · exact (HB.out.trans (HZ.out.mono HB.out.size)).alloc (by omega) _
    · exact ((Below.heap_alloc _ _ _ (by omega)).trans (heapB HZ.out Q0.out))
  have HWX : Hid (w.heap.size < X.heap.size) := by show _ < _; rw [hsX]; omega
  clear HRA HRE HNE HZ HB Q0 hsX HSZ
  go_wp2_with fail
  generalize Z.alloc (.cells #[.int .i64 x] 3) = Y at *
  generalize Value.slice (some ⟨Z.heap.size, 0, none⟩) 1 1 = pv0 at *
  go_loopw [10, 11, 12] (fun av bv iv wr => ∃ (pv cv : Value) (r : Nat) (c P C : List Int), pv = av ∧ cv = bv ∧ r ≤ N ∧ iv = .int .i64 ((N : Int) - r) ∧ Hid (InT l c ∧ TorS X.heap.size ga ge cy c pv cv P C wr ∧ P ++ (dimK l cy r c).map (·.1) = x :: TL.map (·.1) ∧ C ++ (dimK l cy r c).map (·.2) = TL.map (·.2) ∧ Below w.heap.size w wr ∧ wr.heap[w.heap.size]? = some (.cells #[.int .i64 kind, .slice sa N sc, .int .i64 hosts] 30 (0, 0)) ∧ TL.length ≤ 100000)) (fun _ _ iv _ => N - (intOf iv).toNat)
  case atStart =>
    refine ⟨pv0, .slice none 0 0, N, cx, [x], [], rfl, rfl, Nat.le_refl _, by simp, HCI.out.1, HT0.out.1, by rw [HDK.out]; rfl, by rw [HDK.out]; rfl, HT0.out.2.1, HT0.out.2.2, ?_⟩
    have := dimK_len (l := l) cy HBB.out N (by rw [HN.out]; omega) cx
    rw [HDK.out]; omega
  case round =>
    clear HT0 HDK
    obtain ⟨pv', cv', r, c, P, C, rfl, rfl, hr, rfl, HI⟩ := hrel
    cases r with
    | zero =>
      have HR : Hid (NewInts w.heap.size wr pv' (x :: TL.map (·.1)) ∧ NewInts w.heap.size wr cv' (TL.map (·.2)) ∧ Below w.heap.size w wr) := by
        obtain ⟨h1, h2, h3, h4, h5, _⟩ := HI.out
        have e : dimK l cy 0 c = [] := by rw [dimK]
        rw [e] at h3 h4
        simp only [List.map_nil, List.append_nil] at h3 h4
        subst h3; subst h4
        have hwx := HWX.out
        exact ⟨⟨own_lower h2.pp.own (by omega), h2.pp.len⟩, ⟨own_lower h2.cc.own (by omega), h2.cc.len⟩, h5⟩
      clear HI
      go_wp2_with fail
      exact bodyPost_ret (v := .tuple #[pv', cv']) (by simp [results, Try.results53]) rfl ⟨_, _, rfl, HR.out.1, HR.out.2.1, HR.out.2.2⟩
    | succ r =>
      obtain ⟨j, hj⟩ : ∃ j, N = j + 1 + r := ⟨N - 1 - r, by omega⟩
      have hji : (N : Int) - ((r + 1 : Nat) : Int) = (j : Int) := by omega
      have hjl : l.length - (r + 1) = j := by rw [← HN.out]; omega
      have hjk : j < l.length := by rw [← HN.out]; omega
      rw [hji]
      have hjN : (j : Int) < (N : Int) := by omega
      have hjN2 : j < N := by omega
      have hn4 : N ≤ 4 := hl4
      obtain ⟨i1, i2, i3, i4, i5, i6, i7⟩ := HI.out
      rw [dimK, hjl] at i3 i4
      obtain ⟨s0, s1⟩ := HBB.out j hjk
      obtain ⟨k0, k1⟩ := i1.2 j hjk
      obtain ⟨t0, t1⟩ := HCI.out.2.2 j hjk
      have hbw := i5
      obtain ⟨g, off, rfl, hc⟩ := (HL.out.keep hbw).at_ (ne_nil_of_lt hjk)
      have e0 := hc j hjk
      rw [show l[j] = l.getD j 0 by simp [List.getD, hjk]] at e0
      have e1 := cellR 1 i6 rfl
      have ra := i2.ra.cell j (by rw [i1.1]; exact hjk)
      rw [show c[j]'(by rw [i1.1]; exact hjk) = c.getD j 0 by simp [List.getD, i1.1, hjk]] at ra
      have re := i2.re.cell j (by rw [HCI.out.2.1]; exact hjk)
      rw [show cy[j]'(by rw [HCI.out.2.1]; exact hjk) = cy.getD j 0 by simp [List.getD, HCI.out.2.1, hjk]] at re
      have HCYJ : Hid (∃ tt, tt = cy.getD j 0) := ⟨_, rfl⟩
      obtain ⟨tt, htt⟩ := HCYJ.out
      obtain ⟨s, hs⟩ : ∃ s, s = l.getD j 0 := ⟨_, rfl⟩
      have HTT := Lib.hid htt
      have HS := Lib.hid hs
      have hby := by_two s0 k0 k1 t0 t1
      have hbk := by_or (l.getD j 0) (c.getD j 0) (cy.getD j 0)
      obtain ⟨dd0, dd1, _⟩ := dst_in (b := byI (l.getD j 0) (c.getD j 0) (cy.getD j 0)) k0 k1 t0 t1
      have HST : Hid (InT l c ∧ TorS X.heap.size ga ge cy c pv' cv' P C wr ∧ P ++ (mvK l j (l.getD j 0) (byI (l.getD j 0) (c.getD j 0) (cy.getD j 0)) (cy.getD j 0) (dimK l cy r) (l.getD j 0).toNat c 0).map (·.1) = x :: TL.map (·.1) ∧ C ++ (mvK l j (l.getD j 0) (byI (l.getD j 0) (c.getD j 0) (cy.getD j 0)) (cy.getD j 0) (dimK l cy r) (l.getD j 0).toNat c 0).map (·.2) = TL.map (·.2) ∧ Below w.heap.size w wr ∧ wr.heap[w.heap.size]? = some (.cells #[.int .i64 kind, .slice (some ⟨g, off, none⟩) N sc, .int .i64 hosts] 30 (0, 0)) ∧ TL.length ≤ 100000 ∧ dstI (l.getD j 0) (byI (l.getD j 0) (c.getD j 0) (cy.getD j 0)) (c.getD j 0) (cy.getD j 0) ≤ ((l.getD j 0).toNat : Int)) := ⟨i1, i2, i3, i4, i5, i6, i7, by omega⟩
      rw [← htt] at t0 t1 hby hbk re HST dd0 dd1
      rw [← hs] at s0 s1 k1 t1 hby hbk e0 HST dd0 dd1
      have hm0 : s ≠ 0 := by omega
      have w1 : wrap64 (tt - c.getD j 0) = tt - c.getD j 0 := wrap_small _ (by omega) (by omega)
      have w2 : wrap64 (tt - c.getD j 0 + s) = tt - c.getD j 0 + s := wrap_small _ (by omega) (by omega)
      have r0 := Int.emod_nonneg (tt - c.getD j 0) hm0
      have r1 := Int.emod_lt_of_pos (tt - c.getD j 0) (show 0 < s by omega)
      have em : (tt - c.getD j 0 + s).tmod s = (tt - c.getD j 0) % s := by rw [Int.tmod_eq_emod_of_nonneg (by omega), Int.add_emod_right]
      have w3 : wrap64 (2 * ((tt - c.getD j 0) % s)) = 2 * ((tt - c.getD j 0) % s) := wrap_small _ (by omega) (by omega)
      clear i1 i2 i3 i4 i5 i6 i7 hc hbw hjl HI htt hs dd0 dd1 hji
      obtain ⟨ci, hci⟩ : ∃ ci, c.getD j 0 = ci := ⟨_, rfl⟩
      rw [hci] at ra w1 w2 w3 r0 r1 k0 k1 em
      have HCJ := Lib.hid hci
      generalize byI s (c.getD j 0) tt = b at *
      rw [hci] at hby
      clear hci
      have hsj : s ≤ 16 := s1
      have hs2 : 2 ≤ s := s0
      clear s0 s1
      have HJ := Lib.hid hj
      clear hj
      rcases hbk with rfl | rfl
      · have hd : decide (2 * ((tt - ci) % s) > s) = false := decide_eq_false (by intro h; rw [if_pos h] at hby; omega)
        clear hby
        obtain ⟨wo, rfl⟩ : ∃ wo, wo = wr := ⟨_, rfl⟩
        go_wp2_with fail
        go_quiet (fail)
        have HI0 : Hid (InT l c ∧ TorS X.heap.size ga ge cy c pv' cv' P C (wo.drewN nq) ∧ P ++ (mvK l j s 1 tt (dimK l cy r) s.toNat c 0).map (·.1) = x :: TL.map (·.1) ∧ C ++ (mvK l j s 1 tt (dimK l cy r) s.toNat c 0).map (·.2) = TL.map (·.2) ∧ Below w.heap.size w (wo.drewN nq) ∧ (wo.drewN nq).heap[w.heap.size]? = some (.cells #[.int .i64 kind, .slice (some ⟨g, off, none⟩) N sc, .int .i64 hosts] 30 (0, 0)) ∧ TL.length ≤ 100000 ∧ dstI s 1 (c.getD j 0) tt ≤ (s.toNat : Int)) := ⟨HST.out.1, HST.out.2.1.keep (below_drewN (Below.refl _ _) _), HST.out.2.2.1, HST.out.2.2.2.1, below_drewN HST.out.2.2.2.2.1 _, HST.out.2.2.2.2.2.1, HST.out.2.2.2.2.2.2.1, HST.out.2.2.2.2.2.2.2⟩
        generalize wo.drewN nq = W1 at *
        clear HST w1 w2 r0 r1 k0 k1 em e0 e1 ra re HCJ
        have hd2 : decide (s < 2 * ((tt - ci) % s)) = false := hd
        go_wp2_with fail
        clear hd hd2 w3
        go_loopw [10, 11, 15] (fun av bv clv wr => ∃ (pv cv : Value) (f : Nat) (c : List Int) (cl : Int) (P C : List Int), pv = av ∧ cv = bv ∧ clv = .int .i64 cl ∧ Hid (InT l c ∧ TorS X.heap.size ga ge cy c pv cv P C wr ∧ P ++ (mvK l j s 1 tt (dimK l cy r) f c cl).map (·.1) = x :: TL.map (·.1) ∧ C ++ (mvK l j s 1 tt (dimK l cy r) f c cl).map (·.2) = TL.map (·.2) ∧ Below w.heap.size w wr ∧ wr.heap[w.heap.size]? = some (.cells #[.int .i64 kind, .slice (some ⟨g, off, none⟩) N sc, .int .i64 hosts] 30 (0, 0)) ∧ TL.length ≤ 100000 ∧ dstI s 1 (c.getD j 0) tt ≤ (f : Int))) (fun av _ _ _ => TL.length + 1 - lenV av)
        case atStart => exact ⟨_, _, s.toNat, c, 0, P, C, rfl, rfl, rfl, HI0⟩
        case round =>
          clear HI0
          obtain ⟨pv', cv', f, c, cl, P, C, rfl, rfl, rfl, HI⟩ := hrel
          obtain ⟨i1, i2, i3, i4, i5, i6, i7, i8⟩ := HI.out
          obtain ⟨k0, k1⟩ := i1.2 j hjk
          rw [← HS.out] at k1
          have ra := i2.ra.cell j (by rw [i1.1]; exact hjk)
          rw [show c[j]'(by rw [i1.1]; exact hjk) = c.getD j 0 by simp [List.getD, i1.1, hjk]] at ra
          have re := i2.re.cell j (by rw [HCI.out.2.1]; exact hjk)
          rw [show cy[j]'(by rw [HCI.out.2.1]; exact hjk) = cy.getD j 0 by simp [List.getD, HCI.out.2.1, hjk], ← HTT.out] at re
          obtain ⟨ci, hci⟩ : ∃ ci, c.getD j 0 = ci := ⟨_, rfl⟩
          rw [hci] at ra k0 k1
          have HCJ := Lib.hid hci
          clear i1 i2 i3 i4 i5 i6 i7 i8 hci
          obtain ⟨wi, rfl⟩ : ∃ wi, wi = wr := ⟨_, rfl⟩
          by_cases hne : ci = tt
          · have hq : (ci != tt) = false := by simp [hne]
            go_wp2_with fail
            go_quiet (fail)
            have HN3 : Hid (InT l c ∧ TorS X.heap.size ga ge cy c pv' cv' P C (wi.drewN nq) ∧ P ++ (dimK l cy r c).map (·.1) = x :: TL.map (·.1) ∧ C ++ (dimK l cy r c).map (·.2) = TL.map (·.2) ∧ Below w.heap.size w (wi.drewN nq) ∧ (wi.drewN nq).heap[w.heap.size]? = some (.cells #[.int .i64 kind, .slice (some ⟨g, off, none⟩) N sc, .int .i64 hosts] 30 (0, 0)) ∧ TL.length ≤ 100000) := by
              obtain ⟨i1, i2, i3, i4, i5, i6, i7, i8⟩ := HI.out
              rw [mvK_stop (by rw [HCJ.out, hne])] at i3 i4
              exact ⟨i1, i2.keep (below_drewN (Below.refl _ _) _), i3, i4, below_drewN i5 _, i6, i7⟩
            generalize wi.drewN nq = W2 at *
            clear hq hne HI HCJ ra re k0 k1
            go_wp2_with fail
            go_roundw
            case rel =>
              have hj := HJ.out
              exact ⟨pv', cv', r, c, P, C, rfl, rfl, by omega, by first | go_num | (congr 1; omega), HN3⟩
            case measure => have hj := HJ.out; simp [intOf]; omega
          · have hq : (ci != tt) = true := by simp [hne]
            go_wp2_with fail
            go_quiet (fail)
            have HN3 : Hid (TorS X.heap.size ga ge cy c pv' cv' P C (wi.drewN nq) ∧ Below w.heap.size w (wi.drewN nq) ∧ (wi.drewN nq).heap[w.heap.size]? = some (.cells #[.int .i64 kind, .slice (some ⟨g, off, none⟩) N sc, .int .i64 hosts] 30 (0, 0))) := ⟨HI.out.2.1.keep (below_drewN (Below.refl _ _) _), below_drewN HI.out.2.2.2.2.1 _, HI.out.2.2.2.2.2.1⟩
            have HMV : Hid (∃ f2 : Nat, InT l (c.set j (nxI s (ci + 1))) ∧ P ++ [numI l (c.set j (nxI s (ci + 1)))] ++ (mvK l j s 1 tt (dimK l cy r) f2 (c.set j (nxI s (ci + 1))) (clI s (ci + 1) cl)).map (·.1) = x :: TL.map (·.1) ∧ C ++ [clI s (ci + 1) cl] ++ (mvK l j s 1 tt (dimK l cy r) f2 (c.set j (nxI s (ci + 1))) (clI s (ci + 1) cl)).map (·.2) = TL.map (·.2) ∧ dstI s 1 ((c.set j (nxI s (ci + 1))).getD j 0) tt ≤ (f2 : Int) ∧ P.length + 1 ≤ TL.length + 1 ∧ C.length + 1 ≤ TL.length ∧ TL.length ≤ 100000) := by
              obtain ⟨i1, i2, i3, i4, i5, i6, i7, i8⟩ := HI.out
              obtain ⟨t0, t1⟩ := HCI.out.2.2 j hjk
              rw [← HTT.out] at t0 t1
              rw [← HS.out] at t1
              rw [HCJ.out] at i8
              have hb' : (1 : Int) = 1 ∨ (1 : Int) = -1 := by decide
              obtain ⟨n0, n1⟩ := nx_in hb' k0 k1
              have hdd := dst_in (b := 1) k0 k1 t0 t1
              have hst := dst_step hb' k0 k1 t0 t1 hne
              have hd1 := hdd.2.2 hne
              obtain ⟨f2, rfl⟩ : ∃ f2, f = f2 + 1 := ⟨f - 1, by omega⟩
              rw [mvK, HCJ.out, if_pos hne] at i3 i4
              have hg : (c.set j (nxI s (ci + 1))).getD j 0 = nxI s (ci + 1) := getD_set_same _ _ _ _ (by rw [i1.1]; exact hjk)
              have e3 := congrArg List.length i3
              have e4 := congrArg List.length i4
              simp at e3 e4
              refine ⟨f2, i1.set hjk n0 (by rw [← HS.out]; exact n1), by rw [← i3]; simp, by rw [← i4]; simp, by rw [hg, hst]; omega, by omega, by omega, i7⟩
            have hnx := nx_ref (b := 1) (cl := cl) (by decide) hs2 k0 k1
            have hcl := clr_cases (b := 1) (cl := cl) (by decide) k0 k1
            have hw4 : wrap64 (s - 1) = s - 1 := wrap_small _ (by omega) (by omega)
            have hw5 : wrap64 (ci + 1) = ci + 1 := wrap_small _ (by omega) (by omega)
            have hw6 : wrap64 (ci + 1 + s) = ci + 1 + s := wrap_small _ (by omega) (by omega)
            have o3 := HN3.out.1.ra.open_ j
            have l3 := HN3.out.1.ra.lt
            replace ra : (wi.drewN nq).cell? ⟨ga, j, none⟩ = some (.int .i64 ci) := ra
            generalize wi.drewN nq = W2 at *
            clear hq hne HI HCJ re
            generalize nxI s (ci + 1) = nv at *
            generalize clI s (ci + 1) cl = cn at *
            have HT3 : Hid (TorS X.heap.size ga ge cy (c.set j nv) pv' cv' P C (W2.setCell ⟨ga, j, none⟩ (.int .i64 nv)) ∧ Below w.heap.size w (W2.setCell ⟨ga, j, none⟩ (.int .i64 nv)) ∧ (W2.setCell ⟨ga, j, none⟩ (.int .i64 nv)).heap[w.heap.size]? = some (.cells #[.int .i64 kind, .slice (some ⟨g, off, none⟩) N sc, .int .i64 hosts] 30 (0, 0))) := by
              obtain ⟨n1, n2, n3⟩ := HN3.out
              have := n1.la
              have := HWX.out
              exact ⟨n1.store j nv, n2.setCell (p := ⟨ga, j, none⟩) (by show w.heap.size ≤ ga; omega) _, (heap_setCell_other _ _ _ _ (show w.heap.size ≠ ga by omega)).trans n3⟩
            have HN67 : Hid (Calls Try.prog 67 #[.agg #[.int .i64 kind, .slice (some ⟨g, off, none⟩) N sc, .int .i64 hosts], .slice (some ⟨ga, 0, none⟩) N N] (W2.setCell ⟨ga, j, none⟩ (.int .i64 nv)) fun e w' => e = .returned (.int .i64 (numI l (c.set j nv))) ∧ Below (W2.setCell ⟨ga, j, none⟩ (.int .i64 nv)).heap.size (W2.setCell ⟨ga, j, none⟩ (.int .i64 nv)) w') := by
              obtain ⟨f2, m1, _⟩ := HMV.out
              exact HNM.out _ _ _ HT3.out.2.1 HT3.out.1.ra m1
            have b3 := HT3.out.2.2
            have x0 := cellR 0 b3 rfl
            have x1 := cellR 1 b3 rfl
            have x2 := cellR 2 b3 rfl
            clear b3
            rw [if_pos rfl] at hcl
            by_cases hwr : ci + 1 = s
            · have hq2 : (ci == s - 1) = true := by simp; omega
              rw [if_pos hwr] at hcl
              clear hwr
              subst hcl
              go_wp2_with fail
              refine HN67.out.mono ?_
              rintro e W3 ⟨rfl, hb3⟩
              obtain ⟨pv2, W4, hr1, hT4, hb4⟩ := (HT3.out.1.keep hb3).appP (numI l (c.set j nv)) (by obtain ⟨_, _, _, _, _, m1, m2, m3⟩ := HMV.out; omega)
              obtain ⟨cv2, W5, hr2, hT5, hb5⟩ := hT4.appC 1 (by obtain ⟨_, _, _, _, _, m1, m2, m3⟩ := HMV.out; omega)
              have HR1 := Lib.hid hr1
              have HR2 := Lib.hid hr2
              have HF : Hid (TorS X.heap.size ga ge cy (c.set j nv) pv2 cv2 (P ++ [numI l (c.set j nv)]) (C ++ [1]) W5 ∧ Below w.heap.size w W5 ∧ W5.heap[w.heap.size]? = some (.cells #[.int .i64 kind, .slice (some ⟨g, off, none⟩) N sc, .int .i64 hosts] 30 (0, 0)) ∧ lenV pv' = P.length ∧ lenV pv2 = P.length + 1) := by
                have hX := HWX.out
                have z1 := HT3.out.2.1.trans (hb3.mono HT3.out.2.1.size)
                have hb45 := hb4.trans hb5
                refine ⟨hT5, z1.trans (hb45.mono (by omega)), ?_, lenV_own HT3.out.1.pp, by rw [lenV_own hT5.pp]; simp⟩
                rw [hb45.block _ hX, hb3.block _ ((Array.getElem?_eq_some_iff.1 HT3.out.2.2).1)]
                exact HT3.out.2.2
              clear hr1 hr2 hT4 hT5 hb3 hb4 hb5 HT3 HN67 HN3 x0 x1 x2 ra o3 l3 hnx
              go_wp2_with (first | (at_builtin; refine Lib.wpList_append_run _ rfl (.tmp 95) (.tmp 99) 22 22 rfl _ _ rfl rfl _ _ HR1.out ?_) | (at_builtin; refine Lib.wpList_append_run _ rfl (.tmp 101) (.tmp 103) 22 22 rfl _ _ rfl rfl _ _ HR2.out ?_))
              go_roundw
              case rel =>
                obtain ⟨f2, m1, m2, m3, m4, m5, m6, m7⟩ := HMV.out
                exact ⟨pv2, cv2, f2, c.set j nv, 1, P ++ [numI l (c.set j nv)], C ++ [1], rfl, rfl, rfl, m1, HF.out.1, m2, m3, HF.out.2.1, HF.out.2.2.1, m7, m4⟩
              case measure =>
                obtain ⟨_, _, _, _, _, m1, _⟩ := HMV.out
                have z1 := HF.out.2.2.2.1
                have z2 := HF.out.2.2.2.2
                rw [z1, z2]; omega
            · have hq2 : (ci == s - 1) = false := by simp; omega
              rw [if_neg hwr] at hcl
              clear hwr
              subst hcl
              go_wp2_with fail
              refine HN67.out.mono ?_
              rintro e W3 ⟨rfl, hb3⟩
              obtain ⟨pv2, W4, hr1, hT4, hb4⟩ := (HT3.out.1.keep hb3).appP (numI l (c.set j nv)) (by obtain ⟨_, _, _, _, _, m1, m2, m3⟩ := HMV.out; omega)
              obtain ⟨cv2, W5, hr2, hT5, hb5⟩ := hT4.appC cn (by obtain ⟨_, _, _, _, _, m1, m2, m3⟩ := HMV.out; omega)
              have HR1 := Lib.hid hr1
              have HR2 := Lib.hid hr2
              have HF : Hid (TorS X.heap.size ga ge cy (c.set j nv) pv2 cv2 (P ++ [numI l (c.set j nv)]) (C ++ [cn]) W5 ∧ Below w.heap.size w W5 ∧ W5.heap[w.heap.size]? = some (.cells #[.int .i64 kind, .slice (some ⟨g, off, none⟩) N sc, .int .i64 hosts] 30 (0, 0)) ∧ lenV pv' = P.length ∧ lenV pv2 = P.length + 1) := by
                have hX := HWX.out
                have z1 := HT3.out.2.1.trans (hb3.mono HT3.out.2.1.size)
                have hb45 := hb4.trans hb5
                refine ⟨hT5, z1.trans (hb45.mono (by omega)), ?_, lenV_own HT3.out.1.pp, by rw [lenV_own hT5.pp]; simp⟩
                rw [hb45.block _ hX, hb3.block _ ((Array.getElem?_eq_some_iff.1 HT3.out.2.2).1)]
                exact HT3.out.2.2
              clear hr1 hr2 hT4 hT5 hb3 hb4 hb5 HT3 HN67 HN3 x0 x1 x2 ra o3 l3 hnx
              go_wp2_with (first | (at_builtin; refine Lib.wpList_append_run _ rfl (.tmp 95) (.tmp 99) 22 22 rfl _ _ rfl rfl _ _ HR1.out ?_) | (at_builtin; refine Lib.wpList_append_run _ rfl (.tmp 101) (.tmp 103) 22 22 rfl _ _ rfl rfl _ _ HR2.out ?_))
              go_roundw
              case rel =>
                obtain ⟨f2, m1, m2, m3, m4, m5, m6, m7⟩ := HMV.out
                exact ⟨pv2, cv2, f2, c.set j nv, cn, P ++ [numI l (c.set j nv)], C ++ [cn], rfl, rfl, rfl, m1, HF.out.1, m2, m3, HF.out.2.1, HF.out.2.2.1, m7, m4⟩
              case measure =>
                obtain ⟨_, _, _, _, _, m1, _⟩ := HMV.out
                have z1 := HF.out.2.2.2.1
                have z2 := HF.out.2.2.2.2
                rw [z1, z2]; omega
      · have hd : decide (2 * ((tt - ci) % s) > s) = true := decide_eq_true (Classical.byContradiction fun h => by rw [if_neg h] at hby; omega)
        clear hby
        obtain ⟨wo, rfl⟩ : ∃ wo, wo = wr := ⟨_, rfl⟩
        go_wp2_with fail
        go_quiet (fail)
        have HI0 : Hid (InT l c ∧ TorS X.heap.size ga ge cy c pv' cv' P C (wo.drewN nq) ∧ P ++ (mvK l j s (-1) tt (dimK l cy r) s.toNat c 0).map (·.1) = x :: TL.map (·.1) ∧ C ++ (mvK l j s (-1) tt (dimK l cy r) s.toNat c 0).map (·.2) = TL.map (·.2) ∧ Below w.heap.size w (wo.drewN nq) ∧ (wo.drewN nq).heap[w.heap.size]? = some (.cells #[.int .i64 kind, .slice (some ⟨g, off, none⟩) N sc, .int .i64 hosts] 30 (0, 0)) ∧ TL.length ≤ 100000 ∧ dstI s (-1) (c.getD j 0) tt ≤ (s.toNat : Int)) := ⟨HST.out.1, HST.out.2.1.keep (below_drewN (Below.refl _ _) _), HST.out.2.2.1, HST.out.2.2.2.1, below_drewN HST.out.2.2.2.2.1 _, HST.out.2.2.2.2.2.1, HST.out.2.2.2.2.2.2.1, HST.out.2.2.2.2.2.2.2⟩
        generalize wo.drewN nq = W1 at *
        clear HST w1 w2 r0 r1 k0 k1 em e0 e1 ra re HCJ
        have hd2 : decide (s < 2 * ((tt - ci) % s)) = true := hd
        go_wp2_with fail
        clear hd hd2 w3
        go_loopw [10, 11, 15] (fun av bv clv wr => ∃ (pv cv : Value) (f : Nat) (c : List Int) (cl : Int) (P C : List Int), pv = av ∧ cv = bv ∧ clv = .int .i64 cl ∧ Hid (InT l c ∧ TorS X.heap.size ga ge cy c pv cv P C wr ∧ P ++ (mvK l j s (-1) tt (dimK l cy r) f c cl).map (·.1) = x :: TL.map (·.1) ∧ C ++ (mvK l j s (-1) tt (dimK l cy r) f c cl).map (·.2) = TL.map (·.2) ∧ Below w.heap.size w wr ∧ wr.heap[w.heap.size]? = some (.cells #[.int .i64 kind, .slice (some ⟨g, off, none⟩) N sc, .int .i64 hosts] 30 (0, 0)) ∧ TL.length ≤ 100000 ∧ dstI s (-1) (c.getD j 0) tt ≤ (f : Int))) (fun av _ _ _ => TL.length + 1 - lenV av)
        case atStart => exact ⟨_, _, s.toNat, c, 0, P, C, rfl, rfl, rfl, HI0⟩
        case round =>
          clear HI0
          obtain ⟨pv', cv', f, c, cl, P, C, rfl, rfl, rfl, HI⟩ := hrel
          obtain ⟨i1, i2, i3, i4, i5, i6, i7, i8⟩ := HI.out
          obtain ⟨k0, k1⟩ := i1.2 j hjk
          rw [← HS.out] at k1
          have ra := i2.ra.cell j (by rw [i1.1]; exact hjk)
          rw [show c[j]'(by rw [i1.1]; exact hjk) = c.getD j 0 by simp [List.getD, i1.1, hjk]] at ra
          have re := i2.re.cell j (by rw [HCI.out.2.1]; exact hjk)
          rw [show cy[j]'(by rw [HCI.out.2.1]; exact hjk) = cy.getD j 0 by simp [List.getD, HCI.out.2.1, hjk], ← HTT.out] at re
          obtain ⟨ci, hci⟩ : ∃ ci, c.getD j 0 = ci := ⟨_, rfl⟩
          rw [hci] at ra k0 k1
          have HCJ := Lib.hid hci
          clear i1 i2 i3 i4 i5 i6 i7 i8 hci
          obtain ⟨wi, rfl⟩ : ∃ wi, wi = wr := ⟨_, rfl⟩
          by_cases hne : ci = tt
          · have hq : (ci != tt) = false := by simp [hne]
            go_wp2_with fail
            go_quiet (fail)
            have HN3 : Hid (InT l c ∧ TorS X.heap.size ga ge cy c pv' cv' P C (wi.drewN nq) ∧ P ++ (dimK l cy r c).map (·.1) = x :: TL.map (·.1) ∧ C ++ (dimK l cy r c).map (·.2) = TL.map (·.2) ∧ Below w.heap.size w (wi.drewN nq) ∧ (wi.drewN nq).heap[w.heap.size]? = some (.cells #[.int .i64 kind, .slice (some ⟨g, off, none⟩) N sc, .int .i64 hosts] 30 (0, 0)) ∧ TL.length ≤ 100000) := by
              obtain ⟨i1, i2, i3, i4, i5, i6, i7, i8⟩ := HI.out
              rw [mvK_stop (by rw [HCJ.out, hne])] at i3 i4
              exact ⟨i1, i2.keep (below_drewN (Below.refl _ _) _), i3, i4, below_drewN i5 _, i6, i7⟩
            generalize wi.drewN nq = W2 at *
            clear hq hne HI HCJ ra re k0 k1
            go_wp2_with fail
            go_roundw
            case rel =>
              have hj := HJ.out
              exact ⟨pv', cv', r, c, P, C, rfl, rfl, by omega, by first | go_num | (congr 1; omega), HN3⟩
            case measure => have hj := HJ.out; simp [intOf]; omega
          · have hq : (ci != tt) = true := by simp [hne]
            go_wp2_with fail
            go_quiet (fail)
            have HN3 : Hid (TorS X.heap.size ga ge cy c pv' cv' P C (wi.drewN nq) ∧ Below w.heap.size w (wi.drewN nq) ∧ (wi.drewN nq).heap[w.heap.size]? = some (.cells #[.int .i64 kind, .slice (some ⟨g, off, none⟩) N sc, .int .i64 hosts] 30 (0, 0))) := ⟨HI.out.2.1.keep (below_drewN (Below.refl _ _) _), below_drewN HI.out.2.2.2.2.1 _, HI.out.2.2.2.2.2.1⟩
            have HMV : Hid (∃ f2 : Nat, InT l (c.set j (nxI s (ci + (-1)))) ∧ P ++ [numI l (c.set j (nxI s (ci + (-1))))] ++ (mvK l j s (-1) tt (dimK l cy r) f2 (c.set j (nxI s (ci + (-1)))) (clI s (ci + (-1)) cl)).map (·.1) = x :: TL.map (·.1) ∧ C ++ [clI s (ci + (-1)) cl] ++ (mvK l j s (-1) tt (dimK l cy r) f2 (c.set j (nxI s (ci + (-1)))) (clI s (ci + (-1)) cl)).map (·.2) = TL.map (·.2) ∧ dstI s (-1) ((c.set j (nxI s (ci + (-1)))).getD j 0) tt ≤ (f2 : Int) ∧ P.length + 1 ≤ TL.length + 1 ∧ C.length + 1 ≤ TL.length ∧ TL.length ≤ 100000) := by
              obtain ⟨i1, i2, i3, i4, i5, i6, i7, i8⟩ := HI.out
              obtain ⟨t0, t1⟩ := HCI.out.2.2 j hjk
              rw [← HTT.out] at t0 t1
              rw [← HS.out] at t1
              rw [HCJ.out] at i8
              have hb' : ((-1) : Int) = 1 ∨ ((-1) : Int) = -1 := by decide
              obtain ⟨n0, n1⟩ := nx_in hb' k0 k1
              have hdd := dst_in (b := (-1)) k0 k1 t0 t1
              have hst := dst_step hb' k0 k1 t0 t1 hne
              have hd1 := hdd.2.2 hne
              obtain ⟨f2, rfl⟩ : ∃ f2, f = f2 + 1 := ⟨f - 1, by omega⟩
              rw [mvK, HCJ.out, if_pos hne] at i3 i4
              have hg : (c.set j (nxI s (ci + (-1)))).getD j 0 = nxI s (ci + (-1)) := getD_set_same _ _ _ _ (by rw [i1.1]; exact hjk)
              have e3 := congrArg List.length i3
              have e4 := congrArg List.length i4
              simp at e3 e4
              refine ⟨f2, i1.set hjk n0 (by rw [← HS.out]; exact n1), by rw [← i3]; simp, by rw [← i4]; simp, by rw [hg, hst]; omega, by omega, by omega, i7⟩
            have hnx := nx_ref (b := (-1)) (cl := cl) (by decide) hs2 k0 k1
            have hcl := clr_cases (b := (-1)) (cl := cl) (by decide) k0 k1
            have hw4 : wrap64 (s - 1) = s - 1 := wrap_small _ (by omega) (by omega)
            have hw5 : wrap64 (ci + (-1)) = ci + (-1) := wrap_small _ (by omega) (by omega)
            have hw6 : wrap64 (ci + (-1) + s) = ci + (-1) + s := wrap_small _ (by omega) (by omega)
            have o3 := HN3.out.1.ra.open_ j
            have l3 := HN3.out.1.ra.lt
            replace ra : (wi.drewN nq).cell? ⟨ga, j, none⟩ = some (.int .i64 ci) := ra
            generalize wi.drewN nq = W2 at *
            clear hq hne HI HCJ re
            generalize nxI s (ci + (-1)) = nv at *
            generalize clI s (ci + (-1)) cl = cn at *
            have HT3 : Hid (TorS X.heap.size ga ge cy (c.set j nv) pv' cv' P C (W2.setCell ⟨ga, j, none⟩ (.int .i64 nv)) ∧ Below w.heap.size w (W2.setCell ⟨ga, j, none⟩ (.int .i64 nv)) ∧ (W2.setCell ⟨ga, j, none⟩ (.int .i64 nv)).heap[w.heap.size]? = some (.cells #[.int .i64 kind, .slice (some ⟨g, off, none⟩) N sc, .int .i64 hosts] 30 (0, 0))) := by
              obtain ⟨n1, n2, n3⟩ := HN3.out
              have := n1.la
              have := HWX.out
              exact ⟨n1.store j nv, n2.setCell (p := ⟨ga, j, none⟩) (by show w.heap.size ≤ ga; omega) _, (heap_setCell_other _ _ _ _ (show w.heap.size ≠ ga by omega)).trans n3⟩
            have HN67 : Hid (Calls Try.prog 67 #[.agg #[.int .i64 kind, .slice (some ⟨g, off, none⟩) N sc, .int .i64 hosts], .slice (some ⟨ga, 0, none⟩) N N] (W2.setCell ⟨ga, j, none⟩ (.int .i64 nv)) fun e w' => e = .returned (.int .i64 (numI l (c.set j nv))) ∧ Below (W2.setCell ⟨ga, j, none⟩ (.int .i64 nv)).heap.size (W2.setCell ⟨ga, j, none⟩ (.int .i64 nv)) w') := by
              obtain ⟨f2, m1, _⟩ := HMV.out
              exact HNM.out _ _ _ HT3.out.2.1 HT3.out.1.ra m1
            have b3 := HT3.out.2.2
            have x0 := cellR 0 b3 rfl
            have x1 := cellR 1 b3 rfl
            have x2 := cellR 2 b3 rfl
            clear b3
            rw [if_neg (by decide)] at hcl
            by_cases hwr : ci = 0
            · have hq2 : (ci == 0) = true := by simp; omega
              rw [if_pos hwr] at hcl
              clear hwr
              subst hcl
              go_wp2_with fail
              refine HN67.out.mono ?_
              rintro e W3 ⟨rfl, hb3⟩
              obtain ⟨pv2, W4, hr1, hT4, hb4⟩ := (HT3.out.1.keep hb3).appP (numI l (c.set j nv)) (by obtain ⟨_, _, _, _, _, m1, m2, m3⟩ := HMV.out; omega)
              obtain ⟨cv2, W5, hr2, hT5, hb5⟩ := hT4.appC 1 (by obtain ⟨_, _, _, _, _, m1, m2, m3⟩ := HMV.out; omega)
              have HR1 := Lib.hid hr1
              have HR2 := Lib.hid hr2
              have HF : Hid (TorS X.heap.size ga ge cy (c.set j nv) pv2 cv2 (P ++ [numI l (c.set j nv)]) (C ++ [1]) W5 ∧ Below w.heap.size w W5 ∧ W5.heap[w.heap.size]? = some (.cells #[.int .i64 kind, .slice (some ⟨g, off, none⟩) N sc, .int .i64 hosts] 30 (0, 0)) ∧ lenV pv' = P.length ∧ lenV pv2 = P.length + 1) := by
                have hX := HWX.out
                have z1 := HT3.out.2.1.trans (hb3.mono HT3.out.2.1.size)
                have hb45 := hb4.trans hb5
                refine ⟨hT5, z1.trans (hb45.mono (by omega)), ?_, lenV_own HT3.out.1.pp, by rw [lenV_own hT5.pp]; simp⟩
                rw [hb45.block _ hX, hb3.block _ ((Array.getElem?_eq_some_iff.1 HT3.out.2.2).1)]
                exact HT3.out.2.2
              clear hr1 hr2 hT4 hT5 hb3 hb4 hb5 HT3 HN67 HN3 x0 x1 x2 ra o3 l3 hnx
              go_wp2_with (first | (at_builtin; refine Lib.wpList_append_run _ rfl (.tmp 95) (.tmp 99) 22 22 rfl _ _ rfl rfl _ _ HR1.out ?_) | (at_builtin; refine Lib.wpList_append_run _ rfl (.tmp 101) (.tmp 103) 22 22 rfl _ _ rfl rfl _ _ HR2.out ?_))
              go_roundw
              case rel =>
                obtain ⟨f2, m1, m2, m3, m4, m5, m6, m7⟩ := HMV.out
                exact ⟨pv2, cv2, f2, c.set j nv, 1, P ++ [numI l (c.set j nv)], C ++ [1], rfl, rfl, rfl, m1, HF.out.1, m2, m3, HF.out.2.1, HF.out.2.2.1, m7, m4⟩
              case measure =>
                obtain ⟨_, _, _, _, _, m1, _⟩ := HMV.out
                have z1 := HF.out.2.2.2.1
                have z2 := HF.out.2.2.2.2
                rw [z1, z2]; omega
            · have hq2 : (ci == 0) = false := by simp; omega
              rw [if_neg hwr] at hcl
              clear hwr
              subst hcl
              go_wp2_with fail
              refine HN67.out.mono ?_
              rintro e W3 ⟨rfl, hb3⟩
              obtain ⟨pv2, W4, hr1, hT4, hb4⟩ := (HT3.out.1.keep hb3).appP (numI l (c.set j nv)) (by obtain ⟨_, _, _, _, _, m1, m2, m3⟩ := HMV.out; omega)
              obtain ⟨cv2, W5, hr2, hT5, hb5⟩ := hT4.appC cn (by obtain ⟨_, _, _, _, _, m1, m2, m3⟩ := HMV.out; omega)
              have HR1 := Lib.hid hr1
              have HR2 := Lib.hid hr2
              have HF : Hid (TorS X.heap.size ga ge cy (c.set j nv) pv2 cv2 (P ++ [numI l (c.set j nv)]) (C ++ [cn]) W5 ∧ Below w.heap.size w W5 ∧ W5.heap[w.heap.size]? = some (.cells #[.int .i64 kind, .slice (some ⟨g, off, none⟩) N sc, .int .i64 hosts] 30 (0, 0)) ∧ lenV pv' = P.length ∧ lenV pv2 = P.length + 1) := by
                have hX := HWX.out
                have z1 := HT3.out.2.1.trans (hb3.mono HT3.out.2.1.size)
                have hb45 := hb4.trans hb5
                refine ⟨hT5, z1.trans (hb45.mono (by omega)), ?_, lenV_own HT3.out.1.pp, by rw [lenV_own hT5.pp]; simp⟩
                rw [hb45.block _ hX, hb3.block _ ((Array.getElem?_eq_some_iff.1 HT3.out.2.2).1)]
                exact HT3.out.2.2
              clear hr1 hr2 hT4 hT5 hb3 hb4 hb5 HT3 HN67 HN3 x0 x1 x2 ra o3 l3 hnx
              go_wp2_with (first | (at_builtin; refine Lib.wpList_append_run _ rfl (.tmp 95) (.tmp 99) 22 22 rfl _ _ rfl rfl _ _ HR1.out ?_) | (at_builtin; refine Lib.wpList_append_run _ rfl (.tmp 101) (.tmp 103) 22 22 rfl _ _ rfl rfl _ _ HR2.out ?_))
              go_roundw
              case rel =>
                obtain ⟨f2, m1, m2, m3, m4, m5, m6, m7⟩ := HMV.out
                exact ⟨pv2, cv2, f2, c.set j nv, cn, P ++ [numI l (c.set j nv)], C ++ [cn], rfl, rfl, rfl, m1, HF.out.1, m2, m3, HF.out.2.1, HF.out.2.2.1, m7, m4⟩
              case measure =>
                obtain ⟨_, _, _, _, _, m1, _⟩ := HMV.out
                have z1 := HF.out.2.2.2.1
                have z2 := HF.out.2.2.2.2
                rw [z1, z2]; omega
end Go.Proofs.Ytbhkenphcahifaa
