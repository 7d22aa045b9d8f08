import Derived.Test.YtbhkenphcahifaaNT
namespace Go.Proofs.Ytbhkenphcahifaa
open Go.RowKit Go.Shelf
attribute [local go_sem] Oper.semAt_some
set_option maxRecDepth 100000
set_option maxHeartbeats 4000000
section
variable {n : Nat} {P : Program} {ops : Array Oper} {Q : Exit → Act → World → Prop}
theorem wpOpIn_rowg {i j : Nat} {want : Bool} {o : Oper} {K : Act → World → Prop} {a : Act} {w : World} (ho : ops[i]? = some o) (hgd : o.guard = some (j, want)) (hy : yielded ops a.tmps j = some want) (ty : TypeId) (x : Operand) (hop : o.op = .load ty x)
    (g : Nat) (hx : a.eval x = .pointer (some ⟨g, 0, none⟩)) (t : TypeId) (cs : Array Value) (fr : Nat × Nat) (d : TypeDesc) (hg : w.heap[g]? = some (.cells cs t fr))
    (hu : P.underlying ty = some d) (hd : (match d with | .struct _ | .array _ _ => true | _ => false) = true) (hi : (P.info? ty).map (·.size) = some cs.size)
    (h : K (a.put o.dst (.agg cs)) w) : wpOpIn Fence.wide n P ops Q i K a w := by
  refine wpOpIn_guard (v := .agg cs) ho hgd hy ?_ h
  simp only [Oper.semAt, hop, execOp, hx, Instr.loadAt, Instr.sureAddr, Sem.run_bind, Sem.run_pure, Result.andThen_ok, run_loadVar_row w g t ty cs fr d hg hu hd hi]
end
theorem info24 : (Try.prog.info? 24).map (·.size) = some 3 := by kernel_rfl
theorem placeL_len (kind : Int) (l : List Int) (x : Int) (h : l.length ≤ 17592186044416) : (placeL kind l x).length ≤ 17592186044416 := by
  unfold placeL
  split
  · rw [show (coordsL l x).length = l.length from cfold_len _ _ _]; exact h
  · split <;> simp
/-- what Place says of a list -/
def PlaceIs (B : Nat) (kind : Int) (l : List Int) (hosts x : Int) (e : Ending) (w' : World) : Prop := ∃ a c, e = .returned (.tuple #[.slice a (if plaE kind l hosts x = 0 then placeL kind l x else []).length c, .int .i64 (plaE kind l hosts x)]) ∧ Ints w' a (if plaE kind l hosts x = 0 then placeL kind l x else [])
theorem ints_nil (w : World) : Ints w none [] := ⟨by simp, fun h => absurd rfl h⟩
theorem place_is {B : Nat} {kind : Int} {l : List Int} {hosts x : Int} {e : Ending} {w' : World} (hl : l.length ≤ 17592186044416)
    (h : (plaE kind l hosts x ≠ 0 ∧ e = .returned (.tuple #[.slice none 0 0, .int .i64 (plaE kind l hosts x)])) ∨ (plaE kind l hosts x = 0 ∧ ∃ g, e = .returned (.tuple #[.slice (some ⟨g, 0, none⟩) (placeL kind l x).length (placeL kind l x).length, .int .i64 0]) ∧ B ≤ g ∧ RowAt w' g (placeL kind l x))) : PlaceIs B kind l hosts x e w' := by
  rcases h with ⟨h1, rfl⟩ | ⟨h1, g, rfl, h2, h3⟩
  · refine ⟨none, 0, ?_, ?_⟩
    · rw [if_neg h1]; rfl
    · rw [if_neg h1]; exact ints_nil _
  · refine ⟨some ⟨g, 0, none⟩, (placeL kind l x).length, ?_, ?_⟩
    · rw [if_pos h1, h1]
    · rw [if_pos h1]; exact h3.ints (placeL_len _ _ _ hl)
theorem NetSizes_walk {w : World} {sa : Option Addr} {l : List Int} (h : Ints w sa l) (sc : Nat) (kind hosts host x : Int) (hwk : ∀ W, Calls Try.prog 10 #[] W fun e w' => e = .returned (.bool true) ∧ Below W.heap.size W w') :
    Calls Try.prog 3 #[.agg #[.int .i64 kind, .slice sa l.length sc, .int .i64 hosts], .int .i64 host, .int .i64 x] w fun e w' => e = .returned (.bool true) ∧ Below w.heap.size w w' := by
  have hlen := h.len
  have HWK := Lib.hid hwk
  have H11 := Lib.hid (fun W (hb : Below w.heap.size w W) => Size_any (h.keep hb) sc kind hosts)
  have H12 := Lib.hid (fun W (hb : Below w.heap.size w W) => rSize_any (h.keep hb) sc kind hosts)
  have H14 := Lib.hid (fun W (hb : Below w.heap.size w W) => Check_any (h.keep hb) sc kind hosts)
  have H15 := Lib.hid (fun W (hb : Below w.heap.size w W) => rCheck_any (h.keep hb) sc kind hosts)
  have H16 := Lib.hid (fun W (hb : Below w.heap.size w W) => Home_any (h.keep hb) sc kind hosts host)
  have H17 := Lib.hid (fun W (hb : Below w.heap.size w W) => rHome_any (h.keep hb) sc kind hosts host)
  have H18 := Lib.hid (fun W (hb : Below w.heap.size w W) => (Place_any (h.keep hb) sc kind hosts x).mono fun e w' ⟨h1, h2⟩ => And.intro h1 (place_is hlen h2))
  have H19 := Lib.hid (fun W (hb : Below w.heap.size w W) => (rPlace_any (h.keep hb) sc kind hosts x).mono fun e w' ⟨h1, h2⟩ => And.intro h1 (place_is hlen h2))
  have H13 := Lib.hid (fun W => spec_any sa l.length sc kind hosts W)
  have H20 := Lib.hid (fun (W : World) (a b : Option Addr) (m : List Int) (ha : Ints W a m) (hb : Ints W b m) (ca cb : Nat) => equal_any ha hb ca cb)
  simp only [PlaceIs] at H18 H19
  generalize szI kind l hosts = SZ at *
  generalize hsI kind l hosts = HS_ at *
  generalize errI kind l hosts = ER at *
  generalize homI kind l hosts host = HI at *
  generalize homE kind l hosts host = HE at *
  generalize (if plaE kind l hosts x = 0 then placeL kind l x else []) = PL at *
  generalize plaE kind l hosts x = PE at *
  generalize l.length = N at *
  clear h hwk
  have HB := Lib.hid ((Below.refl w.heap.size w).alloc (Nat.le_refl _) (.cells #[.int .i64 kind, .slice sa N sc, .int .i64 hosts] 24))
  have Q0 := Lib.hid (heap_alloc_new w (.cells #[.int .i64 kind, .slice sa N sc, .int .i64 hosts] 24))
  have c0 := cellR 0 Q0.out rfl
  have c1 := cellR 1 Q0.out rfl
  have c2 := cellR 2 Q0.out rfl
  by_cases hN : 10 < (N : Int)
  case pos =>
    clear H11 H12 H13 H14 H15 H16 H17 H18 H19 H20
    go_enter Try.func3, Try.ntmps3
    go_wp2_with fail
    generalize w.alloc (.cells #[.int .i64 kind, .slice sa N sc, .int .i64 hosts] 24) = X at *
    refine (HWK.out _).mono ?_
    rintro e w1 ⟨rfl, hb1⟩
    clear HWK c0 c1 c2
    go_wp2_with fail
    go_ret
    exact ⟨rfl, HB.out.trans (hb1.mono HB.out.size)⟩
  have hNd : decide (10 < (N : Int)) = false := decide_eq_false hN
  clear hN
  go_enter Try.func3, Try.ntmps3
  go_wp2_with fail
  generalize w.alloc (.cells #[.int .i64 kind, .slice sa N sc, .int .i64 hosts] 24) = X at *
  refine (H11.out _ HB.out).mono ?_
  rintro e W2 ⟨rfl, hb⟩
  replace Q0 := Lib.hid (heapB hb Q0.out)
  replace HB := Lib.hid (HB.out.trans (hb.mono HB.out.size))
  clear hb c0 c1 c2 H11
  have c0 := cellR 0 Q0.out rfl
  have c1 := cellR 1 Q0.out rfl
  have c2 := cellR 2 Q0.out rfl
  obtain ⟨w1, rfl⟩ : ∃ w1, w1 = W2 := ⟨_, rfl⟩
  go_wp2_with fail
  refine (H13.out _).mono ?_
  rintro e W2 ⟨rfl, hb⟩
  replace Q0 := Lib.hid (heapB hb Q0.out)
  replace HB := Lib.hid (HB.out.trans (hb.mono HB.out.size))
  clear hb c0 c1 c2
  have c0 := cellR 0 Q0.out rfl
  have c1 := cellR 1 Q0.out rfl
  have c2 := cellR 2 Q0.out rfl
  obtain ⟨w1, rfl⟩ : ∃ w1, w1 = W2 := ⟨_, rfl⟩
  go_wp2_with fail
  refine (H12.out _ HB.out).mono ?_
  rintro e W2 ⟨rfl, hb⟩
  replace Q0 := Lib.hid (heapB hb Q0.out)
  replace HB := Lib.hid (HB.out.trans (hb.mono HB.out.size))
  clear hb c0 c1 c2 H12
  have c0 := cellR 0 Q0.out rfl
  have c1 := cellR 1 Q0.out rfl
  have c2 := cellR 2 Q0.out rfl
  obtain ⟨w1, rfl⟩ : ∃ w1, w1 = W2 := ⟨_, rfl⟩
  go_wp2_with fail
  refine (wpIn_wide (n := 0)).1 ?_
  refine region_det (by kernel_rfl) (I := fun listed a' w' => Hid (Below w1.heap.size w1 w') ∧ a' = ⟨#[Value.agg #[.int .i64 kind, .slice sa N sc, .int .i64 hosts], Value.int IntKind.i64 (host), Value.int IntKind.i64 (x), Value.pointer (some ⟨w.heap.size, 0, none⟩), undef, undef, Value.bool false, Value.int IntKind.i64 (SZ), Value.int IntKind.i64 (HS_), Value.int IntKind.i64 (ER), Value.int IntKind.i64 (SZ), Value.int IntKind.i64 (HS_), Value.int IntKind.i64 (ER), undef, undef, undef, undef, undef, undef, Value.pointer (some ⟨w.heap.size, 1, none⟩), Value.slice sa N sc, Value.int IntKind.i64 (N), Value.bool false, undef, Value.tuple #[.int .i64 SZ, .int .i64 HS_, .int .i64 ER], Value.agg #[.int .i64 kind, .slice sa N sc, .int .i64 hosts], Value.tuple #[.int .i64 SZ, .int .i64 HS_, .int .i64 ER], Value.int IntKind.i64 (SZ), Value.int IntKind.i64 (HS_), Value.int IntKind.i64 (ER), Value.tuple #[.int .i64 SZ, .int .i64 HS_, .int .i64 ER], Value.agg #[.int .i64 kind, .slice sa N sc, .int .i64 hosts], Value.agg #[.int .i64 kind, .slice sa N sc, .int .i64 hosts], Value.tuple #[.int .i64 SZ, .int .i64 HS_, .int .i64 ER], Value.int IntKind.i64 (SZ), Value.int IntKind.i64 (HS_), Value.int IntKind.i64 (ER), (if listed.getD 0 false = true then Value.int IntKind.i64 (SZ) else undef), (if listed.getD 1 false = true then Value.int IntKind.i64 (SZ) else undef), (if listed.getD 2 false = true then Value.bool false else undef), (if listed.getD 3 false = true then Value.bool false else undef), (if listed.getD 4 false = true then Value.int IntKind.i64 (HS_) else undef), (if listed.getD 5 false = true then Value.int IntKind.i64 (HS_) else undef), (if listed.getD 6 false = true then Value.bool false else undef), (if listed.getD 7 false = true then Value.bool false else undef), (if listed.getD 8 false = true then Value.bool false else undef), (if listed.getD 9 false = true then Value.int IntKind.i64 (ER) else undef), (if listed.getD 10 false = true then Value.int IntKind.i64 (ER) else undef), (if listed.getD 11 false = true then Value.bool false else undef), (if listed.getD 12 false = true then Value.bool false else undef), (if listed.getD 13 false = true then Value.bool false else undef), (if listed.getD 14 false = true then Value.agg #[.int .i64 kind, .slice sa N sc, .int .i64 hosts] else undef), (if listed.getD 15 false = true then Value.int IntKind.i64 (ER) else undef), (if listed.getD 16 false = true then Value.agg #[.int .i64 kind, .slice sa N sc, .int .i64 hosts] else undef), (if listed.getD 17 false = true then Value.agg #[.int .i64 kind, .slice sa N sc, .int .i64 hosts] else undef), (if listed.getD 18 false = true then Value.int IntKind.i64 (ER) else undef), (if listed.getD 19 false = true then Value.bool false else undef), (if listed.getD 20 false = true then Value.bool false else undef), undef, undef, undef, undef, undef, undef, undef, undef, undef, undef, undef, undef, undef, undef, undef, undef, undef, undef, undef, undef, undef, undef, undef, undef, undef, undef, undef, undef, undef, undef, undef, undef, undef, undef, undef, undef, undef, undef, undef, undef, undef, undef, undef, undef, undef, undef, undef], []⟩) (hup_check (by kernel_rfl)) ?h0 ?step ?fin
  case h0 => exact ⟨(Below.refl _ _).drew, rfl⟩
  case step =>
    intro listed a' w' i hs hbi hdep hi ⟨IB, ha⟩
    obtain ⟨ls⟩ := listed
    match ls, hs with
    | [x0, x1, x2, x3, x4, x5, x6, x7, x8, x9, x10, x11, x12, x13, x14, x15, x16, x17, x18, x19, x20], _ =>
    subst ha
    have hi' : i = 0 ∨ i = 1 ∨ i = 2 ∨ i = 3 ∨ i = 4 ∨ i = 5 ∨ i = 6 ∨ i = 7 ∨ i = 8 ∨ i = 9 ∨ i = 10 ∨ i = 11 ∨ i = 12 ∨ i = 13 ∨ i = 14 ∨ i = 15 ∨ i = 16 ∨ i = 17 ∨ i = 18 ∨ i = 19 ∨ i = 20 := by simp at hi; omega
    rcases hi' with rfl | rfl | rfl | rfl | rfl | rfl | rfl | rfl | rfl | rfl | rfl | rfl | rfl | rfl | rfl | rfl | rfl | rfl | rfl | rfl | rfl
    · obtain rfl : x0 = false := by simpa using hbi
      refine wpOpIn_plain rfl rfl rfl ?_
      exact ⟨IB, rfl⟩
    · obtain rfl : x1 = false := by simpa using hbi
      refine wpOpIn_plain rfl rfl rfl ?_
      exact ⟨IB, rfl⟩
    · obtain rfl : x2 = false := by simpa using hbi
      obtain rfl : x0 = true := hdep _ rfl ⟨0, .data⟩ (by simp) rfl
      obtain rfl : x1 = true := hdep _ rfl ⟨1, .data⟩ (by simp) rfl
      refine wpOpIn_plain (v := Value.bool false) (w' := w') rfl rfl (by simp [Oper.semAt, execOp, go_sem]) ?_
      exact ⟨IB, rfl⟩
    · obtain rfl : x3 = false := by simpa using hbi
      obtain rfl : x2 = true := hdep _ rfl ⟨2, .data⟩ (by simp) rfl
      refine wpOpIn_plain rfl rfl rfl ?_
      exact ⟨IB, rfl⟩
    · obtain rfl : x4 = false := by simpa using hbi
      obtain rfl : x3 = true := hdep _ rfl ⟨3, .guard⟩ (by simp) rfl
      refine wpOpIn_guard (v := Value.int IntKind.i64 (HS_)) (w' := w') rfl rfl rfl (by simp [Oper.semAt, execOp, go_sem]) ?_
      exact ⟨IB, rfl⟩
    · obtain rfl : x5 = false := by simpa using hbi
      obtain rfl : x3 = true := hdep _ rfl ⟨3, .guard⟩ (by simp) rfl
      refine wpOpIn_guard (v := Value.int IntKind.i64 (HS_)) (w' := w') rfl rfl rfl (by simp [Oper.semAt, execOp, go_sem]) ?_
      exact ⟨IB, rfl⟩
    · obtain rfl : x6 = false := by simpa using hbi
      obtain rfl : x4 = true := hdep _ rfl ⟨4, .data⟩ (by simp) rfl
      obtain rfl : x5 = true := hdep _ rfl ⟨5, .data⟩ (by simp) rfl
      obtain rfl : x3 = true := hdep _ rfl ⟨3, .guard⟩ (by simp) rfl
      refine wpOpIn_guard (v := Value.bool false) (w' := w') rfl rfl rfl (by simp [Oper.semAt, execOp, go_sem]) ?_
      exact ⟨IB, rfl⟩
    · obtain rfl : x7 = false := by simpa using hbi
      obtain rfl : x3 = true := hdep _ rfl ⟨3, .data⟩ (by simp) rfl
      obtain rfl : x6 = true := hdep _ rfl ⟨6, .data⟩ (by simp) rfl
      refine wpOpIn_plain (v := Value.bool false) (w' := w') rfl rfl (by simp [Oper.semAt, execOp, go_sem]) ?_
      exact ⟨IB, rfl⟩
    · obtain rfl : x8 = false := by simpa using hbi
      obtain rfl : x7 = true := hdep _ rfl ⟨7, .data⟩ (by simp) rfl
      refine wpOpIn_plain rfl rfl rfl ?_
      exact ⟨IB, rfl⟩
    · obtain rfl : x9 = false := by simpa using hbi
      obtain rfl : x8 = true := hdep _ rfl ⟨8, .guard⟩ (by simp) rfl
      refine wpOpIn_guard (v := Value.int IntKind.i64 (ER)) (w' := w') rfl rfl rfl (by simp [Oper.semAt, execOp, go_sem]) ?_
      exact ⟨IB, rfl⟩
    · obtain rfl : x10 = false := by simpa using hbi
      obtain rfl : x8 = true := hdep _ rfl ⟨8, .guard⟩ (by simp) rfl
      refine wpOpIn_guard (v := Value.int IntKind.i64 (ER)) (w' := w') rfl rfl rfl (by simp [Oper.semAt, execOp, go_sem]) ?_
      exact ⟨IB, rfl⟩
    · obtain rfl : x11 = false := by simpa using hbi
      obtain rfl : x9 = true := hdep _ rfl ⟨9, .data⟩ (by simp) rfl
      obtain rfl : x10 = true := hdep _ rfl ⟨10, .data⟩ (by simp) rfl
      obtain rfl : x8 = true := hdep _ rfl ⟨8, .guard⟩ (by simp) rfl
      refine wpOpIn_guard (v := Value.bool false) (w' := w') rfl rfl rfl (by simp [Oper.semAt, execOp, go_sem]) ?_
      exact ⟨IB, rfl⟩
    · obtain rfl : x12 = false := by simpa using hbi
      obtain rfl : x8 = true := hdep _ rfl ⟨8, .data⟩ (by simp) rfl
      obtain rfl : x11 = true := hdep _ rfl ⟨11, .data⟩ (by simp) rfl
      refine wpOpIn_plain (v := Value.bool false) (w' := w') rfl rfl (by simp [Oper.semAt, execOp, go_sem]) ?_
      exact ⟨IB, rfl⟩
    · obtain rfl : x13 = false := by simpa using hbi
      obtain rfl : x12 = true := hdep _ rfl ⟨12, .data⟩ (by simp) rfl
      refine wpOpIn_plain rfl rfl rfl ?_
      exact ⟨IB, rfl⟩
    · obtain rfl : x14 = false := by simpa using hbi
      obtain rfl : x13 = true := hdep _ rfl ⟨13, .guard⟩ (by simp) rfl
      refine wpOpIn_rowg rfl rfl rfl 24 _ rfl w.heap.size rfl 24 _ _ _ (heapB IB.out Q0.out) Try.underlying24 rfl info24 ?_
      exact ⟨IB, rfl⟩
    · obtain rfl : x15 = false := by simpa using hbi
      obtain rfl : x14 = true := hdep _ rfl ⟨14, .data⟩ (by simp) rfl
      obtain rfl : x13 = true := hdep _ rfl ⟨13, .guard⟩ (by simp) rfl
      refine wpOpIn_callg (args := #[Value.agg #[.int .i64 kind, .slice sa N sc, .int .i64 hosts]]) rfl rfl rfl (sem_call1 rfl rfl (enters_of Try.func14 (by kernel_rfl) rfl)) (H14.out w' (HB.out.trans (IB.out.mono HB.out.size))) ?_
      rintro e V ⟨rfl, hb⟩
      exact ⟨_, rfl, (IB.out.trans (hb.mono IB.out.size)), rfl⟩
    · obtain rfl : x16 = false := by simpa using hbi
      obtain rfl : x13 = true := hdep _ rfl ⟨13, .guard⟩ (by simp) rfl
      refine wpOpIn_rowg rfl rfl rfl 24 _ rfl w.heap.size rfl 24 _ _ _ (heapB IB.out Q0.out) Try.underlying24 rfl info24 ?_
      exact ⟨IB, rfl⟩
    · obtain rfl : x17 = false := by simpa using hbi
      obtain rfl : x16 = true := hdep _ rfl ⟨16, .data⟩ (by simp) rfl
      obtain rfl : x13 = true := hdep _ rfl ⟨13, .guard⟩ (by simp) rfl
      refine wpOpIn_callg (args := #[Value.agg #[.int .i64 kind, .slice sa N sc, .int .i64 hosts]]) rfl rfl rfl (sem_call1 rfl rfl (enters_of Try.func13 (by kernel_rfl) rfl)) (H13.out w') ?_
      rintro e V ⟨rfl, hb⟩
      exact ⟨_, rfl, (IB.out.trans (hb.mono IB.out.size)), rfl⟩
    · obtain rfl : x18 = false := by simpa using hbi
      obtain rfl : x17 = true := hdep _ rfl ⟨17, .data⟩ (by simp) rfl
      obtain rfl : x13 = true := hdep _ rfl ⟨13, .guard⟩ (by simp) rfl
      refine wpOpIn_callg (args := #[Value.agg #[.int .i64 kind, .slice sa N sc, .int .i64 hosts]]) rfl rfl rfl (sem_call1 rfl rfl (enters_of Try.func15 (by kernel_rfl) rfl)) (H15.out w' (HB.out.trans (IB.out.mono HB.out.size))) ?_
      rintro e V ⟨rfl, hb⟩
      exact ⟨_, rfl, (IB.out.trans (hb.mono IB.out.size)), rfl⟩
    · obtain rfl : x19 = false := by simpa using hbi
      obtain rfl : x15 = true := hdep _ rfl ⟨15, .data⟩ (by simp) rfl
      obtain rfl : x18 = true := hdep _ rfl ⟨18, .data⟩ (by simp) rfl
      obtain rfl : x13 = true := hdep _ rfl ⟨13, .guard⟩ (by simp) rfl
      refine wpOpIn_guard (v := Value.bool false) (w' := w') rfl rfl rfl (by simp [Oper.semAt, execOp, go_sem]) ?_
      exact ⟨IB, rfl⟩
    · obtain rfl : x20 = false := by simpa using hbi
      obtain rfl : x13 = true := hdep _ rfl ⟨13, .data⟩ (by simp) rfl
      obtain rfl : x19 = true := hdep _ rfl ⟨19, .data⟩ (by simp) rfl
      refine wpOpIn_plain (v := Value.bool false) (w' := w') rfl rfl (by simp [Oper.semAt, execOp, go_sem]) ?_
      exact ⟨IB, rfl⟩
  case fin =>
  intro listed a' Z hs hall ⟨IB, ha⟩
  obtain ⟨ls⟩ := listed
  match ls, hs with
  | [x0, x1, x2, x3, x4, x5, x6, x7, x8, x9, x10, x11, x12, x13, x14, x15, x16, x17, x18, x19, x20], _ =>
  obtain rfl : x0 = true := hall 0 (by simp)
  obtain rfl : x1 = true := hall 1 (by simp)
  obtain rfl : x2 = true := hall 2 (by simp)
  obtain rfl : x3 = true := hall 3 (by simp)
  obtain rfl : x4 = true := hall 4 (by simp)
  obtain rfl : x5 = true := hall 5 (by simp)
  obtain rfl : x6 = true := hall 6 (by simp)
  obtain rfl : x7 = true := hall 7 (by simp)
  obtain rfl : x8 = true := hall 8 (by simp)
  obtain rfl : x9 = true := hall 9 (by simp)
  obtain rfl : x10 = true := hall 10 (by simp)
  obtain rfl : x11 = true := hall 11 (by simp)
  obtain rfl : x12 = true := hall 12 (by simp)
  obtain rfl : x13 = true := hall 13 (by simp)
  obtain rfl : x14 = true := hall 14 (by simp)
  obtain rfl : x15 = true := hall 15 (by simp)
  obtain rfl : x16 = true := hall 16 (by simp)
  obtain rfl : x17 = true := hall 17 (by simp)
  obtain rfl : x18 = true := hall 18 (by simp)
  obtain rfl : x19 = true := hall 19 (by simp)
  obtain rfl : x20 = true := hall 20 (by simp)
  subst ha
  replace Q0 := Lib.hid (heapB IB.out Q0.out)
  replace HB := Lib.hid (HB.out.trans (IB.out.mono HB.out.size))
  clear IB hall hs c0 c1 c2 H14 H15
  have c0 := cellR 0 Q0.out rfl
  have c1 := cellR 1 Q0.out rfl
  have c2 := cellR 2 Q0.out rfl
  dsimp only [Exit.then, Exit.inBlock]
  obtain ⟨w1, rfl⟩ : ∃ w1, w1 = Z := ⟨_, rfl⟩
  go_wp2_with fail
  refine (H16.out _ HB.out).mono ?_
  rintro e W2 ⟨rfl, hb⟩
  replace Q0 := Lib.hid (heapB hb Q0.out)
  replace HB := Lib.hid (HB.out.trans (hb.mono HB.out.size))
  clear hb c0 c1 c2 H16
  have c0 := cellR 0 Q0.out rfl
  have c1 := cellR 1 Q0.out rfl
  have c2 := cellR 2 Q0.out rfl
  obtain ⟨w1, rfl⟩ : ∃ w1, w1 = W2 := ⟨_, rfl⟩
  go_wp2_with fail
  refine (H13.out _).mono ?_
  rintro e W2 ⟨rfl, hb⟩
  replace Q0 := Lib.hid (heapB hb Q0.out)
  replace HB := Lib.hid (HB.out.trans (hb.mono HB.out.size))
  clear hb c0 c1 c2
  have c0 := cellR 0 Q0.out rfl
  have c1 := cellR 1 Q0.out rfl
  have c2 := cellR 2 Q0.out rfl
  obtain ⟨w1, rfl⟩ : ∃ w1, w1 = W2 := ⟨_, rfl⟩
  go_wp2_with fail
  refine (H17.out _ HB.out).mono ?_
  rintro e W2 ⟨rfl, hb⟩
  replace Q0 := Lib.hid (heapB hb Q0.out)
  replace HB := Lib.hid (HB.out.trans (hb.mono HB.out.size))
  clear hb c0 c1 c2 H17
  have c0 := cellR 0 Q0.out rfl
  have c1 := cellR 1 Q0.out rfl
  have c2 := cellR 2 Q0.out rfl
  obtain ⟨w1, rfl⟩ : ∃ w1, w1 = W2 := ⟨_, rfl⟩
  go_wp2_with fail
  refine (H18.out _ HB.out).mono ?_
  rintro e W2 ⟨hb, a1, k1, rfl, i1⟩
  have I1 := Lib.hid i1
  clear i1
  replace Q0 := Lib.hid (heapB hb Q0.out)
  replace HB := Lib.hid (HB.out.trans (hb.mono HB.out.size))
  clear hb c0 c1 c2 H18
  have c0 := cellR 0 Q0.out rfl
  have c1 := cellR 1 Q0.out rfl
  have c2 := cellR 2 Q0.out rfl
  obtain ⟨w1, rfl⟩ : ∃ w1, w1 = W2 := ⟨_, rfl⟩
  go_wp2_with fail
  refine (H13.out _).mono ?_
  rintro e W2 ⟨rfl, hb⟩
  replace Q0 := Lib.hid (heapB hb Q0.out)
  replace HB := Lib.hid (HB.out.trans (hb.mono HB.out.size))
  replace I1 := Lib.hid (I1.out.keep hb)
  clear hb c0 c1 c2
  have c0 := cellR 0 Q0.out rfl
  have c1 := cellR 1 Q0.out rfl
  have c2 := cellR 2 Q0.out rfl
  obtain ⟨w1, rfl⟩ : ∃ w1, w1 = W2 := ⟨_, rfl⟩
  go_wp2_with fail
  refine (H19.out _ HB.out).mono ?_
  rintro e W2 ⟨hb, a2, k2, rfl, i2⟩
  have I2 := Lib.hid i2
  clear i2
  replace Q0 := Lib.hid (heapB hb Q0.out)
  replace HB := Lib.hid (HB.out.trans (hb.mono HB.out.size))
  replace I1 := Lib.hid (I1.out.keep hb)
  clear hb c0 c1 c2 H19
  have c0 := cellR 0 Q0.out rfl
  have c1 := cellR 1 Q0.out rfl
  have c2 := cellR 2 Q0.out rfl
  obtain ⟨w1, rfl⟩ : ∃ w1, w1 = W2 := ⟨_, rfl⟩
  go_wp2_with fail
  refine (H20.out _ _ _ _ I1.out I2.out _ _).mono ?_
  rintro e W2 ⟨rfl, hb⟩
  replace HB := Lib.hid (HB.out.trans (hb.mono HB.out.size))
  clear hb c0 c1 c2 Q0 H20 I1 I2
  have hPP : decide (PL = PL) = true := decide_eq_true rfl
  go_wp2_with fail
  refine (HWK.out _).mono ?_
  rintro e W3 ⟨rfl, hb⟩
  replace HB := Lib.hid (HB.out.trans (hb.mono HB.out.size))
  clear hb HWK
  go_wp2_with fail
  go_ret
  exact ⟨rfl, HB.out⟩
end Go.Proofs.Ytbhkenphcahifaa
