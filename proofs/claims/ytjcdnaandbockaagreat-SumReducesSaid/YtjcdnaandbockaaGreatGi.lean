import Derived.Test.YtjcdnaandbockaaGreatGh
namespace Go.Proofs.YtjcdnaandbockaaGreat
open Go.RowKit Go.Shelf
attribute [local go_sem] Oper.semAt_some
set_option maxRecDepth 100000
set_option maxHeartbeats 1000000

/-- what Do returns besides the value -/
def doE (op kind : Int) (u v : Vl) : Int := if findE op kind ≠ 0 then findE op kind else if (allowsB kind u && allowsB kind v) = true then 0 else 2
def doV (op kind : Int) (u v : Vl) : Vl := if doE op kind u v = 0 then opV op kind u v else ⟨0, 0⟩
theorem Do_any (op kind : Int) (u v : Vl) (hu : u.Ok) (hv : v.Ok) (w : World) : Calls Tryz.prog 6 #[.int .i64 op, .int .i64 kind, vA u, vA v] w fun e w' => e = .returned (.tuple #[vA (doV op kind u v), .int .i64 (doE op kind u v)]) ∧ Below w.heap.size w w' := by
  have hx := hu
  have hy := hv
  obtain ⟨x, p⟩ := u
  obtain ⟨y, q⟩ := v
  obtain ⟨hb, h1, h2, h3, hz⟩ := three w (.cells #[.int .u64 x, .int .i64 p] 24) (.cells #[.int .u64 y, .int .i64 q] 24) (.cells #[.int .u64 0, .int .i64 0] 24)
  have hf := find_any op kind (((w.alloc (.cells #[.int .u64 x, .int .i64 p] 24)).alloc (.cells #[.int .u64 y, .int .i64 q] 24)).alloc (.cells #[.int .u64 0, .int .i64 0] 24))
  have HE : Hid (doE op kind ⟨x, p⟩ ⟨y, q⟩ = if findE op kind ≠ 0 then findE op kind else if (allowsB kind ⟨x, p⟩ && allowsB kind ⟨y, q⟩) = true then 0 else 2) := rfl
  have HV : Hid (doV op kind ⟨x, p⟩ ⟨y, q⟩ = if doE op kind ⟨x, p⟩ ⟨y, q⟩ = 0 then opV op kind ⟨x, p⟩ ⟨y, q⟩ else ⟨0, 0⟩) := rfl
  obtain ⟨E, hE⟩ : ∃ E, E = doE op kind ⟨x, p⟩ ⟨y, q⟩ := ⟨_, rfl⟩
  obtain ⟨R, hR⟩ : ∃ R, R = doV op kind ⟨x, p⟩ ⟨y, q⟩ := ⟨_, rfl⟩
  obtain ⟨F, hF⟩ : ∃ F, F = findE op kind := ⟨_, rfl⟩
  rw [← hE] at HE HV ⊢
  rw [← hR] at HV ⊢
  rw [← hF] at HE hf
  clear hE hR hF hu hv
  have HB0 := Lib.hid hb
  have H10 := Lib.hid h1
  have H20 := Lib.hid h2
  have H30 := Lib.hid h3
  clear hb h1 h2 h3
  have hz' := hz
  unfold vA
  go_enter Tryz.func6, Tryz.ntmps6
  go_wp2_with fail
  generalize ((w.alloc (.cells #[.int .u64 x, .int .i64 p] 24)).alloc (.cells #[.int .u64 y, .int .i64 q] 24)).alloc (.cells #[.int .u64 0, .int .i64 0] 24) = X at *
  refine hf.mono ?_
  rintro e w1 ⟨⟨h0, rfl⟩ | ⟨h0, n, cs, rfl, hd⟩, hb⟩
  · have hst := store_fnv (heap_alloc_new w1 (.cells #[.int .i64 0, .int .i64 0, .nilFunc] 67)) .nilFunc rfl
    have H3 := Lib.hid (heap_alloc_keep w1 (.cells #[.int .i64 0, .int .i64 0, .nilFunc] 67) _ _ (heapB hb H30.out))
    have HB := Lib.hid ((HB0.out.trans (hb.mono (by rw [hz]; omega))).alloc (by have := hb.size; omega) (.cells #[.int .i64 0, .int .i64 0, .nilFunc] 67))
    have HE2 : Hid (E = F) := by rw [HE.out, if_pos h0]; rfl
    have HR2 : Hid (R = ⟨0, 0⟩) := by rw [HV.out, if_neg (by rw [HE2.out]; exact h0)]; rfl
    have d0 := cellR 0 H3.out rfl
    have d1 := cellR 1 H3.out rfl
    have f0 := frozen_of_row _ _ 0 _ _ H3.out
    have f1 := frozen_of_row _ _ 1 _ _ H3.out
    have l0 := (Array.getElem?_eq_some_iff.1 H3.out).1
    have hF0 : ((F != 0) : Bool) = true := bne_iff_ne.2 h0
    clear hf hb HE HV HB0 H10 H20 H30
    go_wp2_with fail
    have hr := put2 H3.out (.int .u64 0) (.int .i64 0)
    have hb9 := (HB.out.setCell (p := ⟨w.heap.size + 1 + 1, 0, none⟩) (by show _ ≤ _ + 1 + 1; omega) (.int .u64 0)).setCell (p := ⟨w.heap.size + 1 + 1, 1, none⟩) (by show _ ≤ _ + 1 + 1; omega) (.int .i64 0)
    refine bodyPost_ret (v := .tuple #[.agg #[.int .u64 0, .int .i64 0], .int .i64 F]) ?_ rfl ⟨by rw [HE2.out, HR2.out]; rfl, hb9⟩
    simp [results, Act.put, run_loadVar_row _ _ 24 24 _ _ _ hr Tryz.underlying24 rfl info54, Tryz.results6, asAddr]
  · have hst := store_fnv (heap_alloc_new w1 (.cells #[.int .i64 op, .int .i64 kind, .nilFunc] 67)) (.func (.func n) #[] cs) rfl
    have hsz := hb.size
    have H1 := Lib.hid (heap_alloc_keep w1 (.cells #[.int .i64 op, .int .i64 kind, .func (.func n) #[] cs] 67) _ _ (heapB hb H10.out))
    have H2 := Lib.hid (heap_alloc_keep w1 (.cells #[.int .i64 op, .int .i64 kind, .func (.func n) #[] cs] 67) _ _ (heapB hb H20.out))
    have H3 := Lib.hid (heap_alloc_keep w1 (.cells #[.int .i64 op, .int .i64 kind, .func (.func n) #[] cs] 67) _ _ (heapB hb H30.out))
    have H4 := Lib.hid (heap_alloc_new w1 (.cells #[.int .i64 op, .int .i64 kind, .func (.func n) #[] cs] 67))
    have HB := Lib.hid ((HB0.out.trans (hb.mono (by rw [hz]; omega))).alloc (by omega) (.cells #[.int .i64 op, .int .i64 kind, .func (.func n) #[] cs] 67))
    have HD := Lib.hid (hd.later (.of_below ((Below.refl w1.heap.size w1).alloc (Nat.le_refl _) (.cells #[.int .i64 op, .int .i64 kind, .func (.func n) #[] cs] 67))))
    have HE2 : Hid (E = if (allowsB kind ⟨x, p⟩ && allowsB kind ⟨y, q⟩) = true then 0 else 2) := by rw [HE.out, if_neg (by rw [h0]; decide)]; rfl
    have ha1 := allows_any op kind n cs ⟨x, p⟩
    have ha2 := allows_any op kind n cs ⟨y, q⟩
    subst h0
    unfold rA vA at ha1 ha2
    unfold rA
    have c0 := cellR 0 H4.out rfl
    have c1 := cellR 1 H4.out rfl
    have c2 := cellR 2 H4.out rfl
    have x0 := cellR 0 H1.out rfl
    have x1 := cellR 1 H1.out rfl
    have y0 := cellR 0 H2.out rfl
    have y1 := cellR 1 H2.out rfl
    have d0 := cellR 0 H3.out rfl
    have d1 := cellR 1 H3.out rfl
    have f0 := frozen_of_row _ _ 0 _ _ H3.out
    have f1 := frozen_of_row _ _ 1 _ _ H3.out
    have l0 := (Array.getElem?_eq_some_iff.1 H3.out).1
    clear hf hb HE HB0 H10 H20 H30 hd
    obtain ⟨A1, hA1⟩ : ∃ A, A = allowsB kind ⟨x, p⟩ := ⟨_, rfl⟩
    obtain ⟨A2, hA2⟩ : ∃ A, A = allowsB kind ⟨y, q⟩ := ⟨_, rfl⟩
    rw [← hA1, ← hA2] at HE2
    rw [← hA1] at ha1
    rw [← hA2] at ha2
    clear hA1 hA2
    go_wp2_with fail
    clear hst
    generalize w1.alloc (.cells #[.int .i64 op, .int .i64 kind, .func (.func n) #[] cs] 67) = X1 at *
    refine (ha1 _).mono ?_
    rintro e w2 ⟨rfl, hb2⟩
    have G1 := Lib.hid (heapB hb2 H1.out)
    have G2 := Lib.hid (heapB hb2 H2.out)
    have G3 := Lib.hid (heapB hb2 H3.out)
    have G4 := Lib.hid (heapB hb2 H4.out)
    have GB := Lib.hid (HB.out.trans (hb2.mono HB.out.size))
    have GD := Lib.hid (HD.out.later (.of_below hb2))
    clear c0 c1 c2 x0 x1 y0 y1 d0 d1 f0 f1 l0 H1 H2 H3 H4 HB HD hb2 ha1
    have H1 := G1
    have H2 := G2
    have H3 := G3
    have H4 := G4
    have HB := GB
    have HD := GD
    clear G1 G2 G3 G4 GB GD
    have c0 := cellR 0 H4.out rfl
    have c1 := cellR 1 H4.out rfl
    have c2 := cellR 2 H4.out rfl
    have x0 := cellR 0 H1.out rfl
    have x1 := cellR 1 H1.out rfl
    have y0 := cellR 0 H2.out rfl
    have y1 := cellR 1 H2.out rfl
    have d0 := cellR 0 H3.out rfl
    have d1 := cellR 1 H3.out rfl
    have f0 := frozen_of_row _ _ 0 _ _ H3.out
    have f1 := frozen_of_row _ _ 1 _ _ H3.out
    have l0 := (Array.getElem?_eq_some_iff.1 H3.out).1
    cases A1 with
    | false =>
      have HE3 : Hid (E = 2) := by rw [HE2.out]; rfl
      have HR2 : Hid (R = ⟨0, 0⟩) := by rw [HV.out, if_neg (by rw [HE3.out]; decide)]; rfl
      go_wp2_with fail
      have hr := put2 H3.out (.int .u64 0) (.int .i64 0)
      have hb9 := (HB.out.setCell (p := ⟨w.heap.size + 1 + 1, 0, none⟩) (by show _ ≤ _ + 1 + 1; omega) (.int .u64 0)).setCell (p := ⟨w.heap.size + 1 + 1, 1, none⟩) (by show _ ≤ _ + 1 + 1; omega) (.int .i64 0)
      refine bodyPost_ret (v := .tuple #[.agg #[.int .u64 0, .int .i64 0], .int .i64 2]) ?_ rfl ⟨by rw [HE3.out, HR2.out]; rfl, hb9⟩
      simp [results, Act.put, run_loadVar_row _ _ 24 24 _ _ _ hr Tryz.underlying24 rfl info54, Tryz.results6, asAddr]
    | true =>
      go_wp2_with fail
      refine (ha2 _).mono ?_
      rintro e w3 ⟨rfl, hb2⟩
      have G1 := Lib.hid (heapB hb2 H1.out)
      have G2 := Lib.hid (heapB hb2 H2.out)
      have G3 := Lib.hid (heapB hb2 H3.out)
      have G4 := Lib.hid (heapB hb2 H4.out)
      have GB := Lib.hid (HB.out.trans (hb2.mono HB.out.size))
      have GD := Lib.hid (HD.out.later (.of_below hb2))
      clear c0 c1 c2 x0 x1 y0 y1 d0 d1 f0 f1 l0 H1 H2 H3 H4 HB HD hb2 ha2
      have H1 := G1
      have H2 := G2
      have H3 := G3
      have H4 := G4
      have HB := GB
      have HD := GD
      clear G1 G2 G3 G4 GB GD
      have c0 := cellR 0 H4.out rfl
      have c1 := cellR 1 H4.out rfl
      have c2 := cellR 2 H4.out rfl
      have x0 := cellR 0 H1.out rfl
      have x1 := cellR 1 H1.out rfl
      have y0 := cellR 0 H2.out rfl
      have y1 := cellR 1 H2.out rfl
      have d0 := cellR 0 H3.out rfl
      have d1 := cellR 1 H3.out rfl
      have f0 := frozen_of_row _ _ 0 _ _ H3.out
      have f1 := frozen_of_row _ _ 1 _ _ H3.out
      have l0 := (Array.getElem?_eq_some_iff.1 H3.out).1
      cases A2 with
      | false =>
        have HE3 : Hid (E = 2) := by rw [HE2.out]; rfl
        have HR2 : Hid (R = ⟨0, 0⟩) := by rw [HV.out, if_neg (by rw [HE3.out]; decide)]; rfl
        go_wp2_with fail
        have hr := put2 H3.out (.int .u64 0) (.int .i64 0)
        have hb9 := (HB.out.setCell (p := ⟨w.heap.size + 1 + 1, 0, none⟩) (by show _ ≤ _ + 1 + 1; omega) (.int .u64 0)).setCell (p := ⟨w.heap.size + 1 + 1, 1, none⟩) (by show _ ≤ _ + 1 + 1; omega) (.int .i64 0)
        refine bodyPost_ret (v := .tuple #[.agg #[.int .u64 0, .int .i64 0], .int .i64 2]) ?_ rfl ⟨by rw [HE3.out, HR2.out]; rfl, hb9⟩
        simp [results, Act.put, run_loadVar_row _ _ 24 24 _ _ _ hr Tryz.underlying24 rfl info54, Tryz.results6, asAddr]
      | true =>
        have HE3 : Hid (E = 0) := by rw [HE2.out]; rfl
        have HR2 : Hid (R = opV op kind ⟨x, p⟩ ⟨y, q⟩) := by rw [HV.out, if_pos HE3.out]; rfl
        obtain ⟨n', cs', hv, eg, hdo⟩ := HD.out
        injection hv with hv1 hv2 hv3
        injection hv1 with hv1
        subst hv1 hv3
        have hcall := hdo w3 ⟨x, p⟩ ⟨y, q⟩ hx hy (.refl _ _)
        rw [← HR2.out] at hcall
        unfold vA at hcall
        have HRE := Lib.hid HE3.out
        clear hdo HD HE3 HE2 HV HR2
        have eg' : ∀ args w, (callFunc n args).run Tryz.prog w = .ok (.enter n args) w := eg
        go_wp2_with fail
        refine hcall.mono ?_
        rintro e w4 ⟨rfl, hb2⟩
        have G3 := Lib.hid (heapB hb2 H3.out)
        have GB := Lib.hid (HB.out.trans (hb2.mono HB.out.size))
        clear c0 c1 c2 x0 x1 y0 y1 d0 d1 f0 f1 l0 H1 H2 H3 H4 HB hb2 hcall
        have H3 := G3
        have HB := GB
        clear G3 GB
        have d0 := cellR 0 H3.out rfl
        have d1 := cellR 1 H3.out rfl
        have f0 := frozen_of_row _ _ 0 _ _ H3.out
        have f1 := frozen_of_row _ _ 1 _ _ H3.out
        have l0 := (Array.getElem?_eq_some_iff.1 H3.out).1
        go_wp2_with fail
        have hr := put2 H3.out (.int .u64 R.x) (.int .i64 R.p)
        have hb9 := (HB.out.setCell (p := ⟨w.heap.size + 1 + 1, 0, none⟩) (by show _ ≤ _ + 1 + 1; omega) (.int .u64 R.x)).setCell (p := ⟨w.heap.size + 1 + 1, 1, none⟩) (by show _ ≤ _ + 1 + 1; omega) (.int .i64 R.p)
        refine bodyPost_ret (v := .tuple #[.agg #[.int .u64 R.x, .int .i64 R.p], .int .i64 0]) ?_ rfl ⟨by rw [HRE.out], hb9⟩
        simp [results, Act.put, run_loadVar_row _ _ 24 24 _ _ _ hr Tryz.underlying24 rfl info54, Tryz.results6, asAddr]
end Go.Proofs.YtjcdnaandbockaaGreat

namespace Go.Proofs.YtjcdnaandbockaaGreat
open Go.RowKit Go.Shelf
attribute [local go_sem] Oper.semAt_some
set_option maxRecDepth 100000
set_option maxHeartbeats 1000000

theorem four (w : World) (A B C D : Obj) : Below w.heap.size w ((((w.alloc A).alloc B).alloc C).alloc D) ∧ ((((w.alloc A).alloc B).alloc C).alloc D).heap[w.heap.size]? = some A ∧ ((((w.alloc A).alloc B).alloc C).alloc D).heap[w.heap.size + 1]? = some B ∧
    ((((w.alloc A).alloc B).alloc C).alloc D).heap[w.heap.size + 2]? = some C ∧ ((((w.alloc A).alloc B).alloc C).alloc D).heap[w.heap.size + 3]? = some D ∧ ((((w.alloc A).alloc B).alloc C).alloc D).heap.size = w.heap.size + 4 := by
  obtain ⟨h1, h2, h3, h4, h5⟩ := three w A B C
  refine ⟨h1.alloc (by rw [h5]; omega) _, heap_alloc_keep _ _ _ _ h2, heap_alloc_keep _ _ _ _ h3, heap_alloc_keep _ _ _ _ h4, ?_, by simp⟩
  have := heap_alloc_new (((w.alloc A).alloc B).alloc C) D
  rwa [h5] at this
theorem store_row {w : World} {g : Nat} {cs : Array Value} {t : TypeId} (i : Nat) (h : w.heap[g]? = some (.cells cs t (0, 0))) (v : Value) (hi : i < cs.size) (h1 : v.oneCell' = true) : (store ⟨g, i, none⟩ v).run Tryz.prog w = .ok () (w.setCell ⟨g, i, none⟩ v) := by
  rw [run_store Tryz.prog w ⟨g, i, none⟩ v _ h1, cellR i h (by rw [Array.getElem?_eq_getElem hi])]
  simp [frozen_of_row w g i _ _ h]
def ptr (b : Nat) : Value := .pointer (some ⟨b, 0, none⟩)
def fnv (n : Nat) (cs : Array Value) : Value := .func (.func n) #[] cs
theorem info95 : (Tryz.prog.info? 80).map (·.size) = some 2 := by kernel_rfl
theorem begin_gen (op kind : Int) (n : Nat) (cs : Array Value) (hne : ¬ (op = 1 ∧ kind = 2)) (w : World) : Calls Tryz.prog 43 #[rA op kind (fnv n cs)] w fun e w' =>
    e = .returned (.agg #[fnv 68 #[ptr (w.heap.size + 3), ptr w.heap.size, ptr (w.heap.size + 2)], fnv 69 #[ptr (w.heap.size + 2)]]) ∧
    w'.heap[w.heap.size]? = some (.cells #[.int .i64 op, .int .i64 kind, fnv n cs] 67 (0, 0)) ∧ w'.heap[w.heap.size + 2]? = some (.cells #[.int .u64 0, .int .i64 0] 24 (0, 0)) ∧ w'.heap[w.heap.size + 3]? = some (.cells #[.bool false] 4 (0, 0)) ∧
    Below w.heap.size w w' := by
  unfold rA fnv ptr
  by_cases ho : op = 1
  · have hk : ¬ kind = 2 := fun h => hne ⟨ho, h⟩
    subst ho
    clear hne
    have hst0 := store_row 0 (four w (.cells #[.int .i64 1, .int .i64 kind, .func (.func n) #[] cs] 67) (.cells #[.nilFunc, .nilFunc] 80) (.cells #[.int .u64 0, .int .i64 0] 24) (.cells #[.bool false] 4)).2.2.1 (.func (.func 68) #[] #[.pointer (some ⟨w.heap.size + 1 + 1 + 1, 0, none⟩), .pointer (some ⟨w.heap.size, 0, none⟩), .pointer (some ⟨w.heap.size + 1 + 1, 0, none⟩)]) (by simp) rfl
    have hst1 := store_row 1 (four w (.cells #[.int .i64 1, .int .i64 kind, .func (.func n) #[] cs] 67) (.cells #[.func (.func 68) #[] #[.pointer (some ⟨w.heap.size + 1 + 1 + 1, 0, none⟩), .pointer (some ⟨w.heap.size, 0, none⟩), .pointer (some ⟨w.heap.size + 1 + 1, 0, none⟩)], .nilFunc] 80) (.cells #[.int .u64 0, .int .i64 0] 24) (.cells #[.bool false] 4)).2.2.1 (.func (.func 69) #[] #[.pointer (some ⟨w.heap.size + 1 + 1, 0, none⟩)]) (by simp) rfl
    obtain ⟨hb, h1, h2, h3, h4, hz⟩ := four w (.cells #[.int .i64 1, .int .i64 kind, .func (.func n) #[] cs] 67) (.cells #[.func (.func 68) #[] #[.pointer (some ⟨w.heap.size + 1 + 1 + 1, 0, none⟩), .pointer (some ⟨w.heap.size, 0, none⟩), .pointer (some ⟨w.heap.size + 1 + 1, 0, none⟩)], .func (.func 69) #[] #[.pointer (some ⟨w.heap.size + 1 + 1, 0, none⟩)]] 80) (.cells #[.int .u64 0, .int .i64 0] 24) (.cells #[.bool false] 4)
    have HB := Lib.hid hb
    have H1 := Lib.hid h1
    have H2 := Lib.hid h2
    have H3 := Lib.hid h3
    have H4 := Lib.hid h4
    clear h1 h2 h3 h4 hb hz
    go_enter Tryz.func43, Tryz.ntmps43
    go_wp2_with fail
    refine bodyPost_ret (v := .agg #[.func (.func 68) #[] #[.pointer (some ⟨w.heap.size + 1 + 1 + 1, 0, none⟩), .pointer (some ⟨w.heap.size, 0, none⟩), .pointer (some ⟨w.heap.size + 1 + 1, 0, none⟩)], .func (.func 69) #[] #[.pointer (some ⟨w.heap.size + 1 + 1, 0, none⟩)]]) ?_ rfl ⟨rfl, H1.out, H3.out, H4.out, HB.out⟩
    simp [results, Act.put, run_loadVar_row _ _ 80 80 _ _ _ H2.out Tryz.underlying80 rfl info95, Tryz.results43, asAddr]
  · clear hne
    have hst0 := store_row 0 (four w (.cells #[.int .i64 op, .int .i64 kind, .func (.func n) #[] cs] 67) (.cells #[.nilFunc, .nilFunc] 80) (.cells #[.int .u64 0, .int .i64 0] 24) (.cells #[.bool false] 4)).2.2.1 (.func (.func 68) #[] #[.pointer (some ⟨w.heap.size + 1 + 1 + 1, 0, none⟩), .pointer (some ⟨w.heap.size, 0, none⟩), .pointer (some ⟨w.heap.size + 1 + 1, 0, none⟩)]) (by simp) rfl
    have hst1 := store_row 1 (four w (.cells #[.int .i64 op, .int .i64 kind, .func (.func n) #[] cs] 67) (.cells #[.func (.func 68) #[] #[.pointer (some ⟨w.heap.size + 1 + 1 + 1, 0, none⟩), .pointer (some ⟨w.heap.size, 0, none⟩), .pointer (some ⟨w.heap.size + 1 + 1, 0, none⟩)], .nilFunc] 80) (.cells #[.int .u64 0, .int .i64 0] 24) (.cells #[.bool false] 4)).2.2.1 (.func (.func 69) #[] #[.pointer (some ⟨w.heap.size + 1 + 1, 0, none⟩)]) (by simp) rfl
    obtain ⟨hb, h1, h2, h3, h4, hz⟩ := four w (.cells #[.int .i64 op, .int .i64 kind, .func (.func n) #[] cs] 67) (.cells #[.func (.func 68) #[] #[.pointer (some ⟨w.heap.size + 1 + 1 + 1, 0, none⟩), .pointer (some ⟨w.heap.size, 0, none⟩), .pointer (some ⟨w.heap.size + 1 + 1, 0, none⟩)], .func (.func 69) #[] #[.pointer (some ⟨w.heap.size + 1 + 1, 0, none⟩)]] 80) (.cells #[.int .u64 0, .int .i64 0] 24) (.cells #[.bool false] 4)
    have HB := Lib.hid hb
    have H1 := Lib.hid h1
    have H2 := Lib.hid h2
    have H3 := Lib.hid h3
    have H4 := Lib.hid h4
    clear h1 h2 h3 h4 hb hz
    go_enter Tryz.func43, Tryz.ntmps43
    go_wp2_with fail
    refine bodyPost_ret (v := .agg #[.func (.func 68) #[] #[.pointer (some ⟨w.heap.size + 1 + 1 + 1, 0, none⟩), .pointer (some ⟨w.heap.size, 0, none⟩), .pointer (some ⟨w.heap.size + 1 + 1, 0, none⟩)], .func (.func 69) #[] #[.pointer (some ⟨w.heap.size + 1 + 1, 0, none⟩)]]) ?_ rfl ⟨rfl, H1.out, H3.out, H4.out, HB.out⟩
    simp [results, Act.put, run_loadVar_row _ _ 80 80 _ _ _ H2.out Tryz.underlying80 rfl info95, Tryz.results43, asAddr]
end Go.Proofs.YtjcdnaandbockaaGreat

namespace Go.Proofs.YtjcdnaandbockaaGreat
open Go.RowKit Go.Shelf
attribute [local go_sem] Oper.semAt_some litZ litF0 fA_set2
set_option maxRecDepth 100000
set_option maxHeartbeats 1000000

theorem beginExact_any (w : World) : Calls Tryz.prog 67 #[] w fun e w' => ∃ b, w.heap.size ≤ b ∧ e = .returned (.agg #[fnv 87 #[ptr b], fnv 88 #[ptr b]]) ∧ FAt w' b ⟨0, 0, 0⟩ ∧ Below w.heap.size w w' := by
  unfold fnv ptr
  have hst0 := store_row 0 (two w (.cells #[.nilFunc, .nilFunc] 80) (.cells (fA ⟨0, 0, 0⟩) 87)).2.1 (.func (.func 87) #[] #[.pointer (some ⟨w.heap.size + 1, 0, none⟩)]) (by simp) rfl
  have hst1 := store_row 1 (two w (.cells #[.func (.func 87) #[] #[.pointer (some ⟨w.heap.size + 1, 0, none⟩)], .nilFunc] 80) (.cells (fA ⟨0, 0, 0⟩) 87)).2.1 (.func (.func 88) #[] #[.pointer (some ⟨w.heap.size + 1, 0, none⟩)]) (by simp) rfl
  obtain ⟨hb, h1, h2, hz⟩ := two w (.cells #[.func (.func 87) #[] #[.pointer (some ⟨w.heap.size + 1, 0, none⟩)], .func (.func 88) #[] #[.pointer (some ⟨w.heap.size + 1, 0, none⟩)]] 80) (.cells (fA ⟨0, 0, 0⟩) 87)
  have HB := Lib.hid hb
  have H1 := Lib.hid h1
  have H2 := Lib.hid h2
  clear h1 h2 hb hz
  go_enter Tryz.func67, Tryz.ntmps67
  go_wp2_with fail
  refine bodyPost_ret (v := .agg #[.func (.func 87) #[] #[.pointer (some ⟨w.heap.size + 1, 0, none⟩)], .func (.func 88) #[] #[.pointer (some ⟨w.heap.size + 1, 0, none⟩)]]) ?_ rfl ⟨w.heap.size + 1, Nat.le_succ _, rfl, H2.out, HB.out⟩
  simp [results, Act.put, run_loadVar_row _ _ 80 80 _ _ _ H1.out Tryz.underlying80 rfl info95, Tryz.results67, asAddr]
theorem begin_exact (n : Nat) (cs : Array Value) (w : World) : Calls Tryz.prog 43 #[rA 1 2 (fnv n cs)] w fun e w' => ∃ b, w.heap.size ≤ b ∧ e = .returned (.agg #[fnv 87 #[ptr b], fnv 88 #[ptr b]]) ∧ FAt w' b ⟨0, 0, 0⟩ ∧ Below w.heap.size w w' := by
  unfold rA
  unfold fnv
  obtain ⟨hb, h1, h2, hz⟩ := two w (.cells #[.int .i64 1, .int .i64 2, .func (.func n) #[] cs] 67) (.cells #[.nilFunc, .nilFunc] 80)
  have he := beginExact_any ((w.alloc (.cells #[.int .i64 1, .int .i64 2, .func (.func n) #[] cs] 67)).alloc (.cells #[.nilFunc, .nilFunc] 80))
  unfold fnv ptr at he
  have HB := Lib.hid hb
  have H2 := Lib.hid h2
  have HZ := Lib.hid hz
  clear hb h1 h2 hz
  go_enter Tryz.func43, Tryz.ntmps43
  go_wp2_with fail
  generalize (w.alloc (.cells #[.int .i64 1, .int .i64 2, .func (.func n) #[] cs] 67)).alloc (.cells #[.nilFunc, .nilFunc] 80) = X at *
  refine he.mono ?_
  rintro e w1 ⟨b, hbx, rfl, hf, hb1⟩
  have hz := HZ.out
  have G2 := heapB hb1 H2.out
  have hne : b ≠ w.heap.size + 1 := by omega
  have hst0 := store_row 0 G2 (.func (.func 87) #[] #[.pointer (some ⟨b, 0, none⟩)]) (by simp) rfl
  have G3 := heap_setCell_same w1 _ 0 _ _ (.func (.func 87) #[] #[.pointer (some ⟨b, 0, none⟩)]) G2
  have hst1 := store_row 1 G3 (.func (.func 88) #[] #[.pointer (some ⟨b, 0, none⟩)]) (by simp) rfl
  have G4 := Lib.hid (heap_setCell_same _ _ 1 _ _ (.func (.func 88) #[] #[.pointer (some ⟨b, 0, none⟩)]) G3)
  have GB := Lib.hid (((HB.out.trans (hb1.mono (by omega))).setCell (p := ⟨w.heap.size + 1, 0, none⟩) (Nat.le_succ _) (.func (.func 87) #[] #[.pointer (some ⟨b, 0, none⟩)])).setCell (p := ⟨w.heap.size + 1, 1, none⟩) (Nat.le_succ _) (.func (.func 88) #[] #[.pointer (some ⟨b, 0, none⟩)]))
  have GF : Hid (FAt ((w1.setCell ⟨w.heap.size + 1, 0, none⟩ (.func (.func 87) #[] #[.pointer (some ⟨b, 0, none⟩)])).setCell ⟨w.heap.size + 1, 1, none⟩ (.func (.func 88) #[] #[.pointer (some ⟨b, 0, none⟩)])) b ⟨0, 0, 0⟩) := (heap_setCell_other _ _ _ _ hne).trans ((heap_setCell_other _ _ _ _ hne).trans hf)
  clear G2 G3 hb1 hf HB H2 he hne
  go_wp2_with fail
  refine bodyPost_ret (v := .agg #[.func (.func 87) #[] #[.pointer (some ⟨b, 0, none⟩)], .func (.func 88) #[] #[.pointer (some ⟨b, 0, none⟩)]]) ?_ rfl ⟨b, by omega, rfl, GF.out, GB.out⟩
  simp [results, Act.put, run_loadVar_row _ _ 80 80 _ _ _ G4.out Tryz.underlying80 rfl info95, Tryz.results43, asAddr]
end Go.Proofs.YtjcdnaandbockaaGreat

namespace Go.Proofs.YtjcdnaandbockaaGreat
open Go.RowKit Go.Shelf
attribute [local go_sem] Oper.semAt_some litZ litF0 fA_set2
set_option maxRecDepth 100000
set_option maxHeartbeats 1000000

theorem f81 {w : World} {b : Nat} {f : Facts} {u : Vl} (hf : FAt w b f) (hok : f.Ok) (hu : u.Ok) : Calls Tryz.prog 87 #[vA u, ptr b] w fun e w' => e = .returned (.tuple #[]) ∧ FAt w' b (joinF f (factsN u.x)) ∧ Sole b w w' := by
  obtain ⟨x, p⟩ := u
  have hx : x < 18446744073709551616 := hu.x
  unfold ptr vA
  have hb := (Below.refl w.heap.size w).alloc (Nat.le_refl _) (.cells #[.int .u64 x, .int .i64 p] 24)
  have h1 := heap_alloc_new w (.cells #[.int .u64 x, .int .i64 p] 24)
  have c0 := cellR 0 h1 rfl
  have HF : Hid (FAt (w.alloc (.cells #[.int .u64 x, .int .i64 p] 24)) b f) := heapB hb hf
  have HS : Hid (Sole b w (w.alloc (.cells #[.int .u64 x, .int .i64 p] 24))) := .of_below hb
  have hfa := factsOf_any x hx (w.alloc (.cells #[.int .u64 x, .int .i64 p] 24))
  clear hb h1 hf hu
  go_enter Tryz.func87, Tryz.ntmps87
  go_wp2_with fail
  generalize w.alloc (.cells #[.int .u64 x, .int .i64 p] 24) = X at *
  refine hfa.mono ?_
  rintro e w1 ⟨rfl, hb1⟩
  have HF1 : Hid (FAt w1 b f) := heapB hb1 HF.out
  have HS1 := Lib.hid (HS.out.trans (.of_below hb1))
  clear hfa hb1 HF HS c0
  go_wp2_with fail
  refine (join_any HF1.out hok (factsN_ok hx)).mono ?_
  rintro e w2 ⟨rfl, h2, hs2⟩
  have HS2 := HS1.out.trans hs2
  clear HS1 hs2 HF1
  go_wp2_with fail
  exact bodyPost_end (results_none rfl _ _ _) rfl ⟨rfl, h2, HS2⟩
theorem f82 {w : World} {b : Nat} {f : Facts} (hf : FAt w b f) (hok : f.Ok) (hfit : absN f.V < 2 ^ 2240) : Calls Tryz.prog 88 #[ptr b] w fun e w' => e = .returned (vA ⟨valueN f, 0⟩) ∧ Below w.heap.size w w' := by
  unfold ptr vA
  have hb := (Below.refl w.heap.size w).alloc (Nat.le_refl _) (.cells #[.int .u64 0, .int .i64 0] 24)
  have h1 := heap_alloc_new w (.cells #[.int .u64 0, .int .i64 0] 24)
  have hv := value_any (FAt.fin (show FAt (w.alloc (.cells #[.int .u64 0, .int .i64 0] 24)) b f from heapB hb hf)) hok.saw hok.V hfit
  have HB := Lib.hid hb
  have H1 := Lib.hid h1
  clear hb h1 hf hok hfit
  obtain ⟨r, hr⟩ : ∃ r, r = valueN f := ⟨_, rfl⟩
  rw [← hr] at hv ⊢
  clear hr
  have hz : (w.alloc (.cells #[.int .u64 0, .int .i64 0] 24)).heap.size = w.heap.size + 1 := by simp
  go_enter Tryz.func88, Tryz.ntmps88
  go_wp2_with fail
  generalize w.alloc (.cells #[.int .u64 0, .int .i64 0] 24) = X at *
  refine hv.mono ?_
  rintro e w1 ⟨rfl, hb1⟩
  have H3 := Lib.hid (heapB hb1 H1.out)
  have HB1 := Lib.hid (HB.out.trans (hb1.mono HB.out.size))
  have d0 := cellR 0 H3.out rfl
  have d1 := cellR 1 H3.out rfl
  have f0 := frozen_of_row _ _ 0 _ _ H3.out
  have f1 := frozen_of_row _ _ 1 _ _ H3.out
  have l0 := (Array.getElem?_eq_some_iff.1 H3.out).1
  clear hv hb1 H1 HB
  go_wp2_with fail
  have hr := put2 H3.out (.int .u64 r) (.int .i64 0)
  have hb9 := (HB1.out.setCell (p := ⟨w.heap.size, 0, none⟩) (Nat.le_refl _) (.int .u64 r)).setCell (p := ⟨w.heap.size, 1, none⟩) (Nat.le_refl _) (.int .i64 0)
  refine bodyPost_ret (v := .agg #[.int .u64 r, .int .i64 0]) ?_ rfl ⟨rfl, hb9⟩
  simp [results, Act.put, run_loadVar_row _ _ 24 24 _ _ _ hr Tryz.underlying24 rfl info54, Tryz.results88, asAddr]
theorem f68 {w : World} {b : Nat} {u : Vl} (h : w.heap[b]? = some (.cells #[.int .u64 u.x, .int .i64 u.p] 24 (0, 0))) : Calls Tryz.prog 69 #[ptr b] w fun e w' => e = .returned (vA u) ∧ Below w.heap.size w w' := by
  obtain ⟨x, p⟩ := u
  unfold ptr vA
  have hb := (Below.refl w.heap.size w).alloc (Nat.le_refl _) (.cells #[.int .u64 0, .int .i64 0] 24)
  have h1 := heap_alloc_new w (.cells #[.int .u64 0, .int .i64 0] 24)
  have h0 := heapB hb h
  have c0 := cellR 0 h0 rfl
  have c1 := cellR 1 h0 rfl
  have d0 := cellR 0 h1 rfl
  have d1 := cellR 1 h1 rfl
  have f0 := frozen_of_row _ _ 0 _ _ h1
  have f1 := frozen_of_row _ _ 1 _ _ h1
  have l0 := (Array.getElem?_eq_some_iff.1 h1).1
  have HB := Lib.hid hb
  have H1 := Lib.hid h1
  clear hb h1 h0 h
  go_enter Tryz.func69, Tryz.ntmps69
  go_wp2_with fail
  have hr := heap_alloc_new w (.cells #[.int .u64 x, .int .i64 p] 24)
  have hb9 := (Below.refl w.heap.size w).alloc (Nat.le_refl _) (.cells #[.int .u64 x, .int .i64 p] 24)
  refine bodyPost_ret (v := .agg #[.int .u64 x, .int .i64 p]) ?_ rfl ⟨rfl, hb9⟩
  simp [results, Act.put, run_loadVar_row _ _ 24 24 _ _ _ hr Tryz.underlying24 rfl info54, Tryz.results69, asAddr]
end Go.Proofs.YtjcdnaandbockaaGreat

namespace Go.Proofs.YtjcdnaandbockaaGreat
open Go.RowKit Go.Shelf
attribute [local go_sem] Oper.semAt_some
set_option maxRecDepth 100000
set_option maxHeartbeats 1000000

/-- all blocks but two are as they were -/
structure Duo (a b : Nat) (w w' : World) : Prop where
  os : w'.os = w.os
  tape : w'.tape = w.tape
  output : w'.output = w.output
  size : w.heap.size ≤ w'.heap.size
  block : ∀ k, k < w.heap.size → k ≠ a → k ≠ b → w'.heap[k]? = w.heap[k]?
theorem Duo.of_below {a b : Nat} {w w' : World} (h : Below w.heap.size w w') : Duo a b w w' := ⟨h.os, h.tape, h.output, h.size, fun k hk _ _ => h.block k hk⟩
theorem Duo.trans {a b : Nat} {u v w : World} (h : Duo a b u v) (h' : Duo a b v w) : Duo a b u w :=
  ⟨h'.os.trans h.os, h'.tape.trans h.tape, h'.output.trans h.output, Nat.le_trans h.size h'.size, fun k hk h1 h2 => (h'.block k (Nat.lt_of_lt_of_le hk h.size) h1 h2).trans (h.block k hk h1 h2)⟩
theorem Duo.of_sole {a b : Nat} {w w' : World} (h : Sole b w w') : Duo a b w w' := ⟨h.os, h.tape, h.output, h.size, fun k hk _ h2 => h.block k hk h2⟩
theorem Duo.of_sole' {a b : Nat} {w w' : World} (h : Sole a w w') : Duo a b w w' := ⟨h.os, h.tape, h.output, h.size, fun k hk h1 _ => h.block k hk h1⟩
theorem put1 {w : World} {g : Nat} {a : Value} {t : TypeId} (h : w.heap[g]? = some (.cells #[a] t (0, 0))) (x : Value) : (w.setCell ⟨g, 0, none⟩ x).heap[g]? = some (.cells #[x] t (0, 0)) := by
  have h1 := heap_setCell_same w g 0 _ t x h
  simpa using h1
theorem set2 {g : Nat} (w : World) (x y : Value) : Sole g w ((w.setCell ⟨g, 0, none⟩ x).setCell ⟨g, 1, none⟩ y) := (Sole.set x).trans (Sole.set y)
def firstV (kind : Int) (u : Vl) : Vl := if kind = 2 then ⟨oneN u.x, 0⟩ else u
theorem f66_first {w : World} {bs br bo : Nat} {op kind : Int} {n : Nat} {cs : Array Value} {s u : Vl} (h1 : w.heap[bs]? = some (.cells #[.bool false] 4 (0, 0))) (h2 : w.heap[br]? = some (.cells #[.int .i64 op, .int .i64 kind, fnv n cs] 67 (0, 0)))
    (h3 : w.heap[bo]? = some (.cells #[.int .u64 s.x, .int .i64 s.p] 24 (0, 0))) (hne : bs ≠ bo) (hu : u.Ok) :
    Calls Tryz.prog 68 #[vA u, ptr bs, ptr br, ptr bo] w fun e w' => e = .returned (.tuple #[]) ∧ w'.heap[bs]? = some (.cells #[.bool true] 4 (0, 0)) ∧ w'.heap[bo]? = some (.cells #[.int .u64 (firstV kind u).x, .int .i64 (firstV kind u).p] 24 (0, 0)) ∧ Duo bs bo w w' := by
  obtain ⟨x, p⟩ := u
  obtain ⟨z, q⟩ := s
  have hb := (Below.refl w.heap.size w).alloc (Nat.le_refl _) (.cells #[.int .u64 x, .int .i64 p] 24)
  have h0 := heap_alloc_new w (.cells #[.int .u64 x, .int .i64 p] 24)
  have x0 := cellR 0 h0 rfl
  have x1 := cellR 1 h0 rfl
  have g1 := heapB hb h1
  have g2 := heapB hb h2
  have g3 := heapB hb h3
  have s0 := cellR 0 g1 rfl
  have r1 := cellR 1 g2 rfl
  have r2 := cellR 2 g2 rfl
  have d0 := cellR 0 g3 rfl
  have d1 := cellR 1 g3 rfl
  have f0 := frozen_of_row _ _ 0 _ _ g3
  have f1 := frozen_of_row _ _ 1 _ _ g3
  have l0 := (Array.getElem?_eq_some_iff.1 g3).1
  have fs := frozen_of_row _ _ 0 _ _ g1
  have ls := (Array.getElem?_eq_some_iff.1 g1).1
  have G1 := Lib.hid g1
  have G3 := Lib.hid g3
  have GD : Hid (Duo bs bo w (w.alloc (.cells #[.int .u64 x, .int .i64 p] 24))) := .of_below hb
  have hne1 : ¬ bo = bs := fun h => hne h.symm
  have hx : x < 18446744073709551616 := hu.x
  have hn := oneNaN_any x hx (w.alloc (.cells #[.int .u64 x, .int .i64 p] 24))
  clear hb h0 g1 g2 g3 h1 h2 h3 hu
  unfold ptr vA
  have HV : Hid (firstV kind ⟨x, p⟩ = if kind = 2 then ⟨oneN x, 0⟩ else ⟨x, p⟩) := rfl
  obtain ⟨F, hF⟩ : ∃ F, F = firstV kind ⟨x, p⟩ := ⟨_, rfl⟩
  rw [← hF] at HV ⊢
  clear hF
  obtain ⟨ox, hox⟩ : ∃ o, o = oneN x := ⟨_, rfl⟩
  rw [← hox] at HV hn
  clear hox
  by_cases hk : kind = 2
  · have HF : Hid (F = ⟨ox, 0⟩) := by rw [HV.out, if_pos hk]; rfl
    subst hk
    clear HV
    go_enter Tryz.func68, Tryz.ntmps68
    go_wp2_with fail
    generalize w.alloc (.cells #[.int .u64 x, .int .i64 p] 24) = X at *
    refine hn.mono ?_
    rintro e w' ⟨rfl, rfl⟩
    go_wp2_with fail
    have e1 := put2 G3.out (.int .u64 ox) (.int .i64 0)
    have e2 := (heap_setCell_other ((X).setCell ⟨bo, 0, none⟩ (.int .u64 ox)) ⟨bo, 1, none⟩ bs (.int .i64 0) hne).trans ((heap_setCell_other (X) ⟨bo, 0, none⟩ bs (.int .u64 ox) hne).trans G1.out)
    have e3 := put1 e2 (.bool true)
    have e4 := (heap_setCell_other (((X).setCell ⟨bo, 0, none⟩ (.int .u64 ox)).setCell ⟨bo, 1, none⟩ (.int .i64 0)) ⟨bs, 0, none⟩ bo (.bool true) hne1).trans e1
    have e5 := (GD.out.trans (.of_sole (set2 _ (.int .u64 ox) (.int .i64 0)))).trans (.of_sole' (Sole.set (b := bs) (o := 0) (.bool true)))
    exact bodyPost_end (results_none rfl _ _ _) rfl ⟨rfl, e3, by rw [HF.out]; exact e4, e5⟩
  · have HF : Hid (F = ⟨x, p⟩) := by rw [HV.out, if_neg hk]; rfl
    clear HV hn
    go_enter Tryz.func68, Tryz.ntmps68
    go_wp2_with fail
    have e1 := put2 G3.out (.int .u64 x) (.int .i64 p)
    have e2 := (heap_setCell_other ((w.alloc (.cells #[.int .u64 x, .int .i64 p] 24)).setCell ⟨bo, 0, none⟩ (.int .u64 x)) ⟨bo, 1, none⟩ bs (.int .i64 p) hne).trans ((heap_setCell_other (w.alloc (.cells #[.int .u64 x, .int .i64 p] 24)) ⟨bo, 0, none⟩ bs (.int .u64 x) hne).trans G1.out)
    have e3 := put1 e2 (.bool true)
    have e4 := (heap_setCell_other (((w.alloc (.cells #[.int .u64 x, .int .i64 p] 24)).setCell ⟨bo, 0, none⟩ (.int .u64 x)).setCell ⟨bo, 1, none⟩ (.int .i64 p)) ⟨bs, 0, none⟩ bo (.bool true) hne1).trans e1
    have e5 := (GD.out.trans (.of_sole (set2 _ (.int .u64 x) (.int .i64 p)))).trans (.of_sole' (Sole.set (b := bs) (o := 0) (.bool true)))
    exact bodyPost_end (results_none rfl _ _ _) rfl ⟨rfl, e3, by rw [HF.out]; exact e4, e5⟩
theorem f66_more {w : World} {bs br bo : Nat} {op kind : Int} {n : Nat} {cs : Array Value} {s u r : Vl} (h1 : w.heap[bs]? = some (.cells #[.bool true] 4 (0, 0))) (h2 : w.heap[br]? = some (.cells #[.int .i64 op, .int .i64 kind, fnv n cs] 67 (0, 0)))
    (h3 : w.heap[bo]? = some (.cells #[.int .u64 s.x, .int .i64 s.p] 24 (0, 0))) (hne : bs ≠ bo) (eg : ∀ args w, (callFunc n args).run Tryz.prog w = .ok (.enter n args) w)
    (hc : ∀ W, Below w.heap.size w W → Calls Tryz.prog n (#[vA s, vA u] ++ cs) W fun e w' => e = .returned (vA r) ∧ Below W.heap.size W w') :
    Calls Tryz.prog 68 #[vA u, ptr bs, ptr br, ptr bo] w fun e w' => e = .returned (.tuple #[]) ∧ w'.heap[bs]? = some (.cells #[.bool true] 4 (0, 0)) ∧ w'.heap[bo]? = some (.cells #[.int .u64 r.x, .int .i64 r.p] 24 (0, 0)) ∧ Duo bs bo w w' := by
  obtain ⟨x, p⟩ := u
  obtain ⟨z, q⟩ := s
  have hb := (Below.refl w.heap.size w).alloc (Nat.le_refl _) (.cells #[.int .u64 x, .int .i64 p] 24)
  have h0 := heap_alloc_new w (.cells #[.int .u64 x, .int .i64 p] 24)
  have x0 := cellR 0 h0 rfl
  have x1 := cellR 1 h0 rfl
  have g1 := heapB hb h1
  have g2 := heapB hb h2
  have g3 := heapB hb h3
  have s0 := cellR 0 g1 rfl
  have r1 := cellR 1 g2 rfl
  have r2 := cellR 2 g2 rfl
  have d0 := cellR 0 g3 rfl
  have d1 := cellR 1 g3 rfl
  have f0 := frozen_of_row _ _ 0 _ _ g3
  have f1 := frozen_of_row _ _ 1 _ _ g3
  have l0 := (Array.getElem?_eq_some_iff.1 g3).1
  have fs := frozen_of_row _ _ 0 _ _ g1
  have ls := (Array.getElem?_eq_some_iff.1 g1).1
  have G1 := Lib.hid g1
  have G3 := Lib.hid g3
  have GD : Hid (Duo bs bo w (w.alloc (.cells #[.int .u64 x, .int .i64 p] 24))) := .of_below hb
  have hne1 : ¬ bo = bs := fun h => hne h.symm
  have HC := hc _ hb
  clear hb h0 g1 g2 g3 h1 h2 h3 hc
  unfold fnv at r2
  unfold ptr vA
  unfold vA at HC
  have HCH := Lib.hid HC
  clear HC
  go_enter Tryz.func68, Tryz.ntmps68
  go_wp2_with fail
  generalize w.alloc (.cells #[.int .u64 x, .int .i64 p] 24) = X at *
  refine HCH.out.mono ?_
  rintro e w1 ⟨rfl, hb1⟩
  have K1 := Lib.hid (heapB hb1 G1.out)
  have K3 := Lib.hid (heapB hb1 G3.out)
  have KD := Lib.hid (GD.out.trans (.of_below hb1))
  clear HCH G1 G3 GD hb1 x0 x1 s0 r1 r2 d0 d1 f0 f1 l0 fs ls
  have G1 := K1
  have G3 := K3
  have GD := KD
  clear K1 K3 KD
  have d0 := cellR 0 G3.out rfl
  have d1 := cellR 1 G3.out rfl
  have f0 := frozen_of_row _ _ 0 _ _ G3.out
  have f1 := frozen_of_row _ _ 1 _ _ G3.out
  have l0 := (Array.getElem?_eq_some_iff.1 G3.out).1
  have s0 := cellR 0 G1.out rfl
  have fs := frozen_of_row _ _ 0 _ _ G1.out
  have ls := (Array.getElem?_eq_some_iff.1 G1.out).1
  go_wp2_with fail
  have e1 := put2 G3.out (.int .u64 r.x) (.int .i64 r.p)
  have e2 := (heap_setCell_other ((w1).setCell ⟨bo, 0, none⟩ (.int .u64 r.x)) ⟨bo, 1, none⟩ bs (.int .i64 r.p) hne).trans ((heap_setCell_other (w1) ⟨bo, 0, none⟩ bs (.int .u64 r.x) hne).trans G1.out)
  have e3 := put1 e2 (.bool true)
  have e4 := (heap_setCell_other (((w1).setCell ⟨bo, 0, none⟩ (.int .u64 r.x)).setCell ⟨bo, 1, none⟩ (.int .i64 r.p)) ⟨bs, 0, none⟩ bo (.bool true) hne1).trans e1
  have e5 := (GD.out.trans (.of_sole (set2 _ (.int .u64 r.x) (.int .i64 r.p)))).trans (.of_sole' (Sole.set (b := bs) (o := 0) (.bool true)))
  exact bodyPost_end (results_none rfl _ _ _) rfl ⟨rfl, e3, e4, e5⟩
end Go.Proofs.YtjcdnaandbockaaGreat

namespace Go.Proofs.YtjcdnaandbockaaGreat
open Go.RowKit Go.Shelf
set_option maxRecDepth 100000
set_option maxHeartbeats 1000000

theorem valueN_lt (f : Facts) : valueN f < 18446744073709551616 := by
  have h1 := nearN_le f.V
  have h2 := nearN_le (opp f.V)
  unfold valueN
  split
  · decide
  · split
    · decide
    · split
      · decide
      · split
        · decide
        · split <;> omega
theorem minS_cases (x y : Nat) : minS x y = x ∨ minS x y = y := by unfold minS; split <;> simp
theorem maxS_cases (x y : Nat) : maxS x y = x ∨ maxS x y = y := by unfold maxS; split <;> simp
theorem truthN_lt (f : Bool → Bool → Bool) (x y : Nat) : truthN f x y < 18446744073709551616 := by unfold truthN; split <;> decide
theorem intOp_lt (op : Int) {x y : Nat} (hx : x < 18446744073709551616) (hy : y < 18446744073709551616) : intOp op x y < 18446744073709551616 := by
  unfold intOp
  split
  · exact Nat.mod_lt _ (by decide)
  · split
    · exact Nat.mod_lt _ (by decide)
    · split
      · rcases minS_cases x y with h | h <;> rw [h] <;> assumption
      · split
        · rcases maxS_cases x y with h | h <;> rw [h] <;> assumption
        · split
          · exact Nat.lt_of_le_of_lt Nat.and_le_left hx
          · split
            · exact Nat.or_lt_two_pow (n := 64) hx hy
            · split
              · exact Nat.xor_lt_two_pow (n := 64) hx hy
              · split
                · exact truthN_lt _ _ _
                · exact truthN_lt _ _ _
theorem pickN_lt (f : Int → Bool) {x y : Nat} (hx : x < 18446744073709551616) (hy : y < 18446744073709551616) : pickN f x y < 18446744073709551616 := by
  unfold pickN
  split
  · decide
  · split <;> assumption
theorem realOp_lt (op : Int) {x y : Nat} (hx : x < 18446744073709551616) (hy : y < 18446744073709551616) : realOp op x y < 18446744073709551616 := by
  unfold realOp
  split
  · exact valueN_lt _
  · split <;> exact pickN_lt _ hx hy
theorem bestL_cases (n : Nat) (u v : Vl) : bestL n u v = u ∨ bestL n u v = v := by
  unfold bestL
  generalize orI _ _ = o
  split <;> simp
theorem ok0 {x : Nat} (hx : x < 18446744073709551616) : Vl.Ok ⟨x, 0⟩ := ⟨hx, show (-9223372036854775808 : Int) ≤ 0 by decide, show (0 : Int) < 9223372036854775808 by decide⟩
theorem opV_ok (op kind : Int) {u v : Vl} (hu : u.Ok) (hv : v.Ok) : (opV op kind u v).Ok := by
  unfold opV
  split
  · exact ok0 (intOp_lt op hu.x hv.x)
  · split
    · exact ok0 (realOp_lt op hu.x hv.x)
    · split
      · rcases bestL_cases 108 u v with h | h <;> rw [h] <;> assumption
      · rcases bestL_cases 109 u v with h | h <;> rw [h] <;> assumption
theorem firstV_ok (kind : Int) {u : Vl} (hu : u.Ok) : (firstV kind u).Ok := by
  unfold firstV
  split
  · exact ok0 (oneN_lt hu.x)
  · exact hu
/-- the result of an operation that is not the exact sum for a list -/
def accG (op kind : Int) : List Vl → Vl
  | [] => ⟨0, 0⟩
  | u :: l => l.foldl (opV op kind) (firstV kind u)
theorem accG_snoc (op kind : Int) {l : List Vl} (h : l ≠ []) (u : Vl) : accG op kind (l ++ [u]) = opV op kind (accG op kind l) u := by
  cases l with
  | nil => exact absurd rfl h
  | cons a l => simp [accG, List.foldl_append]
theorem foldl_ok (op kind : Int) : ∀ (l : List Vl) (a : Vl), a.Ok → (∀ u ∈ l, u.Ok) → (l.foldl (opV op kind) a).Ok
  | [], _, ha, _ => ha
  | u :: l, a, ha, h => foldl_ok op kind l _ (opV_ok op kind ha (h u (by simp))) fun v hv => h v (by simp [hv])
theorem accG_ok (op kind : Int) {l : List Vl} (h : ∀ u ∈ l, u.Ok) : (accG op kind l).Ok := by
  cases l with
  | nil => exact ok0 (by decide)
  | cons a l => exact foldl_ok op kind l _ (firstV_ok kind (h a (by simp))) fun v hv => h v (by simp [hv])
/-- what a list's exact sum knows -/
def foldF (l : List Vl) : Facts := l.foldl (fun f u => joinF f (factsN u.x)) ⟨0, 0, 0⟩
theorem foldF_snoc (l : List Vl) (u : Vl) : foldF (l ++ [u]) = joinF (foldF l) (factsN u.x) := by simp [foldF, List.foldl_append]
theorem ok_zero : Facts.Ok ⟨0, 0, 0⟩ := ⟨big_pos, by decide, by decide⟩
theorem foldl_okF : ∀ (l : List Vl) (f : Facts), f.Ok → (∀ u ∈ l, u.Ok) → (l.foldl (fun f u => joinF f (factsN u.x)) f).Ok
  | [], _, ha, _ => ha
  | u :: l, _, ha, h => foldl_okF l _ (joinF_ok ha (factsN_ok (h u (by simp)).x)) fun v hv => h v (by simp [hv])
theorem foldF_ok {l : List Vl} (h : ∀ u ∈ l, u.Ok) : (foldF l).Ok := foldl_okF l _ ok_zero h
theorem small_mul {n m : Nat} (hn : n ≤ 9223372036854775807) : n * mid + m * 0 + mid ≤ top := by
  have h1 := mid_top
  have h2 : (n + 1) * mid ≤ 9223372036854775808 * mid := Nat.mul_le_mul_right _ (by omega)
  rw [Nat.add_mul] at h2
  omega
theorem join_abs {f : Facts} {x n : Nat} (hf : f.Ok) (hx : x < 18446744073709551616) (hn : n ≤ 9223372036854775807) (h : (iv f.V).natAbs ≤ n * mid) : (iv (joinF f (factsN x)).V).natAbs ≤ (n + 1) * mid := by
  have h1 := factsN_abs hx
  have h2 := (factsN_ok hx).V
  have h3 := small_mul (m := 0) hn
  have ht : top ≤ 9223372036854775808 * top := Nat.le_mul_of_pos_left _ (by decide)
  show (iv ((f.V + (factsN x).V) % big)).natAbs ≤ _
  rw [Nat.add_mul]
  obtain ⟨T, hT⟩ : ∃ T, T = 9223372036854775808 * top := ⟨_, rfl⟩
  rw [iv_add hf.V h2 (by rw [← hT] at ht ⊢; omega) (by rw [← hT] at ht ⊢; omega)]
  omega
theorem foldl_absF : ∀ (l : List Vl) (f : Facts) (n : Nat), f.Ok → (∀ u ∈ l, u.Ok) → n + l.length ≤ 9223372036854775807 → (iv f.V).natAbs ≤ n * mid → (iv (l.foldl (fun f u => joinF f (factsN u.x)) f).V).natAbs ≤ (n + l.length) * mid
  | [], _, _, _, _, _, h => h
  | u :: l, f, n, ha, h, hl, hn => by
    have hl' : n + (l.length + 1) ≤ 9223372036854775807 := by simpa using hl
    have := foldl_absF l _ (n + 1) (joinF_ok ha (factsN_ok (h u (by simp)).x)) (fun v hv => h v (by simp [hv])) (by omega) (join_abs ha (h u (by simp)).x (by omega) hn)
    rw [show n + (u :: l).length = n + 1 + l.length by simp; omega]
    exact this
theorem foldF_fit {l : List Vl} (h : ∀ u ∈ l, u.Ok) (hl : l.length ≤ 9223372036854775807) : absN (foldF l).V < 2 ^ 2240 := by
  have h1 := foldl_absF l ⟨0, 0, 0⟩ 0 ok_zero h (by omega) (by show (iv 0).natAbs ≤ _; rw [iv_zero]; simp)
  have h2 := small_mul (m := 0) hl
  have h3 := mid_pos
  rw [abs_iv (foldF_ok h).V, ← top_eq]
  rw [Nat.zero_add] at h1
  exact Nat.lt_of_le_of_lt h1 (by omega)
/-- the result of an operation for a list -/
def accV (op kind : Int) (l : List Vl) : Vl := if op = 1 ∧ kind = 2 then ⟨valueN (foldF l), 0⟩ else accG op kind l
theorem accV_ok (op kind : Int) {l : List Vl} (h : ∀ u ∈ l, u.Ok) : (accV op kind l).Ok := by
  unfold accV
  split
  · exact ok0 (valueN_lt _)
  · exact accG_ok op kind h

/-- only blocks from B on, and below C, are changed -/
structure Mid (B C : Nat) (w w' : World) : Prop where
  os : w'.os = w.os
  tape : w'.tape = w.tape
  output : w'.output = w.output
  size : w.heap.size ≤ w'.heap.size
  block : ∀ k, k < w.heap.size → k < B ∨ C ≤ k → w'.heap[k]? = w.heap[k]?
theorem Mid.of_below {B C : Nat} {w w' : World} (h : Below w.heap.size w w') : Mid B C w w' := ⟨h.os, h.tape, h.output, h.size, fun k hk _ => h.block k hk⟩
theorem Mid.trans {B C : Nat} {u v w : World} (h : Mid B C u v) (h' : Mid B C v w) : Mid B C u w :=
  ⟨h'.os.trans h.os, h'.tape.trans h.tape, h'.output.trans h.output, Nat.le_trans h.size h'.size, fun k hk h1 => (h'.block k (Nat.lt_of_lt_of_le hk h.size) h1).trans (h.block k hk h1)⟩
theorem Mid.of_sole {B C b : Nat} {w w' : World} (h : Sole b w w') (h1 : B ≤ b) (h2 : b < C) : Mid B C w w' := ⟨h.os, h.tape, h.output, h.size, fun k hk h3 => h.block k hk (by omega)⟩
theorem Mid.of_duo {B C a b : Nat} {w w' : World} (h : Duo a b w w') (h1 : B ≤ b) (h2 : b < C) (h3 : B ≤ a) (h4 : a < C) : Mid B C w w' := ⟨h.os, h.tape, h.output, h.size, fun k hk h5 => h.block k hk (by omega) (by omega)⟩
theorem Mid.heap {B C k : Nat} {w w' : World} {o : Obj} (h : Mid B C w w') (hk : w.heap[k]? = some o) (h1 : k < B ∨ C ≤ k) : w'.heap[k]? = some o := (h.block k (Array.getElem?_eq_some_iff.1 hk).1 h1).trans hk
theorem Mid.below {B C A : Nat} {w w' : World} (h : Mid B C w w') (hA : A ≤ B) (hs : A ≤ w.heap.size) : Below A w w' := ⟨h.os, h.tape, h.output, h.size, fun k hk => h.block k (by omega) (.inl (by omega))⟩

/-- a reduction in memory, of blocks from B on and below C, that took the values of l: its functions are T and R -/
def Took (B C : Nat) (w : World) (T R : Value) (op kind : Int) (l : List Vl) : Prop :=
  ((op = 1 ∧ kind = 2) ∧ ∃ b, B ≤ b ∧ b < C ∧ T = fnv 87 #[ptr b] ∧ R = fnv 88 #[ptr b] ∧ FAt w b (foldF l)) ∨
  (¬ (op = 1 ∧ kind = 2) ∧ ∃ bs br bo n cs lo w1, T = fnv 68 #[ptr bs, ptr br, ptr bo] ∧ R = fnv 69 #[ptr bo] ∧ (B ≤ bs ∧ bs < C) ∧ (B ≤ bo ∧ bo < C) ∧ (bs ≠ bo ∧ br ≠ bs ∧ br ≠ bo ∧ br < C) ∧
    w.heap[bs]? = some (.cells #[.bool (!l.isEmpty)] 4 (0, 0)) ∧ w.heap[br]? = some (.cells #[.int .i64 op, .int .i64 kind, fnv n cs] 67 (0, 0)) ∧
    w.heap[bo]? = some (.cells #[.int .u64 (accG op kind l).x, .int .i64 (accG op kind l).p] 24 (0, 0)) ∧ Does lo w1 (fnv n cs) (opV op kind) ∧ Later lo w1 w ∧ w1.heap.size ≤ B)
theorem Took.keep {B C : Nat} {w w' : World} {T R : Value} {op kind : Int} {l : List Vl} (h : Took B C w T R op kind l) (hb : Below C w w') : Took B C w' T R op kind l := by
  rcases h with ⟨h0, b, h1, h2, h3, h4, h5⟩ | ⟨h0, bs, br, bo, n, cs, lo, w1, h1, h2, h3, h4, h5, h6, h7, h8, h9, h10, h11⟩
  · exact .inl ⟨h0, b, h1, h2, h3, h4, (hb.block b h2).trans h5⟩
  · refine .inr ⟨h0, bs, br, bo, n, cs, lo, w1, h1, h2, h3, h4, h5, (hb.block _ h3.2).trans h6, (hb.block _ h5.2.2.2).trans h7, (hb.block _ h4.2).trans h8, h9, ?_, h11⟩
    refine ⟨Nat.le_trans h10.size hb.size, fun k hk1 hk2 => (hb.block k (by omega)).trans (h10.block k hk1 hk2)⟩
end Go.Proofs.YtjcdnaandbockaaGreat

namespace Go.Proofs.YtjcdnaandbockaaGreat
open Go.RowKit Go.Shelf
set_option maxRecDepth 100000
set_option maxHeartbeats 1000000

theorem fnv_inj {n m : Nat} {cs ds : Array Value} (h : fnv n cs = fnv m ds) : n = m ∧ cs = ds := by
  unfold fnv at h
  injection h with h1 h2 h3
  injection h1 with h1
  exact ⟨h1, h3⟩
theorem Took.form {B C : Nat} {w : World} {T R : Value} {op kind : Int} {l : List Vl} (h : Took B C w T R op kind l) : ∃ n cs m ds, T = fnv n cs ∧ R = fnv m ds ∧ Enters n ∧ Enters m := by
  rcases h with ⟨h0, b, h1, h2, h3, h4, h5⟩ | ⟨h0, bs, br, bo, n, cs, lo, w1, h1, h2, _⟩
  · exact ⟨_, _, _, _, h3, h4, enters_of Tryz.func87 (by kernel_rfl) rfl, enters_of Tryz.func88 (by kernel_rfl) rfl⟩
  · exact ⟨_, _, _, _, h1, h2, enters_of Tryz.func68 (by kernel_rfl) rfl, enters_of Tryz.func69 (by kernel_rfl) rfl⟩
theorem take_any {B C : Nat} {w : World} {n m : Nat} {cs ds : Array Value} {op kind : Int} {l : List Vl} {u : Vl} (h : Took B C w (fnv n cs) (fnv m ds) op kind l) (hl : ∀ v ∈ l, v.Ok) (hu : u.Ok) :
    Calls Tryz.prog n (#[vA u] ++ cs) w fun e w' => e = .returned (.tuple #[]) ∧ Took B C w' (fnv n cs) (fnv m ds) op kind (l ++ [u]) ∧ Mid B C w w' := by
  rcases h with ⟨h0, b, h1, h2, h3, h4, h5⟩ | ⟨h0, bs, br, bo, k, es, lo, w1, h1, h2, h3, h4, h5, h6, h7, h8, h9, h10, h11⟩
  · obtain ⟨rfl, rfl⟩ := fnv_inj h3
    refine (f81 h5 (foldF_ok hl) hu).mono ?_
    rintro e w' ⟨rfl, hf, hs⟩
    refine ⟨rfl, .inl ⟨h0, b, h1, h2, rfl, h4, ?_⟩, .of_sole hs h1 h2⟩
    rw [foldF_snoc]; exact hf
  · obtain ⟨rfl, rfl⟩ := fnv_inj h1
    obtain ⟨n9, cs9, e9, eg, hdo⟩ := h9
    have hd9 : Does lo w1 (fnv k es) (opV op kind) := ⟨n9, cs9, e9, eg, hdo⟩
    obtain ⟨rfl, rfl⟩ := fnv_inj (show fnv k es = fnv n9 cs9 from e9)
    have fin : ∀ (r : Vl) (e : Ending) (w' : World), accG op kind (l ++ [u]) = r → (e = .returned (.tuple #[]) ∧ w'.heap[bs]? = some (.cells #[.bool true] 4 (0, 0)) ∧ w'.heap[bo]? = some (.cells #[.int .u64 r.x, .int .i64 r.p] 24 (0, 0)) ∧ Duo bs bo w w') →
        e = .returned (.tuple #[]) ∧ Took B C w' (fnv 68 #[ptr bs, ptr br, ptr bo]) (fnv m ds) op kind (l ++ [u]) ∧ Mid B C w w' := by
      rintro r e w' hr ⟨he, g1, g2, g3⟩
      refine ⟨he, .inr ⟨h0, bs, br, bo, k, es, lo, w1, rfl, h2, h3, h4, h5, ?_, (g3.block br (Array.getElem?_eq_some_iff.1 h7).1 h5.2.1 h5.2.2.1).trans h7, ?_, hd9, ?_, h11⟩, .of_duo g3 h4.1 h4.2 h3.1 h3.2⟩
      · rw [g1]; simp
      · rw [hr]; exact g2
      · exact ⟨Nat.le_trans h10.size g3.size, fun q hq1 hq2 => (g3.block q (Nat.lt_of_lt_of_le hq2 h10.size) (by omega) (by omega)).trans (h10.block q hq1 hq2)⟩
    cases l with
    | nil =>
      refine (f66_first (n := k) (cs := es) (op := op) (kind := kind) h6 h7 h8 h5.1 hu).mono ?_
      intro e w' hh
      exact fin _ e w' rfl hh
    | cons a l =>
      refine (f66_more (op := op) (kind := kind) (r := opV op kind (accG op kind (a :: l)) u) h6 h7 h8 h5.1 eg ?_).mono ?_
      · intro W hW
        exact hdo W _ _ (accG_ok op kind hl) hu (h10.trans (.of_below hW))
      · intro e w' hh
        exact fin _ e w' (accG_snoc op kind (by simp) u) hh
theorem result_any {B C : Nat} {w : World} {T : Value} {m : Nat} {ds : Array Value} {op kind : Int} {l : List Vl} (h : Took B C w T (fnv m ds) op kind l) (hl : ∀ v ∈ l, v.Ok) (hlen : l.length ≤ 9223372036854775807) :
    Calls Tryz.prog m ds w fun e w' => e = .returned (vA (accV op kind l)) ∧ Below w.heap.size w w' := by
  unfold accV
  rcases h with ⟨h0, b, h1, h2, h3, h4, h5⟩ | ⟨h0, bs, br, bo, k, es, lo, w1, h1, h2, h3, h4, h5, h6, h7, h8, h9, h10, h11⟩
  · obtain ⟨rfl, rfl⟩ := fnv_inj h4
    rw [if_pos h0]
    exact f82 h5 (foldF_ok hl) (foldF_fit hl hlen)
  · obtain ⟨rfl, rfl⟩ := fnv_inj h2
    rw [if_neg h0]
    exact f68 h8
theorem begin_any (op kind : Int) {n : Nat} {cs : Array Value} {lo : Nat} {w : World} (hd : Does lo w (fnv n cs) (opV op kind)) : Calls Tryz.prog 43 #[rA op kind (fnv n cs)] w fun e w' =>
    ∃ T R, e = .returned (.agg #[T, R]) ∧ Took w.heap.size w'.heap.size w' T R op kind [] ∧ Below w.heap.size w w' := by
  by_cases h0 : op = 1 ∧ kind = 2
  · obtain ⟨rfl, rfl⟩ := h0
    refine (begin_exact n cs w).mono ?_
    rintro e w' ⟨b, hb, rfl, hf, hbb⟩
    exact ⟨_, _, rfl, .inl ⟨⟨rfl, rfl⟩, b, hb, hf.lt, rfl, rfl, hf⟩, hbb⟩
  · refine (begin_gen op kind n cs h0 w).mono ?_
    rintro e w' ⟨rfl, h1, h2, h3, hb⟩
    have l3 := (Array.getElem?_eq_some_iff.1 h3).1
    exact ⟨_, _, rfl, .inr ⟨h0, w.heap.size + 3, w.heap.size, w.heap.size + 2, n, cs, lo, w, rfl, rfl, ⟨by omega, l3⟩, ⟨by omega, by omega⟩, ⟨by omega, by omega, by omega, by omega⟩, h3, h1, h2, hd, .of_below hb, Nat.le_refl _⟩, hb⟩
end Go.Proofs.YtjcdnaandbockaaGreat
