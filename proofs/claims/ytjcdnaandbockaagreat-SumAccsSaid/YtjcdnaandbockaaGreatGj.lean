import Derived.Test.YtjcdnaandbockaaGreatGi
import Derived.Lib.AppendZeros
namespace Go.Proofs.YtjcdnaandbockaaGreat
open Go.RowKit Go.Shelf
attribute [local go_sem] Oper.semAt_some
set_option maxRecDepth 100000
set_option maxHeartbeats 1000000

theorem takeS (l : List Vl) (k : Nat) (h : k < l.length) : l.take k ++ [l[k]] = l.take (k + 1) := List.take_append_getElem h
def redE (op kind : Int) (l : List Vl) : Int := if findE op kind ≠ 0 then findE op kind else if l = [] then 2 else if allowsL kind l = true then 0 else 2
def redV (op kind : Int) (l : List Vl) : Vl := if redE op kind l = 0 then accV op kind l else ⟨0, 0⟩
theorem Reduce_any (op kind : Int) {w : World} {a : Option Addr} {l : List Vl} (h : Vls w a l) (cap : Nat) : Calls Tryz.prog 16 #[.int .i64 op, .int .i64 kind, .slice a l.length cap] w fun e w' => e = .returned (.tuple #[vA (redV op kind l), .int .i64 (redE op kind l)]) ∧ Below w.heap.size w w' := by
  have hlen := h.len
  have HLW := Lib.hid h
  have hb := (Below.refl w.heap.size w).alloc (Nat.le_refl _) (.cells #[.int .u64 0, .int .i64 0] 24)
  have h3 := heap_alloc_new w (.cells #[.int .u64 0, .int .i64 0] 24)
  have hz : (w.alloc (.cells #[.int .u64 0, .int .i64 0] 24)).heap.size = w.heap.size + 1 := by simp
  have hf := find_any op kind (w.alloc (.cells #[.int .u64 0, .int .i64 0] 24))
  have HE : Hid (redE op kind l = if findE op kind ≠ 0 then findE op kind else if l = [] then 2 else if allowsL kind l = true then 0 else 2) := rfl
  have HV : Hid (redV op kind l = if redE op kind l = 0 then accV op kind l else ⟨0, 0⟩) := rfl
  obtain ⟨E, hE⟩ : ∃ E, E = redE op kind l := ⟨_, rfl⟩
  obtain ⟨R, hR⟩ : ∃ R, R = redV op kind l := ⟨_, rfl⟩
  obtain ⟨F, hF⟩ : ∃ F, F = findE op kind := ⟨_, rfl⟩
  rw [← hE] at HE HV ⊢
  rw [← hR] at HV ⊢
  rw [← hF] at HE hf
  clear hE hR hF
  have HL0 := Lib.hid (h.keep hb)
  have HB0 := Lib.hid hb
  have H30 := Lib.hid h3
  clear hb h3 h
  unfold vA
  go_enter Tryz.func16, Tryz.ntmps16
  go_wp2_with fail
  generalize w.alloc (.cells #[.int .u64 0, .int .i64 0] 24) = X at *
  refine hf.mono ?_
  rintro e w1 ⟨⟨h0, rfl⟩ | ⟨h0, n, cs, rfl, hd⟩, hb⟩
  · have hst := store_fnv (heap_alloc_new w1 (.cells #[.int .i64 0, .int .i64 0, .nilFunc] 67)) .nilFunc rfl
    have H3 := Lib.hid (heap_alloc_keep w1 (.cells #[.int .i64 0, .int .i64 0, .nilFunc] 67) _ _ (heapB hb H30.out))
    have HB := Lib.hid ((HB0.out.trans (hb.mono (by rw [hz]; omega))).alloc (by have := hb.size; omega) (.cells #[.int .i64 0, .int .i64 0, .nilFunc] 67))
    have HE2 : Hid (E = F) := by rw [HE.out, if_pos h0]; rfl
    have HR2 : Hid (R = ⟨0, 0⟩) := by rw [HV.out, if_neg (by rw [HE2.out]; exact h0)]; rfl
    have d0 := cellR 0 H3.out rfl
    have d1 := cellR 1 H3.out rfl
    have f0 := frozen_of_row _ _ 0 _ _ H3.out
    have f1 := frozen_of_row _ _ 1 _ _ H3.out
    have l0 := (Array.getElem?_eq_some_iff.1 H3.out).1
    have hF0 : ((F != 0) : Bool) = true := bne_iff_ne.2 h0
    clear hf hb HE HV HB0 H30 HL0
    go_wp2_with fail
    have hr := put2 H3.out (.int .u64 0) (.int .i64 0)
    have hb9 := (HB.out.setCell (p := ⟨w.heap.size, 0, none⟩) (Nat.le_refl _) (.int .u64 0)).setCell (p := ⟨w.heap.size, 1, none⟩) (Nat.le_refl _) (.int .i64 0)
    refine bodyPost_ret (v := .tuple #[.agg #[.int .u64 0, .int .i64 0], .int .i64 F]) ?_ rfl ⟨by rw [HE2.out, HR2.out]; rfl, hb9⟩
    simp [results, Act.put, run_loadVar_row _ _ 24 24 _ _ _ hr Tryz.underlying24 rfl info54, Tryz.results16, asAddr]
  · have hst := store_fnv (heap_alloc_new w1 (.cells #[.int .i64 op, .int .i64 kind, .nilFunc] 67)) (.func (.func n) #[] cs) rfl
    have hsz := hb.size
    have HL := Lib.hid ((HL0.out.keep hb).keep ((Below.refl w1.heap.size w1).alloc (Nat.le_refl _) (.cells #[.int .i64 op, .int .i64 kind, .func (.func n) #[] cs] 67)))
    have H3 := Lib.hid (heap_alloc_keep w1 (.cells #[.int .i64 op, .int .i64 kind, .func (.func n) #[] cs] 67) _ _ (heapB hb H30.out))
    have H4 := Lib.hid (heap_alloc_new w1 (.cells #[.int .i64 op, .int .i64 kind, .func (.func n) #[] cs] 67))
    have HB := Lib.hid ((HB0.out.trans (hb.mono (by rw [hz]; omega))).alloc (by omega) (.cells #[.int .i64 op, .int .i64 kind, .func (.func n) #[] cs] 67))
    have HD := Lib.hid (hd.later (.of_below ((Below.refl w1.heap.size w1).alloc (Nat.le_refl _) (.cells #[.int .i64 op, .int .i64 kind, .func (.func n) #[] cs] 67))))
    have HE2 : Hid (E = if l = [] then 2 else if allowsL kind l = true then 0 else 2) := by rw [HE.out, if_neg (by rw [h0]; decide)]; rfl
    subst h0
    unfold rA
    have c0 := cellR 0 H4.out rfl
    have c1 := cellR 1 H4.out rfl
    have c2 := cellR 2 H4.out rfl
    have d0 := cellR 0 H3.out rfl
    have d1 := cellR 1 H3.out rfl
    have f0 := frozen_of_row _ _ 0 _ _ H3.out
    have f1 := frozen_of_row _ _ 1 _ _ H3.out
    have l0 := (Array.getElem?_eq_some_iff.1 H3.out).1
    clear hf hb HE HB0 H30 hd HL0
    by_cases hn : l = []
    · have HE3 : Hid (E = 2) := by rw [HE2.out, if_pos hn]; rfl
      have HR2 : Hid (R = ⟨0, 0⟩) := by rw [HV.out, if_neg (by rw [HE3.out]; decide)]; rfl
      have hl0 : (l.length : Int) = 0 := by rw [hn]; rfl
      clear hn HE2 HV HL
      go_wp2_with fail
      have hr := put2 H3.out (.int .u64 0) (.int .i64 0)
      have hb9 := (HB.out.setCell (p := ⟨w.heap.size, 0, none⟩) (Nat.le_refl _) (.int .u64 0)).setCell (p := ⟨w.heap.size, 1, none⟩) (Nat.le_refl _) (.int .i64 0)
      refine bodyPost_ret (v := .tuple #[.agg #[.int .u64 0, .int .i64 0], .int .i64 2]) ?_ rfl ⟨by rw [HE3.out, HR2.out]; rfl, hb9⟩
      simp [results, Act.put, run_loadVar_row _ _ 24 24 _ _ _ hr Tryz.underlying24 rfl info54, Tryz.results16, asAddr]
    · have hl0 : ¬ (l.length : Int) = 0 := by
        intro h9; exact hn (List.length_eq_zero_iff.1 (by omega))
      have HE3 : Hid (E = if allowsL kind l = true then 0 else 2) := by rw [HE2.out, if_neg hn]; rfl
      have ha := allowsAll_any HL.out cap op kind n cs
      unfold rA at ha
      have HN := Lib.hid hn
      clear HE2 hn
      cases hA : allowsL kind l with
      | false =>
        rw [hA] at ha
        have HE4 : Hid (E = 2) := by rw [HE3.out, hA]; rfl
        have HR2 : Hid (R = ⟨0, 0⟩) := by rw [HV.out, if_neg (by rw [HE4.out]; decide)]; rfl
        clear HE3 HV hA
        go_wp2_with fail
        clear hst
        generalize w1.alloc (.cells #[.int .i64 op, .int .i64 kind, .func (.func n) #[] cs] 67) = X1 at *
        refine ha.mono ?_
        rintro e w2 ⟨rfl, hb2⟩
        have G3 := Lib.hid (heapB hb2 H3.out)
        have GB := Lib.hid (HB.out.trans (hb2.mono HB.out.size))
        clear c0 c1 c2 d0 d1 f0 f1 l0 H3 H4 HB HD hb2 ha HL
        have H3 := G3
        have HB := GB
        clear G3 GB
        have d0 := cellR 0 H3.out rfl
        have d1 := cellR 1 H3.out rfl
        have f0 := frozen_of_row _ _ 0 _ _ H3.out
        have f1 := frozen_of_row _ _ 1 _ _ H3.out
        have l0 := (Array.getElem?_eq_some_iff.1 H3.out).1
        go_wp2_with fail
        have hr := put2 H3.out (.int .u64 0) (.int .i64 0)
        have hb9 := (HB.out.setCell (p := ⟨w.heap.size, 0, none⟩) (Nat.le_refl _) (.int .u64 0)).setCell (p := ⟨w.heap.size, 1, none⟩) (Nat.le_refl _) (.int .i64 0)
        refine bodyPost_ret (v := .tuple #[.agg #[.int .u64 0, .int .i64 0], .int .i64 2]) ?_ rfl ⟨by rw [HE4.out, HR2.out]; rfl, hb9⟩
        simp [results, Act.put, run_loadVar_row _ _ 24 24 _ _ _ hr Tryz.underlying24 rfl info54, Tryz.results16, asAddr]
      | true =>
        rw [hA] at ha
        have HE4 : Hid (E = 0) := by rw [HE3.out, hA]; rfl
        have HR2 : Hid (R = accV op kind l) := by rw [HV.out, if_pos HE4.out]; rfl
        clear HE3 HV hA
        go_wp2_with fail
        clear hst
        generalize w1.alloc (.cells #[.int .i64 op, .int .i64 kind, .func (.func n) #[] cs] 67) = X1 at *
        refine ha.mono ?_
        rintro e w2 ⟨rfl, hb2⟩
        have G3 := Lib.hid (heapB hb2 H3.out)
        have G4 := Lib.hid (heapB hb2 H4.out)
        have GB := Lib.hid (HB.out.trans (hb2.mono HB.out.size))
        have GD := Lib.hid (HD.out.later (.of_below hb2))
        have GL := Lib.hid (HL.out.keep hb2)
        have HQ := Lib.hid G3.out
        clear c0 c1 c2 d0 d1 f0 f1 l0 H3 H4 HB HD hb2 ha HL
        have hbeg := begin_any op kind GD.out
        unfold rA fnv at hbeg
        have c0 := cellR 0 G4.out rfl
        have c1 := cellR 1 G4.out rfl
        have c2 := cellR 2 G4.out rfl
        go_wp2_with fail
        refine hbeg.mono ?_
        rintro e w3 ⟨T, S, rfl, hT, hb3⟩
        have hform := hT.form
        obtain ⟨nt, ct, nr, cr, rfl, rfl, en1, en2⟩ := hform
        have H3 := Lib.hid (heapB hb3 G3.out)
        have HB := Lib.hid (GB.out.trans (hb3.mono GB.out.size))
        have HL := Lib.hid (GL.out.keep hb3)
        clear c0 c1 c2 G3 G4 GB GD GL hbeg
        unfold fnv at hT
        unfold fnv
        have hst0 := store_row 0 (heap_alloc_new w3 (.cells #[.nilFunc, .nilFunc] 80)) (.func (.func nt) #[] ct) (by simp) rfl
        have hst1 := store_row 1 (heap_alloc_new w3 (.cells #[.func (.func nt) #[] ct, .nilFunc] 80)) (.func (.func nr) #[] cr) (by simp) rfl
        have hb4 := (Below.refl w3.heap.size w3).alloc (Nat.le_refl _) (.cells #[.func (.func nt) #[] ct, .func (.func nr) #[] cr] 80)
        have G3 := Lib.hid (heapB hb4 H3.out)
        have G5 := Lib.hid (heap_alloc_new w3 (.cells #[.func (.func nt) #[] ct, .func (.func nr) #[] cr] 80))
        have GB := Lib.hid (HB.out.trans (hb4.mono HB.out.size))
        have GL := Lib.hid (HL.out.keep hb4)
        have GT := Lib.hid (hT.keep hb4)
        clear H3 HB HL hT
        go_wp2_with fail
        have hB : w.heap.size < w2.heap.size := (Array.getElem?_eq_some_iff.1 HQ.out).1
        clear hst0 hst1 HQ
        have GT2 := Lib.hid GT.out
        have hC := hb3.size
        generalize w3.alloc (.cells #[.func (.func nt) #[] ct, .func (.func nr) #[] cr] 80) = Y at *
        clear hb4 hb3 GT GL
        go_loopw [39] (fun i wr => ∃ k : Nat, k ≤ l.length ∧ i = .int .i64 k ∧ Hid (Took w2.heap.size w3.heap.size wr (.func (.func nt) #[] ct) (.func (.func nr) #[] cr) op kind (l.take k)) ∧ Hid (Mid w2.heap.size w3.heap.size Y wr)) (fun i _ => l.length - (intOf i).toNat)
        case atStart => exact ⟨0, Nat.zero_le _, rfl, GT2.out, Mid.of_below (Below.refl _ _)⟩
        case round =>
          obtain ⟨k, hk, rfl, HT, HM⟩ := hrel
          have KB := Lib.hid (GB.out.trans (HM.out.below (show w.heap.size ≤ w2.heap.size by omega) GB.out.size))
          by_cases hlt : k < l.length
          · obtain ⟨gg, o, ha, hc⟩ := (HLW.out.keep KB.out).at_ HN.out
            subst ha
            obtain ⟨q0, q1⟩ := hc k hlt
            have t0 := cellR 0 (HM.out.heap G5.out (.inr (Nat.le_refl _))) rfl
            have hnx := heap_alloc_new wr (.cells #[.int .u64 (l[k]).x, .int .i64 (l[k]).p] 24)
            have hbx := (Below.refl wr.heap.size wr).alloc (Nat.le_refl _) (.cells #[.int .u64 (l[k]).x, .int .i64 (l[k]).p] 24)
            have tk := take_any (u := l[k]) (show Took w2.heap.size w3.heap.size (wr.alloc (.cells #[.int .u64 (l[k]).x, .int .i64 (l[k]).p] 24)) (fnv nt ct) (fnv nr cr) op kind (l.take k) from HT.out.keep (hbx.mono (Nat.le_of_lt (HM.out.heap G5.out (.inr (Nat.le_refl _)) |> fun h => (Array.getElem?_eq_some_iff.1 h).1)))) (fun v hv => HLW.out.ok v (List.mem_of_mem_take hv)) (HLW.out.ok _ (List.getElem_mem hlt))
            unfold vA at tk
            have TK := Lib.hid tk
            have HMX := Lib.hid (HM.out.trans (Mid.of_below (B := w2.heap.size) (C := w3.heap.size) hbx))
            have t0' := kcell hbx t0
            have eg1 : ∀ args w, (callFunc nt args).run Tryz.prog w = .ok (.enter nt args) w := en1
            clear tk hc hnx hbx
            go_wp2_with fail
            refine TK.out.mono ?_
            rintro e w9 ⟨rfl, hT9, hM9⟩
            have HT9 : Hid (Took w2.heap.size w3.heap.size w9 (.func (.func nt) #[] ct) (.func (.func nr) #[] cr) op kind (l.take (k + 1))) := by rw [← takeS l k hlt]; exact hT9
            have HM9 := Lib.hid (HMX.out.trans hM9)
            clear TK HMX hT9 hM9 HT HM KB t0 t0' q0 q1
            go_wp2_with fail
            go_round
            case rel => exact ⟨k + 1, by omega, by go_num, HT9, HM9⟩
            case measure => simp [intOf]; omega
          · have hkn : k = l.length := by omega
            subst hkn
            have hT9 := HT.out
            rw [List.take_length] at hT9
            have rs := Lib.hid (result_any (T := .func (.func nt) #[] ct) (m := nr) (ds := cr) hT9 HLW.out.ok hlen)
            have t1 := cellR 1 (HM.out.heap G5.out (.inr (Nat.le_refl _))) rfl
            have G9 := Lib.hid (HM.out.heap G3.out (.inl hB))
            have eg2 : ∀ args w, (callFunc nr args).run Tryz.prog w = .ok (.enter nr args) w := en2
            clear hT9 HT
            go_wp2_with fail
            refine rs.out.mono ?_
            rintro e w9 ⟨rfl, hb9⟩
            rw [← HR2.out]
            unfold vA
            have H3 := Lib.hid (heapB hb9 G9.out)
            have HB := Lib.hid (KB.out.trans (hb9.mono KB.out.size))
            clear rs t1 G9 KB HM hb9
            have d0 := cellR 0 H3.out rfl
            have d1 := cellR 1 H3.out rfl
            have f0 := frozen_of_row _ _ 0 _ _ H3.out
            have f1 := frozen_of_row _ _ 1 _ _ H3.out
            have l0 := (Array.getElem?_eq_some_iff.1 H3.out).1
            go_wp2_with fail
            have hr := put2 H3.out (.int .u64 R.x) (.int .i64 R.p)
            have hb9 := (HB.out.setCell (p := ⟨w.heap.size, 0, none⟩) (Nat.le_refl _) (.int .u64 R.x)).setCell (p := ⟨w.heap.size, 1, none⟩) (Nat.le_refl _) (.int .i64 R.p)
            refine bodyPost_ret (v := .tuple #[.agg #[.int .u64 R.x, .int .i64 R.p], .int .i64 0]) ?_ rfl ⟨by rw [HE4.out], hb9⟩
            simp [results, Act.put, run_loadVar_row _ _ 24 24 _ _ _ hr Tryz.underlying24 rfl info54, Tryz.results16, asAddr]
end Go.Proofs.YtjcdnaandbockaaGreat

namespace Go.Proofs.YtjcdnaandbockaaGreat
open Go.RowKit Go.Shelf
attribute [local go_sem] Oper.semAt_some
set_option maxRecDepth 100000
set_option maxHeartbeats 1000000

/-- the cells of a list of values -/
def rowV (l : List Vl) : Array Value := Array.ofFn (n := 2 * l.length) fun j => if j.val % 2 = 0 then .int .u64 (l.getD (j.val / 2) ⟨0, 0⟩).x else .int .i64 (l.getD (j.val / 2) ⟨0, 0⟩).p
@[simp] theorem rowV_size (l : List Vl) : (rowV l).size = 2 * l.length := by simp [rowV]
theorem rowV_get (l : List Vl) (j : Nat) (h : j < 2 * l.length) : (rowV l)[j]? = some (if j % 2 = 0 then .int .u64 (l.getD (j / 2) ⟨0, 0⟩).x else .int .i64 (l.getD (j / 2) ⟨0, 0⟩).p) := by
  rw [Array.getElem?_eq_getElem (by simpa using h)]
  simp [rowV]
theorem rowV_x (l : List Vl) (k : Nat) (h : k < l.length) : (rowV l)[k * 2]? = some (.int .u64 (l[k]).x) := by
  rw [rowV_get l _ (by omega), if_pos (by omega), show k * 2 / 2 = k by omega]
  simp [h]
theorem rowV_p (l : List Vl) (k : Nat) (h : k < l.length) : (rowV l)[k * 2 + 1]? = some (.int .i64 (l[k]).p) := by
  rw [rowV_get l _ (by omega), if_neg (by omega), show (k * 2 + 1) / 2 = k by omega]
  simp [h]
def VRow (w : World) (g : Nat) (l : List Vl) : Prop := w.heap[g]? = some (.cells (rowV l) 24 (0, 0))
theorem VRow.lt {w : World} {g : Nat} {l : List Vl} (h : VRow w g l) : g < w.heap.size := (Array.getElem?_eq_some_iff.1 h).1
theorem VRow.vls {w : World} {g : Nat} {l : List Vl} (h : VRow w g l) (hl : l.length ≤ 9223372036854775807) (ho : ∀ u ∈ l, u.Ok) : Vls w (some ⟨g, 0, none⟩) l :=
  ⟨hl, ho, fun _ => ⟨g, 0, rfl, fun i hi => ⟨by rw [Nat.zero_add]; exact cellR _ h (rowV_x l i hi), by rw [Nat.zero_add]; exact cellR _ h (rowV_p l i hi)⟩⟩⟩
theorem VRow.put {w : World} {g : Nat} {l : List Vl} (h : VRow w g l) (k : Nat) (hk : k < l.length) (u : Vl) : VRow ((w.setCell ⟨g, k * 2, none⟩ (.int .u64 u.x)).setCell ⟨g, k * 2 + 1, none⟩ (.int .i64 u.p)) g (l.set k u) := by
  have h1 := heap_setCell_same w g (k * 2) _ _ (.int .u64 u.x) h
  have h2 := heap_setCell_same _ g (k * 2 + 1) _ _ (.int .i64 u.p) h1
  unfold VRow
  rw [h2]
  congr 2
  apply Array.ext_getElem?
  intro j
  rw [Array.getElem?_setIfInBounds, Array.getElem?_setIfInBounds]
  by_cases hj : j < 2 * l.length
  · rw [rowV_get (l.set k u) j (by simpa using hj), rowV_get l j hj]
    simp only [List.getD_eq_getElem?_getD, List.getElem?_set, Array.size_setIfInBounds, rowV_size]
    by_cases c1 : k * 2 + 1 = j
    · have d1 : k = j / 2 := by omega
      have d2 : ¬ j % 2 = 0 := by omega
      rw [if_pos c1, if_pos (by omega), if_neg d2, if_pos d1]
      have : j / 2 < l.length := by omega
      simp [hk]
    · rw [if_neg c1]
      by_cases c2 : k * 2 = j
      · have d1 : k = j / 2 := by omega
        have d2 : j % 2 = 0 := by omega
        rw [if_pos c2, if_pos (by omega), if_pos d2, if_pos d1]
        have : j / 2 < l.length := by omega
        simp [hk]
      · have d1 : ¬ k = j / 2 := by omega
        rw [if_neg c2, if_neg d1]
  · have c1 : ¬ k * 2 + 1 = j := by omega
    have c2 : ¬ k * 2 = j := by omega
    rw [if_neg c1, if_neg c2, Array.getElem?_eq_none (by simpa using hj), Array.getElem?_eq_none (by simpa using hj)]
theorem make_vals (n : Nat) (hn : n ≤ 17592186044416) (w : World) : (Instr.makeSlice 33 (.int .i64 n) (.int .i64 n)).run Tryz.prog w = .ok (.slice (some ⟨w.heap.size, 0, none⟩) n n) (w.alloc (.cells (rowV (List.replicate n ⟨0, 0⟩)) 24)) := by
  obtain ⟨i0, hi, hz0, hz1, hz2⟩ := info_parts (show (Tryz.prog.info? 24).map (fun i => (i.zero, i.size, i.bytes)) = some (some (.agg #[.int .u64 0, .int .i64 0]), 2, 16) by kernel_rfl)
  have := run_make (P := Tryz.prog) w 33 24 i0 (.agg #[.int .u64 0, .int .i64 0]) Tryz.underlying33 hi hz0 .i64 .i64 n n (by omega) (Int.le_refl _) (by rw [hz2]; omega) (by omega)
  rw [this, hz1]
  simp only [Int.toNat_natCast]
  congr 3
  unfold madeCells
  apply Array.ext
  · simp; omega
  · intro i h1 h2
    have h3 : i < 2 * n := by simpa using h2
    have e := rowV_get (List.replicate n ⟨0, 0⟩) i (by simpa using h3)
    rw [Array.getElem?_eq_getElem (by simpa using h3)] at e
    rw [Option.some.inj e]
    have h4 : i / 2 < n := by omega
    have h5 : i % 2 = 0 ∨ i % 2 = 1 := by omega
    rcases h5 with h5 | h5 <;> simp [Value.cells, h5, h4]
/-- the first k results of a scan -/
def outL (op kind : Int) (l : List Vl) (k : Nat) : List Vl := (List.range l.length).map fun i => if i < k then accV op kind (l.take (i + 1)) else ⟨0, 0⟩
@[simp] theorem outL_len (op kind : Int) (l : List Vl) (k : Nat) : (outL op kind l k).length = l.length := by simp [outL]
theorem outL_zero (op kind : Int) (l : List Vl) : outL op kind l 0 = List.replicate l.length ⟨0, 0⟩ := by
  apply List.ext_getElem
  · simp
  · intro i h1 h2; simp [outL]
theorem outL_set (op kind : Int) (l : List Vl) (k : Nat) : (outL op kind l k).set k (accV op kind (l.take (k + 1))) = outL op kind l (k + 1) := by
  apply List.ext_getElem
  · simp
  · intro i h1 h2
    simp only [List.getElem_set, outL, List.getElem_map, List.getElem_range]
    by_cases e : k = i
    · subst e; simp
    · rw [if_neg e]
      by_cases h : i < k
      · rw [if_pos h, if_pos (by omega)]
      · rw [if_neg h, if_neg (by omega)]
def scanV (op kind : Int) (l : List Vl) : List Vl := outL op kind l l.length
def scanE (op kind : Int) (l : List Vl) : Int := if findE op kind ≠ 0 then findE op kind else if allowsL kind l = true then 0 else 2
theorem Scan_any (op kind : Int) {w : World} {a : Option Addr} {l : List Vl} (h : Vls w a l) (h44 : l.length ≤ 17592186044416) (cap : Nat) : Calls Tryz.prog 18 #[.int .i64 op, .int .i64 kind, .slice a l.length cap] w fun e w' =>
    ((scanE op kind l ≠ 0 ∧ e = .returned (.tuple #[.slice none 0 0, .int .i64 (scanE op kind l)])) ∨ (scanE op kind l = 0 ∧ ∃ g, w.heap.size ≤ g ∧ e = .returned (.tuple #[.slice (some ⟨g, 0, none⟩) l.length l.length, .int .i64 0]) ∧ VRow w' g (scanV op kind l))) ∧ Below w.heap.size w w' := by
  have hlen := h.len
  have HLW := Lib.hid h
  have hf := find_any op kind w
  have HE : Hid (scanE op kind l = if findE op kind ≠ 0 then findE op kind else if allowsL kind l = true then 0 else 2) := rfl
  obtain ⟨E, hE⟩ : ∃ E, E = scanE op kind l := ⟨_, rfl⟩
  obtain ⟨F, hF⟩ : ∃ F, F = findE op kind := ⟨_, rfl⟩
  rw [← hE] at HE ⊢
  rw [← hF] at HE hf
  clear hE hF h
  go_enter Tryz.func18, Tryz.ntmps18
  go_wp2_with fail
  refine hf.mono ?_
  rintro e w1 ⟨⟨h0, rfl⟩ | ⟨h0, n, cs, rfl, hd⟩, hb⟩
  · have hst := store_fnv (heap_alloc_new w1 (.cells #[.int .i64 0, .int .i64 0, .nilFunc] 67)) .nilFunc rfl
    have HB := Lib.hid (hb.alloc hb.size (.cells #[.int .i64 0, .int .i64 0, .nilFunc] 67))
    have HE2 : Hid (E = F) := by rw [HE.out, if_pos h0]; rfl
    have hF0 : ((F != 0) : Bool) = true := bne_iff_ne.2 h0
    clear hf hb HE
    go_wp2_with fail
    go_ret2
    exact ⟨.inl ⟨by rw [HE2.out]; exact h0, by rw [HE2.out]; rfl⟩, HB.out⟩
  · have hst := store_fnv (heap_alloc_new w1 (.cells #[.int .i64 op, .int .i64 kind, .nilFunc] 67)) (.func (.func n) #[] cs) rfl
    have hsz := hb.size
    have HL := Lib.hid ((HLW.out.keep hb).keep ((Below.refl w1.heap.size w1).alloc (Nat.le_refl _) (.cells #[.int .i64 op, .int .i64 kind, .func (.func n) #[] cs] 67)))
    have H4 := Lib.hid (heap_alloc_new w1 (.cells #[.int .i64 op, .int .i64 kind, .func (.func n) #[] cs] 67))
    have HB := Lib.hid (hb.alloc hb.size (.cells #[.int .i64 op, .int .i64 kind, .func (.func n) #[] cs] 67))
    have HD := Lib.hid (hd.later (.of_below ((Below.refl w1.heap.size w1).alloc (Nat.le_refl _) (.cells #[.int .i64 op, .int .i64 kind, .func (.func n) #[] cs] 67))))
    have HE3 : Hid (E = if allowsL kind l = true then 0 else 2) := by rw [HE.out, if_neg (by rw [h0]; decide)]; rfl
    subst h0
    unfold rA
    have c0 := cellR 0 H4.out rfl
    have c1 := cellR 1 H4.out rfl
    have c2 := cellR 2 H4.out rfl
    clear hf hb HE hd
    have ha := allowsAll_any HL.out cap op kind n cs
    unfold rA at ha
    cases hA : allowsL kind l with
    | false =>
      rw [hA] at ha
      have HE4 : Hid (E = 2) := by rw [HE3.out, hA]; rfl
      clear HE3 hA
      go_wp2_with fail
      clear hst
      generalize w1.alloc (.cells #[.int .i64 op, .int .i64 kind, .func (.func n) #[] cs] 67) = X1 at *
      refine ha.mono ?_
      rintro e w2 ⟨rfl, hb2⟩
      have GB := Lib.hid (HB.out.trans (hb2.mono HB.out.size))
      clear c0 c1 c2 H4 HB HD hb2 ha HL
      go_wp2_with fail
      go_ret2
      exact ⟨.inl ⟨by rw [HE4.out]; decide, by rw [HE4.out]; rfl⟩, GB.out⟩
    | true =>
      rw [hA] at ha
      have HE4 : Hid (E = 0) := by rw [HE3.out, hA]; rfl
      clear HE3 hA
      go_wp2_with fail
      clear hst
      generalize w1.alloc (.cells #[.int .i64 op, .int .i64 kind, .func (.func n) #[] cs] 67) = X1 at *
      refine ha.mono ?_
      rintro e w2 ⟨rfl, hb2⟩
      have G4 := Lib.hid (heapB hb2 H4.out)
      have GB := Lib.hid (HB.out.trans (hb2.mono HB.out.size))
      have GD := Lib.hid (HD.out.later (.of_below hb2))
      clear c0 c1 c2 H4 HB HD hb2 ha HL
      have hbeg := begin_any op kind GD.out
      unfold rA fnv at hbeg
      have c0 := cellR 0 G4.out rfl
      have c1 := cellR 1 G4.out rfl
      have c2 := cellR 2 G4.out rfl
      go_wp2_with fail
      refine hbeg.mono ?_
      rintro e w3 ⟨T, S, rfl, hT, hb3⟩
      have hform := hT.form
      obtain ⟨nt, ct, nr, cr, rfl, rfl, en1, en2⟩ := hform
      have HB := Lib.hid (GB.out.trans (hb3.mono GB.out.size))
      have hw2 : w.heap.size ≤ w2.heap.size := GB.out.size
      have hC := hb3.size
      clear c0 c1 c2 G4 GB GD hbeg
      unfold fnv at hT
      unfold fnv
      have hst0 := store_row 0 (heap_alloc_new w3 (.cells #[.nilFunc, .nilFunc] 80)) (.func (.func nt) #[] ct) (by simp) rfl
      have hst1 := store_row 1 (heap_alloc_new w3 (.cells #[.func (.func nt) #[] ct, .nilFunc] 80)) (.func (.func nr) #[] cr) (by simp) rfl
      obtain ⟨hb4, g5, g6, hz6⟩ := two w3 (.cells #[.func (.func nt) #[] ct, .func (.func nr) #[] cr] 80) (.cells (rowV (List.replicate l.length ⟨0, 0⟩)) 24)
      have hmk := make_vals l.length h44 (w3.alloc (.cells #[.func (.func nt) #[] ct, .func (.func nr) #[] cr] 80))
      have G5 := Lib.hid g5
      have G6 : Hid (VRow ((w3.alloc (.cells #[.func (.func nt) #[] ct, .func (.func nr) #[] cr] 80)).alloc (.cells (rowV (List.replicate l.length ⟨0, 0⟩)) 24)) (w3.heap.size + 1) (outL op kind l 0)) := by show VRow _ _ _; rw [outL_zero]; exact g6
      have GB := Lib.hid (HB.out.trans (hb4.mono HB.out.size))
      have GT := Lib.hid (hT.keep hb4)
      clear HB hT g5 g6 hb4 hb3
      go_wp2_with fail
      clear hst0 hst1 hmk
      generalize (w3.alloc (.cells #[.func (.func nt) #[] ct, .func (.func nr) #[] cr] 80)).alloc (.cells (rowV (List.replicate l.length ⟨0, 0⟩)) 24) = Y at *
      have hGB := GB.out.size
      go_loopw [36] (fun i wr => ∃ k : Nat, k ≤ l.length ∧ i = .int .i64 k ∧ Hid (Took w2.heap.size w3.heap.size wr (.func (.func nt) #[] ct) (.func (.func nr) #[] cr) op kind (l.take k)) ∧ Hid (Below w2.heap.size Y wr) ∧ Hid (wr.heap[w3.heap.size]? = some (.cells #[.func (.func nt) #[] ct, .func (.func nr) #[] cr] 80 (0, 0))) ∧ Hid (VRow wr (w3.heap.size + 1) (outL op kind l k))) (fun i _ => l.length - (intOf i).toNat)
      case atStart => exact ⟨0, Nat.zero_le _, rfl, GT.out, Below.refl _ _ |>.mono (by omega), G5.out, G6.out⟩
      case round =>
        obtain ⟨k, hk, rfl, HT, HM, K5, K6⟩ := hrel
        have KB := Lib.hid (GB.out.trans (HM.out.mono hw2))
        have hwr : w2.heap.size ≤ wr.heap.size := by have := HM.out.size; omega
        by_cases hlt : k < l.length
        · obtain ⟨gg, o, ha, hc⟩ := (HLW.out.keep KB.out).at_ (by intro e; rw [e] at hlt; exact absurd hlt (Nat.not_lt_zero _))
          subst ha
          obtain ⟨q0, q1⟩ := hc k hlt
          have t0 := cellR 0 K5.out rfl
          have hbx := (Below.refl wr.heap.size wr).alloc (Nat.le_refl _) (.cells #[.int .u64 (l[k]).x, .int .i64 (l[k]).p] 24)
          have hcs := (Array.getElem?_eq_some_iff.1 K5.out).1
          have tk := take_any (u := l[k]) (show Took w2.heap.size w3.heap.size (wr.alloc (.cells #[.int .u64 (l[k]).x, .int .i64 (l[k]).p] 24)) (fnv nt ct) (fnv nr cr) op kind (l.take k) from HT.out.keep (hbx.mono (Nat.le_of_lt hcs))) (fun v hv => HLW.out.ok v (List.mem_of_mem_take hv)) (HLW.out.ok _ (List.getElem_mem hlt))
          unfold vA at tk
          have TK := Lib.hid tk
          have t0' := kcell hbx t0
          have HMX := Lib.hid (HM.out.trans (hbx.mono hwr))
          have KX5 := Lib.hid (heapB hbx K5.out)
          have KX6 : Hid (VRow (wr.alloc (.cells #[.int .u64 (l[k]).x, .int .i64 (l[k]).p] 24)) (w3.heap.size + 1) (outL op kind l k)) := heapB hbx K6.out
          have eg1 : ∀ args w, (callFunc nt args).run Tryz.prog w = .ok (.enter nt args) w := en1
          have eg2 : ∀ args w, (callFunc nr args).run Tryz.prog w = .ok (.enter nr args) w := en2
          clear tk hc K5 K6 HM HT KB hcs
          go_wp2_with fail
          refine TK.out.mono ?_
          rintro e w9 ⟨rfl, hT9, hM9⟩
          have HT9 : Hid (Took w2.heap.size w3.heap.size w9 (.func (.func nt) #[] ct) (.func (.func nr) #[] cr) op kind (l.take (k + 1))) := by rw [← takeS l k hlt]; exact hT9
          have hY2 : w2.heap.size ≤ (wr.alloc (.cells #[.int .u64 (l[k]).x, .int .i64 (l[k]).p] 24)).heap.size := by have := hbx.size; omega
          have K5 := Lib.hid (hM9.heap KX5.out (.inr (Nat.le_refl _)))
          have K6 : Hid (VRow w9 (w3.heap.size + 1) (outL op kind l k)) := hM9.heap KX6.out (.inr (Nat.le_succ _))
          have HM9 := Lib.hid (HMX.out.trans (hM9.below (Nat.le_refl _) hY2))
          have rs := Lib.hid (result_any (T := .func (.func nt) #[] ct) (m := nr) (ds := cr) HT9.out (fun v hv => HLW.out.ok v (List.mem_of_mem_take hv)) (by rw [List.length_take]; omega))
          have t1 := cellR 1 K5.out rfl
          clear TK HMX hT9 hM9 KX5 KX6 t0 t0' q0 q1 hY2
          go_wp2_with fail
          refine rs.out.mono ?_
          rintro e w10 ⟨rfl, hb10⟩
          have hk2 : k < (outL op kind l k).length := by rw [outL_len]; exact hlt
          obtain ⟨u, hu⟩ : ∃ u, u = accV op kind (l.take (k + 1)) := ⟨_, rfl⟩
          rw [← hu]
          have hC9 : w3.heap.size ≤ w9.heap.size := Nat.le_of_lt (Array.getElem?_eq_some_iff.1 K5.out).1
          have hC10 : w3.heap.size ≤ w10.heap.size := Nat.le_trans hC9 hb10.size
          have L6 := Lib.hid (heapB hb10 K6.out)
          have hs2 : Sole (w3.heap.size + 1) w10 ((w10.setCell ⟨w3.heap.size + 1, k * 2, none⟩ (.int .u64 u.x)).setCell ⟨w3.heap.size + 1, k * 2 + 1, none⟩ (.int .i64 u.p)) := (Sole.set _).trans (Sole.set _)
          have M6 : Hid (VRow ((w10.setCell ⟨w3.heap.size + 1, k * 2, none⟩ (.int .u64 u.x)).setCell ⟨w3.heap.size + 1, k * 2 + 1, none⟩ (.int .i64 u.p)) (w3.heap.size + 1) (outL op kind l (k + 1))) := by
            show VRow _ _ _
            rw [← outL_set, ← hu]
            exact VRow.put L6.out k hk2 u
          have M5 := Lib.hid (hs2.at_ (heapB hb10 K5.out) (by omega))
          have MT := Lib.hid ((HT9.out.keep (hb10.mono hC9)).keep (hs2.below (Nat.le_succ _) hC10))
          have MB := Lib.hid ((HM9.out.trans (hb10.mono (show w2.heap.size ≤ w9.heap.size by omega))).trans (hs2.below (show w2.heap.size ≤ w3.heap.size + 1 by omega) (by omega)))
          have d0 := cellR (k * 2) L6.out (rowV_x _ k hk2)
          have d1 := cellR (k * 2 + 1) L6.out (rowV_p _ k hk2)
          have f0 := frozen_of_row w10 _ (k * 2) _ _ L6.out
          have f1 := frozen_of_row w10 _ (k * 2 + 1) _ _ L6.out
          have l0 : w3.heap.size + 1 < w10.heap.size := (Array.getElem?_eq_some_iff.1 L6.out).1
          unfold vA
          clear rs t1 K5 K6 HM9 HT9 hb10 hs2 L6 hu
          go_wp2_with fail
          go_round
          case rel => exact ⟨k + 1, by omega, by go_num, MT, MB, M5, M6⟩
          case measure => simp [intOf]; omega
        · have hkn : k = l.length := by omega
          subst hkn
          clear HT K5
          go_wp2_with fail
          go_ret2
          exact ⟨.inr ⟨HE4.out, w3.heap.size + 1, by omega, rfl, K6.out⟩, KB.out⟩
end Go.Proofs.YtjcdnaandbockaaGreat

namespace Go.Proofs.YtjcdnaandbockaaGreat
open Go.RowKit Go.Shelf
attribute [local go_sem] Oper.semAt_some
set_option maxRecDepth 100000
set_option maxHeartbeats 1000000

def uvals (l : List Nat) : List Value := l.map fun x => Value.int .u64 (x : Nat)
/-- a block of numbers -/
def URow (w : World) (g : Nat) (l : List Nat) : Prop := w.heap[g]? = some (.cells (uvals l).toArray 22 (0, 0))
theorem URow.keep {w w' : World} {b : Nat} {l : List Nat} (h : URow w b l) (hb : Below w.heap.size w w') : URow w' b l := heapB hb h
theorem URow.cell {w : World} {b : Nat} {l : List Nat} (h : URow w b l) (i : Nat) (hi : i < l.length) : w.cell? ⟨b, i, none⟩ = some (.int .u64 (l[i] : Nat)) := by
  refine cellR i h ?_
  simp [uvals, hi]
def flatV : List Vl → List Value
  | [] => []
  | u :: l => .int .u64 u.x :: .int .i64 u.p :: flatV l
theorem flatV_len : ∀ l : List Vl, (flatV l).length = l.length * 2
  | [] => rfl
  | u :: l => by simp [flatV, flatV_len l]; omega
theorem flatV_append : ∀ (l m : List Vl), flatV (l ++ m) = flatV l ++ flatV m
  | [], _ => rfl
  | u :: l, m => by simp [flatV, flatV_append l m]
theorem flatV_x : ∀ (l : List Vl) (i : Nat) (h : i < l.length), (flatV l)[i * 2]? = some (.int .u64 (l[i]).x) ∧ (flatV l)[i * 2 + 1]? = some (.int .i64 (l[i]).p)
  | [], _, h => by simp at h
  | u :: l, 0, _ => ⟨rfl, rfl⟩
  | u :: l, i + 1, h => by
    have := flatV_x l i (by simpa using h)
    rw [show (i + 1) * 2 = i * 2 + 1 + 1 by omega, show i * 2 + 1 + 1 + 1 = (i * 2 + 1) + 1 + 1 by omega]
    simpa [flatV] using this
/-- a new slice of values -/
structure NewVls (B : Nat) (w : World) (v : Value) (l : List Vl) : Prop where
  own : w.ownsRow B 24 2 v l.length (flatV l)
  len : l.length ≤ 8796093022208
theorem NewVls.nil (B : Nat) (w : World) : NewVls B w (.slice none 0 0) [] := ⟨World.ownsRow_nil _ _ _ _, by simp⟩
theorem NewVls.vls {B : Nat} {w : World} {v : Value} {l : List Vl} (h : NewVls B w v l) (ho : ∀ u ∈ l, u.Ok) : ∃ a cap, v = .slice a l.length cap ∧ Vls w a l := by
  obtain ⟨h1, h2⟩ := h.own
  have hl := h.len
  rcases h2 with ⟨rfl, h3⟩ | ⟨g, cap, cur, rfl, h4, h5, h6, h7, h8, h9⟩
  · refine ⟨none, 0, by rw [h3], by omega, ho, fun hne => absurd (List.length_eq_zero_iff.1 h3) hne⟩
  · refine ⟨_, cap, rfl, by omega, ho, fun _ => ⟨g, 0, rfl, fun i hi => ?_⟩⟩
    have hx := flatV_x l i hi
    have key : ∀ (j : Nat) (u : Value), (flatV l)[j]? = some u → cur[j]? = some u := by
      intro j u hj
      rw [← h9, List.getElem?_take] at hj
      split at hj
      · simpa using hj
      · cases hj
    exact ⟨by rw [Nat.zero_add]; exact cellR _ h5 (key _ _ hx.1), by rw [Nat.zero_add]; exact cellR _ h5 (key _ _ hx.2)⟩
theorem append_val {w : World} {B : Nat} {v : Value} {l : List Vl} {u : Vl} {b : Nat} (hN : NewVls B w v l) (hl : l.length + 1 ≤ 8796093022208) (hb : w.heap[b]? = some (.cells #[.int .u64 u.x, .int .i64 u.p] 24 (0, 0))) (hB : B ≤ w.heap.size) :
    ∃ v' w1, (Builtin.append_ #[33, 33] 33 #[v, .slice (some ⟨b, 0, none⟩) 1 1]).run Tryz.prog w = .ok v' w1 ∧ NewVls B w1 v' (l ++ [u]) ∧ w.grownBy w1 v.ownBlock := by
  obtain ⟨i0, hi, hz0, hz1, hz2⟩ := info_parts (show (Tryz.prog.info? 24).map (fun i => (i.zero, i.size, i.bytes)) = some (some (.agg #[.int .u64 0, .int .i64 0]), 2, 16) by kernel_rfl)
  obtain ⟨v', w', h1, h2, h3, _, h5⟩ := run_append_own_at (P := Tryz.prog) w B 33 33 24 i0 (.agg #[.int .u64 0, .int .i64 0]) 2 16 Tryz.underlying33 hi hz0 hz1 hz2 rfl (by decide) v l.length (flatV l) hN.own ⟨b, 0, none⟩ 1 1 [.int .u64 u.x, .int .i64 u.p] (by simp)
    (fun j q hj => by rw [part_add, Nat.zero_add]; exact cellR j hb (by simpa using hj)) (by intro q hq; simp at hq; rcases hq with rfl | rfl <;> rfl) (by unfold maxLen; omega) (by omega) hB
  refine ⟨v', w', h1, ⟨?_, by simpa using hl⟩, h3⟩
  rw [flatV_append]
  simpa [flatV] using h2
theorem grown_below {w w' : World} {row : Option Nat} {B : Nat} (h : w.grownBy w' row) (hr : ∀ k, row = some k → B ≤ k) (hB : B ≤ w.heap.size) : Below B w w' :=
  ⟨h.os, h.tape, h.output, h.size, fun k hk => h.block k (by omega) (fun e => by have := hr k e.symm; omega)⟩
theorem reals_any {w : World} {g : Nat} {l : List Nat} (h : URow w g l) (hl : l.length ≤ 8796093022208) : Calls Tryz.prog 41 #[.slice (some ⟨g, 0, none⟩) l.length l.length] w fun e w' => ∃ v, e = .returned v ∧ NewVls w.heap.size w' v (l.map fun x => ⟨x, 0⟩) ∧ Below w.heap.size w w' := by
  have HU := Lib.hid h
  have hlen : l.length ≤ 9223372036854775807 := by omega
  clear h
  go_enter Tryz.func41, Tryz.ntmps41
  go_wp2_with fail
  go_loopw [3, 4] (fun v i wr => ∃ k : Nat, k ≤ l.length ∧ i = .int .i64 k ∧ Hid (NewVls w.heap.size wr v ((l.take k).map fun x => ⟨x, 0⟩)) ∧ Below w.heap.size w wr) (fun _ i _ => l.length - (intOf i).toNat)
  case atStart => exact ⟨0, Nat.zero_le _, rfl, NewVls.nil _ _, Below.refl _ _⟩
  case round =>
    obtain ⟨k, hk, rfl, HN, hb⟩ := hrel
    by_cases hlt : k < l.length
    · have c0 := (HU.out.keep hb).cell k hlt
      have hx := heap_alloc_new wr (.cells #[.int .u64 (l[k] : Nat), .int .i64 0] 24)
      have hbx := (Below.refl wr.heap.size wr).alloc (Nat.le_refl _) (.cells #[.int .u64 (l[k] : Nat), .int .i64 0] 24)
      obtain ⟨v', w1, hr, hn, hg⟩ := append_val (u := ⟨l[k], 0⟩) ⟨HN.out.own.alloc (.cells #[.int .u64 (l[k] : Nat), .int .i64 0] 24), HN.out.len⟩ (by simp; omega) hx (by have := hb.size; have := hbx.size; omega)
      have HR := Lib.hid hr
      have hlow := fun k h => (HN.out.own.lt k h).1
      have HB2 := Lib.hid ((hb.trans (hbx.mono hb.size)).trans (grown_below hg hlow (by have := hb.size; have := hbx.size; omega)))
      have HN2 : Hid (NewVls w.heap.size w1 v' ((l.take (k + 1)).map fun x => ⟨x, 0⟩)) := by
        show NewVls _ _ _ _
        rw [← List.take_append_getElem hlt, List.map_append]
        exact hn
      clear hr hn hg hx hbx hb HN hlow
      go_wp2_with (at_builtin; refine Lib.wpList_append_run _ rfl (.tmp 11) (.tmp 17) 33 33 rfl _ _ rfl rfl _ _ HR.out ?_)
      go_round
      case rel => exact ⟨k + 1, by omega, by go_num, HN2, HB2.out⟩
      case measure => simp [intOf]; omega
    · have hkn : k = l.length := by omega
      subst hkn
      have hN := HN.out
      rw [List.take_length] at hN
      have HN3 := Lib.hid hN
      clear HN hN
      go_wp2_with fail
      go_ret
      exact ⟨_, rfl, HN3.out, hb⟩
end Go.Proofs.YtjcdnaandbockaaGreat

namespace Go.Proofs.YtjcdnaandbockaaGreat
open Go.RowKit Go.Shelf
attribute [local go_sem] Oper.semAt_some
set_option maxRecDepth 100000
set_option maxHeartbeats 1000000

def eqV (u v : Vl) : Bool := decide (u.x = v.x ∧ u.p = v.p)
theorem eqV_iff (u v : Vl) : eqV u v = true ↔ u = v := by
  obtain ⟨x, p⟩ := u
  obtain ⟨y, q⟩ := v
  simp [eqV]
theorem part_x (x : Nat) (p : Int) (w : World) : (part 22 #[.int .u64 x, .int .i64 p] 0).run Tryz.prog w = .ok (.int .u64 x) w := by
  simp [part, isAgg, run_underlying Tryz.underlying22]
theorem part_p (x : Nat) (p : Int) (w : World) : (part 2 #[.int .u64 x, .int .i64 p] 1).run Tryz.prog w = .ok (.int .i64 p) w := by
  simp [part, isAgg, run_underlying Tryz.underlying2]
theorem run_equalV (x y : Nat) (p q : Int) (w : World) : (Op.equalIn 10000 24 (.agg #[.int .u64 x, .int .i64 p]) (.agg #[.int .u64 y, .int .i64 q])).run Tryz.prog w = .ok (eqV ⟨x, p⟩ ⟨y, q⟩) w := by
  rw [run_equalIn_struct w 9999 24 _ _ (by kernel_rfl) (by kernel_rfl)]
  have hfs : ∃ s0 s1 : Field, (Tryz.prog.fieldsOf 24).toList = [s0, s1] ∧ s0.name ≠ "_" ∧ s1.name ≠ "_" ∧ s0.type = 22 ∧ s0.offset = 0 ∧ s1.type = 2 ∧ s1.offset = 1 := by
    refine ⟨_, _, rfl, by decide, by decide, rfl, rfl, rfl, rfl⟩
  obtain ⟨s0, s1, hs, n0, n1, t0, o0, t1, o1⟩ := hfs
  rw [hs]
  simp only [Op.eqFields, n0, n1, t0, o0, t1, o1, ne_eq, not_false_eq_true, if_true, Sem.run_bind, part_x, part_p, Result.andThen_ok]
  have e33 : ∀ a b : Nat, (Op.equalIn 9999 22 (.int .u64 (a : Int)) (.int .u64 (b : Int))).run Tryz.prog w = .ok (decide (a = b)) w := fun a b => by
    rw [run_equalIn_int w 9998 22 .u64 .u64 _ _ Tryz.underlying22]
    congr 1
    rw [Bool.eq_iff_iff]; simp; omega
  have e2 : ∀ a b : Int, (Op.equalIn 9999 2 (.int .i64 a) (.int .i64 b)).run Tryz.prog w = .ok (decide (a = b)) w := fun a b => by
    rw [run_equalIn_int w 9998 2 .i64 .i64 _ _ Tryz.underlying2]
    congr 1
  rw [e33]
  unfold eqV
  by_cases h1 : x = y
  · by_cases h2 : p = q
    · simp [h1, h2, e2, part_p, Result.andThen]
    · simp [h1, h2, e2, part_p, Result.andThen]
  · simp [h1, Result.andThen]
theorem eql_V (x y : Nat) (p q : Int) (w : World) : (binOp .eql 24 (.agg #[.int .u64 x, .int .i64 p]) (.agg #[.int .u64 y, .int .i64 q])).run Tryz.prog w = .ok (.bool (eqV ⟨x, p⟩ ⟨y, q⟩)) w := by
  rw [run_eql_struct, run_equalV]
  simp
theorem neq_V (x y : Nat) (p q : Int) (w : World) : (binOp .neq 24 (.agg #[.int .u64 x, .int .i64 p]) (.agg #[.int .u64 y, .int .i64 q])).run Tryz.prog w = .ok (.bool (!eqV ⟨x, p⟩ ⟨y, q⟩)) w := by
  rw [run_neq_struct, run_equalV]
  simp
def sameL : List Vl → List Vl → Bool
  | [], [] => true
  | u :: l, v :: m => eqV u v && sameL l m
  | _, _ => false
theorem sameL_iff : ∀ l m : List Vl, sameL l m = true ↔ l = m
  | [], [] => by simp [sameL]
  | u :: l, v :: m => by simp [sameL, eqV_iff, sameL_iff l m]
  | [], _ :: _ => by simp [sameL]
  | _ :: _, [] => by simp [sameL]
theorem same_any {w : World} {a b : Option Addr} {l m : List Vl} (hl : Vls w a l) (hm : Vls w b m) (c d : Nat) : Calls Tryz.prog 15 #[.slice a l.length c, .slice b m.length d] w fun e w' => e = .returned (.bool (sameL l m)) ∧ Below w.heap.size w w' := by
  obtain ⟨r, hr⟩ : ∃ r, r = sameL l m := ⟨_, rfl⟩
  rw [← hr]
  have HR := Lib.hid hr
  have h1 := hl.len
  have h2 := hm.len
  have HL := Lib.hid hl
  have HM := Lib.hid hm
  clear hr hl hm
  by_cases he : l.length = m.length
  · have HEL := Lib.hid he
    rw [← he]
    clear he
    go_enter Tryz.func15, Tryz.ntmps15
    go_wp2_with fail
    go_loopw [5] (fun i wr => ∃ k : Nat, k ≤ l.length ∧ i = .int .i64 k ∧ Hid (l.take k = m.take k) ∧ Below w.heap.size w wr) (fun i _ => l.length - (intOf i).toNat)
    case atStart => exact ⟨0, Nat.zero_le _, rfl, by show _ = _; simp, Below.refl _ _⟩
    case round =>
      obtain ⟨k, hk, rfl, HK, hb⟩ := hrel
      by_cases hlt : k < l.length
      · have hlt2 : k < m.length := by rw [← HEL.out]; exact hlt
        obtain ⟨ga, oa, rfl, hca⟩ := (HL.out.keep hb).at_ (by intro e; rw [e] at hlt; exact absurd hlt (Nat.not_lt_zero _))
        obtain ⟨gb, ob, rfl, hcb⟩ := (HM.out.keep hb).at_ (by intro e; rw [e] at hlt2; exact absurd hlt2 (Nat.not_lt_zero _))
        obtain ⟨x0, x1⟩ := hca k hlt
        obtain ⟨y0, y1⟩ := hcb k hlt2
        have hne := neq_V (l[k]).x (m[k]).x (l[k]).p (m[k]).p
        obtain ⟨bb, hbb⟩ : ∃ b, b = eqV ⟨(l[k]).x, (l[k]).p⟩ ⟨(m[k]).x, (m[k]).p⟩ := ⟨_, rfl⟩
        rw [← hbb] at hne
        have HV : Hid (bb = true → l.take (k + 1) = m.take (k + 1)) := by
          intro hb1
          rw [hb1] at hbb
          have h9 := (eqV_iff _ _).1 hbb.symm
          have h8 : l[k] = m[k] := h9
          rw [← List.take_append_getElem hlt, ← List.take_append_getElem hlt2, HK.out, h8]
        have HV2 : Hid (bb = false → r = false) := by
          intro hb1
          rw [hb1] at hbb
          rw [HR.out]
          cases hs : sameL l m with
          | false => rfl
          | true =>
            have h9 := (sameL_iff l m).1 hs
            subst h9
            have h8 := (eqV_iff (l[k]) (l[k])).2 rfl
            have h7 : false = eqV l[k] l[k] := hbb
            rw [h8] at h7
            cases h7
        clear hbb hca hcb
        cases bb with
        | true =>
          go_wp2_with fail
          go_quiet (fail)
          go_wp2_with fail
          go_round
          case rel => exact ⟨k + 1, by omega, by go_num, (by first | exact HV.out trivial | exact HV.out rfl), below_drewN hb _⟩
          case measure => simp [intOf]; omega
        | false =>
          have HF := Lib.hid (HV2.out rfl)
          go_wp2_with fail
          go_quiet (fail)
          go_wp2_with fail
          go_ret
          exact ⟨by rw [HF.out]; rfl, below_drewN hb _⟩
      · have hkn : k = l.length := by omega
        subst hkn
        have HT : Hid (r = true) := by
          show _ = _
          rw [HR.out]
          have h9 := HK.out
          rw [List.take_length, HEL.out, List.take_length] at h9
          exact (sameL_iff _ _).2 h9
        go_wp2_with fail
        go_ret
        exact ⟨by rw [HT.out]; rfl, hb⟩
  · have hne : ¬ (l.length : Int) = (m.length : Int) := by omega
    have HT : Hid (r = false) := by
      show _ = _
      rw [HR.out]
      cases hs : sameL l m with
      | false => rfl
      | true => exact absurd (by rw [(sameL_iff l m).1 hs]) he
    clear he
    go_enter Tryz.func15, Tryz.ntmps15
    go_wp2_with fail
    go_ret
    exact ⟨by rw [HT.out]; rfl, Below.refl _ _⟩
end Go.Proofs.YtjcdnaandbockaaGreat
